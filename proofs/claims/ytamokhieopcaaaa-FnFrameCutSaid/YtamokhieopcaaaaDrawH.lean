/-
  DrawFrameGet: words that the call owns, from -1 to 10000, at most 45 of them, and a place from -2 to 27 or so.
-/
import Derived.Test.YtamokhieopcaaaaDrawG
namespace Go.Proofs.Ytamokhieopcaaaa
open Go.RowKit
set_option linter.unusedVariables false
set_option maxRecDepth 100000

theorem putF_rng (k s : Int) (xs : List Int) : Rng (-1) 10000 (putF k s xs) := by
  rcases hv : validF k s xs with _ | _
  · rw [putF, if_neg (by rw [hv]; simp)]; simp [Rng]
  · rw [putF, if_pos hv]
    have ha := allW_head hv
    have hs := sumFrom_rng (headF k s xs) 7 (by omega) (by omega) ha
    refine Rng.snoc (fun x hx => ?_) (by omega) (by omega)
    have := List.all_eq_true.1 ha x hx
    simp [okW] at this
    omega
theorem putF_short (k s : Int) (xs : List Int) : (putF k s xs).length ≤ 22 := by
  rcases hv : validF k s xs with _ | _
  · rw [putF, if_neg (by rw [hv]; simp)]; simp
  · have := (validF_iff.1 hv).2.2.1
    rw [putF, if_pos hv]; simp [headF]; omega

/-- what is drawn for FrameGet -/
def GetOut (w0 : World) (e : Ending) (w' : World) : Prop :=
  ∃ A m c ys at', e = .returned (.tuple #[.slice A m c, .int .i64 at']) ∧ Own w' w0.heap.size A m c ys ∧ m ≤ 45 ∧ Rng (-1) 10000 ys ∧ -2 ≤ at' ∧ at' ≤ 45 ∧ Below w0.heap.size w0 w'

set_option maxHeartbeats 3200000 in
theorem drawGet_any (A : Option Addr) (n c : Nat) (bs : Nat → Int) (w : World) (hb : Bytes w w.heap.size A n bs) (hn : n ≤ c) (hc : c ≤ maxLen) :
    Calls Try.prog 8 #[.slice A n c] w (GetOut w) := by
  go_enter Try.func8, Try.ntmps8
  go_wp2_with fail
  refine (open_any A n c bs _ hb hn hc).mono ?_
  rintro e w1 ⟨rfl, hr1, hB1⟩
  have hR := hr1.lt
  have HB1 := hide hB1
  clear hB1 hb
  go_wp2_with fail
  refine (frame_any _ 0 _ hr1 (by omega)).mono ?_
  rintro e w2 ⟨k, s, A2, n2, c2, xs, p2, rfl, ho2, hn2, hrng2, _, _, _, _, hp2, hp2', hr2, hg2⟩
  have hs2 := hg2.size
  have HB2 := hide (HB1.out.trans (below_of_grown' hg2 (B := w.heap.size) (by omega) (by intro q e; injection e with e; omega)))
  clear hg2 hr1
  go_wp2_with fail
  refine (specPut k s A2 n2 c2 _ xs _ ho2.ints (Nat.le_refl _) (by unfold maxLen; omega)).mono ?_
  rintro e w3 ⟨A3, n3, c3, rfl, ho3, hb3⟩
  have hs3 := hb3.size
  have hl3 := ho3.1
  have hsh := putF_short k s xs
  have hn3 : n3 ≤ 22 := by omega
  have HO3 := hide ho3.ints
  have HR3 := hide (hr2.below hb3)
  have HB3 := hide (HB2.out.trans (hb3.mono (by omega)))
  have hrg3 := putF_rng k s xs
  generalize putF k s xs = ys at HO3 hrg3
  clear ho2 ho3 hb3 hr2 hl3 hsh hrng2
  have hnm : 0 + n3 ≤ 17592186044416 := by omega
  go_wp2_with (at_builtin; refine wpList_append_ints rfl (.tmp 13) (.tmp 14) rfl w3.heap.size 0 0 w3.heap.size n3 c3 _ A3 [] ys rfl (Own.lit0 w3 _ (Nat.le_refl _)) rfl (HO3.out.alloc (Nat.le_refl _) _) hnm (by simp) ?_; intro A5 c5 w5 ho5 hg5 hat5; clear hat5; simp only [Nat.zero_add, List.nil_append] at ho5 ⊢)
  have hb5 := below_app0 (Below.refl w3.heap.size w3) (Nat.le_refl _) hg5
  have hs5 := hb5.size
  have HR5 := hide (HR3.out.below hb5)
  have HB5 := hide (HB3.out.trans (hb5.mono (by omega)))
  have HO5 := hide ho5
  clear hg5 hb5 ho5 HR3 HB3
  refine (frame_any _ p2 _ HR5.out (by omega)).mono ?_
  rintro e w6 ⟨k', s', A6, n6, c6, xs', p6, rfl, ho6, hn6, _, _, _, _, _, hp6, hp6', hr6, hg6⟩
  have hs6 := hg6.size
  have HB6 := hide (HB5.out.trans (below_of_grown' hg6 (B := w.heap.size) (by omega) (by intro q e; injection e with e; omega)))
  have HO56 := hide (HO5.out.kept hg6 (by intro q hq e; injection hq with hq; have := (HO5.out.block _ e).1; omega))
  clear hg6 HO5
  go_wp2_with fail
  refine (specPut k' s' A6 n6 c6 _ xs' _ ho6.ints (Nat.le_refl _) (by unfold maxLen; omega)).mono ?_
  rintro e w7 ⟨A7, n7, c7, rfl, ho7, hb7⟩
  have hs7 := hb7.size
  have hl7 := ho7.1
  have hsh := putF_short k' s' xs'
  have hn7 : n7 ≤ 22 := by omega
  have HO7 := hide ho7.ints
  have HO57 := hide (HO56.out.below hb7)
  have HR7 := hide (hr6.below hb7)
  have HB7 := hide (HB6.out.trans (hb7.mono (by omega)))
  have hrg7 := putF_rng k' s' xs'
  generalize putF k' s' xs' = zs at HO7 hrg7
  have hbl := HO57.out.block
  have HBL := hide hbl
  clear ho6 ho7 hb7 hr6 hl7 hsh HO56 hbl
  have hnm7 : n3 + n7 ≤ 17592186044416 := by omega
  have hbs : w3.heap.size ≤ w7.heap.size := by omega
  go_wp2_with (at_builtin; refine wpList_append_ints rfl (.tmp 15) (.tmp 18) rfl w3.heap.size n3 c5 w7.heap.size n7 c7 A5 A7 ys zs rfl HO57.out rfl HO7.out hnm7 hbs ?_; intro A8 c8 w8 ho8 hg8 hat8; clear hat8)
  have hs8 := hg8.size
  have hr8 := HR7.out.grown hg8 (fun q e => by have := (HBL.out q e).1; omega)
  have HB8 := hide (HB7.out.grown hg8 HB7.out.size (fun q e => by have := (HBL.out q e).1; omega))
  have HO8 := hide ho8.ints
  clear ho8 hg8
  refine (spoil_any _ p6 A8 (n3 + n7) c8 _ (ys ++ zs) _ hr8 HO8.out (Nat.le_refl _) (hrg3.app hrg7) (by omega) (by omega)).mono ?_
  rintro e w9 ⟨A9, n9, c9, vs, p9, rfl, ho9, hn9, hrg9, hp9, hp9', hr9, hg9⟩
  have hs9 := hg9.size
  have HB9 := hide (HB8.out.trans (below_of_grown' hg9 (B := w.heap.size) (by omega) (by intro q e; injection e with e; omega)))
  have HO9 := hide ho9
  clear ho9 hg9 hr8
  go_wp2_with fail
  refine (pick_any _ p9 6 _ hr9 (by omega) (by omega)).mono ?_
  rintro e w10 ⟨u, rfl, hu0, hu1, hr10, hg10⟩
  have hs10 := hg10.size
  have HB10 := hide (HB9.out.trans (below_of_grown' hg10 (B := w.heap.size) (by omega) (by intro q e; injection e with e; omega)))
  have HO10 := hide (HO9.out.kept hg10 (by intro q hq e; injection hq with hq; have := (HO9.out.block _ e).1; omega))
  clear hg10 hr9 HO9
  by_cases h0 : u = 0
  · subst h0
    go_wp2_with fail
    refine (pick_any _ _ 30 _ hr10 (by omega) (by omega)).mono ?_
    rintro e w11 ⟨v, rfl, hv0, hv1, hr11, hg11⟩
    have HB11 := hide (HB10.out.trans (below_of_grown' hg11 (B := w.heap.size) (by omega) (by intro q e; injection e with e; omega)))
    have HO11 := hide (HO10.out.kept hg11 (by intro q hq e; injection hq with hq; have := (HO10.out.block _ e).1; omega))
    clear hg11 hr11 hr10
    go_wp2
    go_ret2
    exact ⟨_, _, _, vs, _, rfl, HO11.out.mono (by omega), by omega, hrg9, by omega, by omega, HB11.out⟩
  · have h0' : (u == 0) = false := by simpa using h0
    by_cases h1 : u = 1
    · subst h1
      go_wp2
      go_ret2
      exact ⟨_, _, _, vs, _, rfl, HO10.out.mono (by omega), by omega, hrg9, by omega, by omega, HB10.out⟩
    · have h1' : (u == 1) = false := by simpa using h1
      by_cases h2 : u = 2
      · subst h2
        go_wp2
        go_ret2
        exact ⟨_, _, _, vs, _, rfl, HO10.out.mono (by omega), by omega, hrg9, by omega, by omega, HB10.out⟩
      · have h2' : (u == 2) = false := by simpa using h2
        go_wp2
        go_ret2
        exact ⟨_, _, _, vs, _, rfl, HO10.out.mono (by omega), by omega, hrg9, by omega, by omega, HB10.out⟩
end Go.Proofs.Ytamokhieopcaaaa
