/-
  The walks of FnExactFrameValid and FnExactFramePut.
-/
import Derived.Test.YtfmdginopdpecabExactA
import Derived.Deep.RegionHeld3
namespace Go.Proofs.Ytfmdginopdpecab
open Go.RowKit
set_option linter.unusedVariables false

set_option maxHeartbeats 3200000 in
theorem exactValid_walk (k s : Int) (A : Option Addr) (n c : Nat) (xs : List Int) (w : World) (hi : Ints w w.heap.size A n xs) (hn : n ≤ c) (hc : c ≤ maxLen) :
    Calls Try.prog 3 #[.agg #[.int .i64 k, .int .i64 s, .slice A n c]] w fun e w' => e = .returned (.bool true) ∧ Below w.heap.size w w' := by
  have hn' : n ≤ 9223372036854775807 := by unfold maxLen at hc; omega
  have HI0 := hide (hi.alloc (Nat.le_refl _) (.cells #[.int .i64 k, .int .i64 s, .slice A n c] 24))
  have HF0 := hide (Blk.new w 24 #[.int .i64 k, .int .i64 s, .slice A n c])
  have HB0 := hide (below_box w (.cells #[.int .i64 k, .int .i64 s, .slice A n c] 24))
  clear hi
  by_cases hbig : 1048576 < n
  · go_enter Try.func3, Try.ntmps3
    go_wp2_with fail
    refine (szFrame_any k s A n c _ hn').mono ?_
    rw [if_pos hbig]
    rintro e w1 ⟨rfl, hb⟩
    have HB1 := hide (HB0.out.trans (hb.mono (by simp)))
    clear hb
    go_wp2
    go_ret
    exact ⟨rfl, HB1.out⟩
  · go_enter Try.func3, Try.ntmps3
    go_wp2_with fail
    refine (szFrame_any k s A n c _ hn').mono ?_
    rw [if_neg hbig]
    rintro e w1 ⟨rfl, hb1⟩
    have hmm : n ≤ maxLen := by unfold maxLen; omega
    have hn44 : n ≤ 17592186044416 := by omega
    have hs1 := hb1.size
    simp at hs1
    have HB1 := hide (HB0.out.trans (hb1.mono (by simp)))
    have HI1 := hide (HI0.out.below hb1 (by simp))
    have HF1 := hide (HF0.out.below hb1 (by simp))
    obtain ⟨t0, t1, t2⟩ := blk_cells3 HF1.out
    clear hb1
    go_wp2_with fail
    refine (toFrame_any k s A n c _ xs _ HI1.out (by omega) hn44).mono ?_
    rintro e w2 ⟨A2, c2, rfl, ho2, hb2⟩
    have hs2 := hb2.size
    have HB2 := hide (HB1.out.trans (hb2.mono (by omega)))
    have HI2 := hide (HI1.out.below hb2 (by omega))
    have HF2 := hide (HF1.out.below hb2 (by omega))
    have HO2 := hide ho2.ints
    clear hb2 ho2 t0 t1 t2
    go_wp2_with fail
    refine (specValid k s A2 n c2 _ xs _ HO2.out (Nat.le_refl _) hmm).mono ?_
    rintro e w3 ⟨rfl, hb3⟩
    have hs3 := hb3.size
    have HB3 := hide (HB2.out.trans (hb3.mono (by omega)))
    have HI3 := hide (HI2.out.below hb3 (by omega))
    have HF3 := hide (HF2.out.below hb3 (by omega))
    obtain ⟨t0, t1, t2⟩ := blk_cells3 HF3.out
    clear hb3
    go_wp2_with fail
    refine (toFrame_any k s A n c _ xs _ HI3.out (by omega) hn44).mono ?_
    rintro e w4 ⟨A4, c4, rfl, ho4, hb4⟩
    have hs4 := hb4.size
    have HB4 := hide ((HB3.out.trans (hb4.mono (by omega))).alloc (by omega) (.cells #[.int .i64 k, .int .i64 s, .slice A4 n c4] 27))
    have HI4 := hide ((HI3.out.below hb4 (by omega)).alloc (by omega) (.cells #[.int .i64 k, .int .i64 s, .slice A4 n c4] 27))
    have HF4 := hide ((HF3.out.below hb4 (by omega)).alloc (.cells #[.int .i64 k, .int .i64 s, .slice A4 n c4] 27))
    have HX4 := hide (Blk.new w4 27 #[.int .i64 k, .int .i64 s, .slice A4 n c4])
    have HO4 := hide (ho4.ints.alloc (Nat.le_refl _) (.cells #[.int .i64 k, .int .i64 s, .slice A4 n c4] 27))
    clear hb4 ho4 t0 t1 t2
    go_wp2_with fail
    refine (implValid k s A4 n c4 _ xs _ HO4.out (by simp) hmm).mono ?_
    rintro e w5 ⟨rfl, hb5⟩
    have hs5 := hb5.size
    simp at hs5
    have HB5 := hide (HB4.out.trans (hb5.mono (by simp; omega)))
    have HI5 := hide (HI4.out.below hb5 (by simp; omega))
    have HF5 := hide (HF4.out.below hb5 (by simp; omega))
    have HX5 := hide (HX4.out.below hb5 (by simp))
    have HO5 := hide (HO4.out.below hb5 (by simp))
    obtain ⟨t0, t1, t2⟩ := blk_cells3 HF5.out
    obtain ⟨y0, y1, y2⟩ := blk_cells3 HX5.out
    generalize validF k s xs = b
    clear hb5
    have hX := hide (And.intro (And.intro y0 (And.intro y1 y2)) (And.intro t0 (And.intro t1 t2)))
    have hlx := HX5.out.lt
    have hlf := HF5.out.lt
    go_wp2_with fail
    go_region_held3 (fun w' => w'.cell? ⟨w4.heap.size, 0, none⟩ = some (.int .i64 k) ∧ w'.cell? ⟨w4.heap.size, 1, none⟩ = some (.int .i64 s) ∧ w'.cell? ⟨w4.heap.size, 2, none⟩ = some (.slice A4 n c4) ∧
        w'.cell? ⟨w.heap.size, 0, none⟩ = some (.int .i64 k) ∧ w'.cell? ⟨w.heap.size, 1, none⟩ = some (.int .i64 s) ∧ w'.cell? ⟨w.heap.size, 2, none⟩ = some (.slice A n c))
      (first
        | go_keep
        | (exact ⟨(hb7.cell hl76).trans ((hb6.cell hlx).trans y0), (hb7.cell hl76).trans ((hb6.cell hlx).trans y1), (hb7.cell hl76).trans ((hb6.cell hlx).trans y2), (hb7.cell hl77).trans ((hb6.cell hlf).trans t0), (hb7.cell hl77).trans ((hb6.cell hlf).trans t1), (hb7.cell hl77).trans ((hb6.cell hlf).trans t2)⟩)
        | (exact ⟨(hb6.cell hlx).trans y0, (hb6.cell hlx).trans y1, (hb6.cell hlx).trans y2, (hb6.cell hlf).trans t0, (hb6.cell hlf).trans t1, (hb6.cell hlf).trans t2⟩))
      ((first
        | (go_at_call 8; refine (toFrame_any k s A n c w.heap.size xs _ ?_ ?_ hn44).mono ?_; exact HI5.out; (show w.heap.size ≤ w5.heap.size; omega); rintro e w6 ⟨A6, c6, rfl, ho6, hb6'⟩; have hb6 : Below w5.heap.size w5 w6 := ⟨hb6'.os, hb6'.tape, hb6'.output, hb6'.size, hb6'.block⟩; clear hb6')
        | (go_at_call 10; refine (eqFrame_yes k s A4 A6 n c4 c6 (w4.heap.size) w6.heap.size xs _ ?_ ?_ ?_ ?_ hmm).mono ?_; exact HO5.out.below hb6 (by omega); exact Nat.le_trans (by omega) hb6.size; exact ho6.ints; exact Nat.le_refl _; rintro e w7 ⟨rfl, hb7⟩; have hl76 := Nat.lt_of_lt_of_le hlx hb6.size; have hl77 := Nat.lt_of_lt_of_le hlf hb6.size)))
    have HB7 := hide ((HB5.out.trans (hb6.mono (by omega))).trans (hb7.mono (by have := hb6.size; omega)))
    go_wp2
    go_ret
    exact ⟨rfl, HB7.out⟩

/-- what the exact law of FramePut knows behind its first call -/
structure EX (w W : World) (X B3 : Nat) (k s : Int) (A : Option Addr) (n c : Nat) (xs : List Int) (A3 : Option Addr) (m : Nat) (ws : List Int) (A4 : Option Addr) (c4 : Nat) (ys : List Int) (A5 : Option Addr) (c5 : Nat) (gs : List Int) : Prop where
  f : Blk W w.heap.size 24 #[.int .i64 k, .int .i64 s, .slice A n c]
  x : Blk W X 27 #[.int .i64 k, .int .i64 s, .slice A4 n c4]
  i : Ints W w.heap.size A n xs
  w3 : Ints W B3 A3 m ws
  o4 : Own W B3 A4 n c4 ys
  g5 : Own W (X + 1) A5 m c5 gs
  b : Below w.heap.size w W
  le1 : w.heap.size < B3
  le2 : B3 ≤ X
  lt : X < W.heap.size
  lt4 : ∀ g, (Value.slice A4 n c4).ownBlock = some g → g < X
section
variable {w W W' : World} {X B3 : Nat} {k s : Int} {A A3 A4 A5 : Option Addr} {n c m c4 c5 : Nat} {xs ws ys gs : List Int}
theorem EX.below (h : EX w W X B3 k s A n c xs A3 m ws A4 c4 ys A5 c5 gs) (hb : Below W.heap.size W W') : EX w W' X B3 k s A n c xs A3 m ws A4 c4 ys A5 c5 gs :=
  { f := h.f.below hb h.f.lt, x := h.x.below hb h.x.lt, i := h.i.below hb (by have := h.f.lt; omega), w3 := h.w3.below hb (by have := h.le2; have := h.lt; omega)
    o4 := h.o4.below hb, g5 := h.g5.below hb, b := h.b.trans (hb.mono h.b.size), le1 := h.le1, le2 := h.le2, lt := Nat.lt_of_lt_of_le h.lt hb.size, lt4 := h.lt4 }
theorem EX.drewN (h : EX w W X B3 k s A n c xs A3 m ws A4 c4 ys A5 c5 gs) (q : Nat) : EX w (W.drewN q) X B3 k s A n c xs A3 m ws A4 c4 ys A5 c5 gs :=
  h.below (below_drewN (Below.refl _ _) q)
theorem EX.mark4 {ys' : List Int} (h : EX w W X B3 k s A n c xs A3 m ws A4 c4 ys A5 c5 gs) (ho : Own W' B3 A4 n c4 ys') (hg : W.grownBy W' (Value.slice A4 n c4).ownBlock) :
    EX w W' X B3 k s A n c xs A3 m ws A4 c4 ys' A5 c5 gs := by
  have h1 := h.le1
  have h2 := h.le2
  have h3 := h.lt
  have hr : ∀ g, (Value.slice A4 n c4).ownBlock = some g → B3 ≤ g ∧ g < X := fun g e => ⟨(h.o4.block g e).1, h.lt4 g e⟩
  exact
  { f := h.f.grown hg (fun e => by have := hr _ e.symm; omega), x := h.x.grown hg (fun e => by have := hr _ e.symm; omega)
    i := h.i.grown hg (by omega) (fun g e => by have := hr g e; omega), w3 := h.w3.grown hg (by omega) (fun g e => (hr g e).1)
    o4 := ho, g5 := h.g5.kept hg (fun g e e' => by have := hr g e; have := (h.g5.block g e').1; omega)
    b := h.b.grown hg h.b.size (fun g e => by have := hr g e; omega), le1 := h.le1, le2 := h.le2, lt := Nat.lt_of_lt_of_le h.lt hg.size, lt4 := h.lt4 }
theorem EX.mark5 {gs' : List Int} (h : EX w W X B3 k s A n c xs A3 m ws A4 c4 ys A5 c5 gs) (ho : Own W' (X + 1) A5 m c5 gs') (hg : W.grownBy W' (Value.slice A5 m c5).ownBlock) :
    EX w W' X B3 k s A n c xs A3 m ws A4 c4 ys A5 c5 gs' := by
  have h1 := h.le1
  have h2 := h.le2
  have h3 := h.lt
  have hr : ∀ g, (Value.slice A5 m c5).ownBlock = some g → X + 1 ≤ g := fun g e => (h.g5.block g e).1
  exact
  { f := h.f.grown hg (fun e => by have := hr _ e.symm; omega), x := h.x.grown hg (fun e => by have := hr _ e.symm; omega)
    i := h.i.grown hg (by omega) (fun g e => by have := hr g e; omega), w3 := h.w3.grown hg (by omega) (fun g e => by have := hr g e; omega)
    o4 := h.o4.kept hg (fun g e e' => by have := hr g e; have := h.lt4 g e'; omega), g5 := ho
    b := h.b.grown hg h.b.size (fun g e => by have := hr g e; omega), le1 := h.le1, le2 := h.le2, lt := Nat.lt_of_lt_of_le h.lt hg.size, lt4 := h.lt4 }
end

set_option maxHeartbeats 6400000 in
theorem exactPut_walk (k s : Int) (A : Option Addr) (n c : Nat) (xs : List Int) (w : World) (hi : Ints w w.heap.size A n xs) (hn : n ≤ c) (hc : c ≤ maxLen) :
    Calls Try.prog 4 #[.agg #[.int .i64 k, .int .i64 s, .slice A n c]] w fun e w' => e = .returned (.bool true) ∧ Below w.heap.size w w' := by
  have hn' : n ≤ 9223372036854775807 := by unfold maxLen at hc; omega
  have HI0 := hide (hi.alloc (Nat.le_refl _) (.cells #[.int .i64 k, .int .i64 s, .slice A n c] 24))
  have HF0 := hide (Blk.new w 24 #[.int .i64 k, .int .i64 s, .slice A n c])
  have HB0 := hide (below_box w (.cells #[.int .i64 k, .int .i64 s, .slice A n c] 24))
  clear hi
  by_cases hbig : 1048576 < n
  · go_enter Try.func4, Try.ntmps4
    go_wp2_with fail
    refine (szFrame_any k s A n c _ hn').mono ?_
    rw [if_pos hbig]
    rintro e w1 ⟨rfl, hb⟩
    have HB1 := hide (HB0.out.trans (hb.mono (by simp)))
    clear hb
    go_wp2
    go_ret
    exact ⟨rfl, HB1.out⟩
  · go_enter Try.func4, Try.ntmps4
    go_wp2_with fail
    refine (szFrame_any k s A n c _ hn').mono ?_
    rw [if_neg hbig]
    rintro e w1 ⟨rfl, hb1⟩
    have hmm : n ≤ maxLen := by unfold maxLen; omega
    have hn44 : n ≤ 17592186044416 := by omega
    have hn9 : n ≤ 1000000000 := by omega
    have hs1 := hb1.size
    simp at hs1
    have HB1 := hide (HB0.out.trans (hb1.mono (by simp)))
    have HI1 := hide (HI0.out.below hb1 (by simp))
    have HF1 := hide (HF0.out.below hb1 (by simp))
    obtain ⟨t0, t1, t2⟩ := blk_cells3 HF1.out
    clear hb1
    go_wp2_with fail
    refine (toFrame_any k s A n c _ xs _ HI1.out (by omega) hn44).mono ?_
    rintro e w2 ⟨A2, c2, rfl, ho2, hb2⟩
    have hs2 := hb2.size
    have HB2 := hide (HB1.out.trans (hb2.mono (by omega)))
    have HI2 := hide (HI1.out.below hb2 (by omega))
    have HF2 := hide (HF1.out.below hb2 (by omega))
    have HO2 := hide ho2.ints
    clear hb2 ho2 t0 t1 t2
    go_wp2_with fail
    refine (specPut k s A2 n c2 _ xs _ HO2.out (Nat.le_refl _) hmm).mono ?_
    rintro e w3 ⟨A3, m, c3, rfl, ho3, hb3⟩
    have hlm := ho3.1
    have hm40 : (putF k s xs).length ≤ 40 := by
      rcases hv : validF k s xs with _ | _
      · rw [putF, if_neg (by rw [hv]; simp)]; simp
      · have := (validF_iff.1 hv).2.2.1
        rw [putF, if_pos hv]; simp [headF]; omega
    have hm9 : m ≤ 1000000000 := by omega
    have hmx : m ≤ maxLen := by unfold maxLen; omega
    have HLM := hide hlm
    have hs3 := hb3.size
    have HB3 := hide (HB2.out.trans (hb3.mono (by omega)))
    have HI3 := hide (HI2.out.below hb3 (by omega))
    have HF3 := hide (HF2.out.below hb3 (by omega))
    have HW3 := hide ho3.ints
    obtain ⟨t0, t1, t2⟩ := blk_cells3 HF3.out
    clear hb3 ho3 hlm hm40
    go_wp2_with fail
    refine (toFrame_any k s A n c _ xs _ HI3.out (by omega) hn44).mono ?_
    rintro e w4 ⟨A4, c4, rfl, ho4, hb4⟩
    have hs4 := hb4.size
    have HB4 := hide ((HB3.out.trans (hb4.mono (by omega))).alloc (by omega) (.cells #[.int .i64 k, .int .i64 s, .slice A4 n c4] 27))
    have HI4 := hide ((HI3.out.below hb4 (by omega)).alloc (by omega) (.cells #[.int .i64 k, .int .i64 s, .slice A4 n c4] 27))
    have HF4 := hide ((HF3.out.below hb4 (by omega)).alloc (.cells #[.int .i64 k, .int .i64 s, .slice A4 n c4] 27))
    have HX4 := hide (Blk.new w4 27 #[.int .i64 k, .int .i64 s, .slice A4 n c4])
    have h4lt : ∀ g, (Value.slice A4 n c4).ownBlock = some g → g < w4.heap.size := fun g e => (ho4.block g e).2
    have HO4 := hide (ho4.alloc (.cells #[.int .i64 k, .int .i64 s, .slice A4 n c4] 27))
    have HW4 := hide ((HW3.out.below hb4 (by omega)).alloc (by omega) (.cells #[.int .i64 k, .int .i64 s, .slice A4 n c4] 27))
    have HOI4 := hide (ho4.ints.alloc (Nat.le_refl _) (.cells #[.int .i64 k, .int .i64 s, .slice A4 n c4] 27))
    clear hb4 ho4 t0 t1 t2
    go_wp2_with fail
    refine (implPut k s A4 n c4 _ xs _ HOI4.out (by simp) hmm).mono ?_
    rintro e w5 ⟨A5, m5, c5, rfl, ho5, hb5⟩
    have hs5 := hb5.size
    simp at hs5
    obtain rfl : m5 = m := by have := ho5.1; have := HLM.out; omega
    have HB5 := hide (HB4.out.trans (hb5.mono (by simp; omega)))
    have HI5 := hide (HI4.out.below hb5 (by simp; omega))
    have HF5 := hide (HF4.out.below hb5 (by simp; omega))
    have HX5 := hide (HX4.out.below hb5 (by simp))
    have HO5 := hide (HO4.out.below hb5)
    have HW5 := hide (HW4.out.below hb5 (by simp; omega))
    have HLT4 := hide h4lt
    have hEX : EX w w5 w4.heap.size w3.heap.size k s A n c xs A3 m5 (putF k s xs) A4 c4 xs A5 c5 (putF k s xs) :=
      { f := HF5.out, x := HX5.out, i := HI5.out, w3 := HW5.out, o4 := HO5.out, g5 := ho5.mono (by simp), b := HB5.out, le1 := by omega, le2 := hs4, lt := by omega, lt4 := HLT4.out }
    have HE5 := hide hEX
    generalize w4.heap.size = X at HE5
    generalize w3.heap.size = B3 at HE5
    obtain ⟨ws, hws⟩ : ∃ ws, putF k s xs = ws := ⟨_, rfl⟩
    rw [hws] at HE5
    have HWS := hide hws
    clear hws
    clear hb5 ho5 hEX HB5 HI5 HF5 HX5 HO5 HW5 HLT4 h4lt HB4 HI4 HF4 HX4 HO4 HW4 HOI4 HB3 HI3 HF3 HW3 HO2 HB2 HI2 HF2 HB1 HI1 HF1 HB0 HI0 HF0 HLM hs5 hs4 hs3 hs2 hs1
    go_wp2_with fail
    refine (eqIntS_yes A5 A3 m5 c5 m5 c3 _ _ ws ws _ HE5.out.g5.ints HE5.out.w3 hmx hmx rfl).mono ?_
    rintro e w6 ⟨rfl, q6, rfl⟩
    have HE6 := hide (HE5.out.drewN q6)
    obtain ⟨y0, y1, y2⟩ := blk_cells3 HE6.out.x
    obtain ⟨t0, t1, t2⟩ := blk_cells3 HE6.out.f
    have hlx := HE6.out.lt
    have hlf := HE6.out.f.lt
    generalize w5.drewN q6 = W6 at HE6 y0 y1 y2 t0 t1 t2 hlx hlf
    clear HE5
    go_wp2_with fail
    go_region_held3 (fun w' => w'.cell? ⟨X, 0, none⟩ = some (.int .i64 k) ∧ w'.cell? ⟨X, 1, none⟩ = some (.int .i64 s) ∧ w'.cell? ⟨X, 2, none⟩ = some (.slice A4 n c4) ∧
        w'.cell? ⟨w.heap.size, 0, none⟩ = some (.int .i64 k) ∧ w'.cell? ⟨w.heap.size, 1, none⟩ = some (.int .i64 s) ∧ w'.cell? ⟨w.heap.size, 2, none⟩ = some (.slice A n c))
      (first
        | go_keep
        | (exact ⟨(hb8.cell hl8).trans ((hb7.cell hlx).trans y0), (hb8.cell hl8).trans ((hb7.cell hlx).trans y1), (hb8.cell hl8).trans ((hb7.cell hlx).trans y2), (hb8.cell hl9).trans ((hb7.cell hlf).trans t0), (hb8.cell hl9).trans ((hb7.cell hlf).trans t1), (hb8.cell hl9).trans ((hb7.cell hlf).trans t2)⟩)
        | (exact ⟨(hb7.cell hlx).trans y0, (hb7.cell hlx).trans y1, (hb7.cell hlx).trans y2, (hb7.cell hlf).trans t0, (hb7.cell hlf).trans t1, (hb7.cell hlf).trans t2⟩))
      ((first
        | (go_at_call 8; refine (toFrame_any k s A n c w.heap.size xs _ ?_ ?_ hn44).mono ?_; exact HE6.out.i; exact Nat.le_of_lt hlf; rintro e w7 ⟨A7, c7, rfl, ho7, hb7'⟩; have hb7 : Below W6.heap.size W6 w7 := ⟨hb7'.os, hb7'.tape, hb7'.output, hb7'.size, hb7'.block⟩; clear hb7')
        | (go_at_call 10; refine (eqFrame_yes k s A4 A7 n c4 c7 W6.heap.size w7.heap.size xs _ ?_ ?_ ?_ ?_ hmm).mono ?_; exact HE6.out.o4.ints.below hb7 (Nat.le_refl _); exact hb7.size; exact ho7.ints; exact Nat.le_refl _; rintro e w8 ⟨rfl, hb8⟩; have hl8 := Nat.lt_of_lt_of_le hlx hb7.size; have hl9 := Nat.lt_of_lt_of_le hlf hb7.size)))
    have HE8 := hide ((HE6.out.below hb7).below hb8)
    clear HE6 hb7 hb8 ho7 y0 y1 y2 t0 t1 t2 hl8 hl9 hlx hlf
    obtain ⟨y0, y1, y2⟩ := blk_cells3 HE8.out.x
    go_wp2_with fail
    refine (markFrame_any k s A4 n c4 B3 xs _ HE8.out.o4 hn9).mono ?_
    rintro e w9 ⟨rfl, ho9, hg9⟩
    have HE9 := hide (HE8.out.mark4 ho9 hg9)
    clear HE8 ho9 hg9 y0 y1 y2
    have hkn : ¬ (1 : Int) + (n : Int) < 0 := by omega
    have hkd : decide ((1 : Int) + (n : Int) < 0) = false := by simp; omega
    go_wp2_with fail
    refine (eqIntS_yes A5 A3 m5 c5 m5 c3 _ _ ws ws _ HE9.out.g5.ints HE9.out.w3 hmx hmx rfl).mono ?_
    rintro e w10 ⟨rfl, q10, rfl⟩
    have HE10 := hide (HE9.out.drewN q10)
    generalize w9.drewN q10 = W10 at HE10
    clear HE9
    go_wp2_with fail
    refine (mark_any A5 m5 c5 (X + 1) 1 ws _ HE10.out.g5 (by omega) (by omega) hm9).mono ?_
    rintro e w11 ⟨rfl, ho11, hg11⟩
    have HE11 := hide (HE10.out.mark5 ho11 hg11)
    clear HE10 ho11 hg11
    go_wp2_with fail
    refine (held_any A5 m5 c5 _ 1 _ HE11.out.g5.ints (by omega) (by omega) hm9).mono ?_
    rintro e w' ⟨rfl, rfl⟩
    have hmn : ¬ (1 : Int) + (m5 : Int) < 0 := by omega
    obtain ⟨t0, t1, t2⟩ := blk_cells3 HE11.out.f
    have hlf := HE11.out.f.lt
    go_wp2_with fail
    refine (toFrame_any k s A n c w.heap.size xs _ HE11.out.i (Nat.le_of_lt hlf) hn44).mono ?_
    rintro e w12 ⟨A12, c12, rfl, ho12, hb12⟩
    have HE12 := hide (HE11.out.below hb12)
    have HO12 := hide ho12.ints
    clear HE11 hb12 ho12 t0 t1 t2 hlf
    go_wp2_with fail
    refine (implPut k s A12 n c12 _ xs _ HO12.out (Nat.le_refl _) hmm).mono ?_
    rintro e w13 ⟨A13, m13, c13, rfl, ho13, hb13⟩
    have HE13 := hide (HE12.out.below hb13)
    obtain rfl : m13 = m5 := by rw [← ho13.1, HWS.out]; exact HE12.out.w3.1
    rw [HWS.out] at ho13
    have HO13 := hide ho13.ints
    clear HE12 hb13 ho13 HO12
    go_wp2_with fail
    refine (eqIntS_yes A13 A3 m13 c13 m13 c3 _ _ ws ws _ HO13.out HE13.out.w3 hmx hmx rfl).mono ?_
    rintro e w14 ⟨rfl, q14, rfl⟩
    have HE14 := hide (HE13.out.drewN q14)
    generalize w13.drewN q14 = W14 at HE14
    clear HE13 HO13
    go_wp2_with fail
    refine (held_any A5 m13 c5 _ 1 _ HE14.out.g5.ints (by omega) (by omega) hm9).mono ?_
    rintro e w' ⟨rfl, rfl⟩
    go_wp2
    go_ret
    exact ⟨rfl, HE14.out.b⟩
end Go.Proofs.Ytfmdginopdpecab
