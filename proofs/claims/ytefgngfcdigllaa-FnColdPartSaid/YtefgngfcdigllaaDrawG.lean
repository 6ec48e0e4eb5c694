/-
  Spoilt words: l91Spoil: a row of the call's own of words from -1 to 10000; the reader's own block alone has turned.
-/
import Derived.Test.YtefgngfcdigllaaDrawA
import Derived.Deep.RegionLaw
namespace Go.Proofs.Ytefgngfcdigllaa
open Go.RowKit
set_option linter.unusedVariables false
set_option maxRecDepth 100000

/-- what l91Spoil hands back -/
def Spoilt (w0 : World) (R : Nat) (p : Int) (n : Nat) (e : Ending) (w' : World) : Prop :=
  ∃ A m c ys p', e = .returned (.slice A m c) ∧ Own w' w0.heap.size A m c ys ∧ m ≤ n + 1 ∧ Rng (-1) 10000 ys ∧ p ≤ p' ∧ p' ≤ p + 6 ∧ Rd w' R p' ∧ w0.grownBy w' (some R)

theorem Rng.take {lo hi : Int} {xs : List Int} (h : Rng lo hi xs) (k : Nat) : Rng lo hi (xs.take k) := fun x hx => h x (List.mem_of_mem_take hx)
theorem Rng.drop {lo hi : Int} {xs : List Int} (h : Rng lo hi xs) (k : Nat) : Rng lo hi (xs.drop k) := fun x hx => h x (List.mem_of_mem_drop hx)
theorem Rng.app {lo hi : Int} {xs ys : List Int} (h : Rng lo hi xs) (h' : Rng lo hi ys) : Rng lo hi (xs ++ ys) := fun x hx => (List.mem_append.1 hx).elim (h x) (h' x)

/-- what l91Spoil knows behind its first statement -/
structure SP (w0 w : World) (R : Nat) (p : Int) (A : Option Addr) (n c : Nat) (xs : List Int) : Prop where
  rd : Rd w R p
  rlt : R < w0.heap.size
  own : Own w w0.heap.size A n c xs
  rng : Rng (-1) 10000 xs
  grown : w0.grownBy w (some R)
theorem SP.pick {w0 w w' : World} {R n c : Nat} {p p' : Int} {A : Option Addr} {xs : List Int} (h : SP w0 w R p A n c xs) (hr : Rd w' R p') (hg : w.grownBy w' (some R)) : SP w0 w' R p' A n c xs :=
  { rd := hr, rlt := h.rlt, own := h.own.kept hg (by intro q hq e; injection hq with hq; have := (h.own.block _ e).1; have := h.rlt; omega), rng := h.rng, grown := grown_trans' h.grown hg }
theorem SP.row {w0 w w' : World} {R n c m d : Nat} {p : Int} {A A' : Option Addr} {xs ys : List Int} (h : SP w0 w R p A n c xs) (ho : Own w' w0.heap.size A' m d ys) (hr : Rng (-1) 10000 ys) {row : Option Nat} (hg : w.grownBy w' row)
    (hrow : ∀ g, row = some g → w0.heap.size ≤ g) : SP w0 w' R p A' m d ys :=
  { rd := h.rd.grown hg (fun g e => by have := hrow g e; have := h.rlt; omega), rlt := h.rlt, own := ho, rng := hr, grown := grown_own h.grown hg hrow }
theorem SP.done {w0 w : World} {R n c n0 : Nat} {p p0 : Int} {A : Option Addr} {xs : List Int} (h : SP w0 w R p A n c xs) (hn : n ≤ n0 + 1) (hp : p0 ≤ p ∧ p ≤ p0 + 6) : Spoilt w0 R p0 n0 (.returned (.slice A n c)) w :=
  ⟨A, n, c, xs, p, rfl, h.own, hn, h.rng, hp.1, hp.2, h.rd, h.grown⟩

set_option maxHeartbeats 4000000 in
theorem spoil_any (R : Nat) (p : Int) (A : Option Addr) (n c B : Nat) (xs : List Int) (w : World) (hr : Rd w R p) (hi : Ints w B A n xs) (hB : B ≤ w.heap.size) (hrng : Rng (-1) 10000 xs) (hn : n ≤ 1000) (hp : p < 20000) :
    Calls Try.prog 34 #[.pointer (some ⟨R, 0, none⟩), .slice A n c] w (Spoilt w R p n) := by
  have hRw := hr.lt
  have HI := hide hi
  have HR := hide hr
  clear hi hr
  have HSP : Hid (∀ (A1 : Option Addr) (c1 : Nat) (w1 : World), Own w1 w.heap.size A1 n c1 xs → (w.alloc (.cells #[] 3)).grownBy w1 (Value.slice (some ⟨w.heap.size, 0, none⟩) 0 0).ownBlock → SP w w1 R p A1 n c1 xs) := by
    intro A1 c1 w1 ho hg
    have hrow : ∀ g, (Value.slice (some ⟨w.heap.size, 0, none⟩) 0 0).ownBlock = some g → w.heap.size ≤ g := by
      intro g e
      simp [Value.ownBlock] at e
      omega
    exact { rd := (HR.out.alloc _).grown hg (fun g e => by have := hrow g e; omega), rlt := hRw, own := ho, rng := hrng, grown := grown_own (grown_alloc (grown_refl w (some R)) _) hg hrow }
  have hrng' := hide hrng
  clear hrng
  by_cases hn0 : n = 0
  · subst hn0
    go_enter Try.func34, Try.ntmps34
    go_wp2_with (at_builtin; refine wpList_append_ints rfl (.tmp 7) (.tmp 8) rfl w.heap.size 0 0 B 0 c _ A [] xs rfl (Own.lit0 w _ (Nat.le_refl _)) rfl (HI.out.alloc hB _) (by omega) (by simp) ?_; intro A1 c1 w1 ho1 hg1 hat1; clear hat1; simp only [Nat.zero_add, List.nil_append] at ho1 ⊢)
    go_ret
    exact (HSP.out _ _ _ ho1 hg1).done (by omega) (by omega)
  · have hnb : ((n : Int) == 0) = false := by simp; omega
    go_enter Try.func34, Try.ntmps34
    go_wp2_with (at_builtin; refine wpList_append_ints rfl (.tmp 7) (.tmp 8) rfl w.heap.size 0 0 B n c _ A [] xs rfl (Own.lit0 w _ (Nat.le_refl _)) rfl (HI.out.alloc hB _) (by omega) (by simp) ?_; intro A1 c1 w1 ho1 hg1 hat1; clear hat1; simp only [Nat.zero_add, List.nil_append] at ho1 ⊢)
    have HS1 := hide (HSP.out _ _ _ ho1 hg1)
    clear ho1 hg1
    refine (pick_any R p 3 _ HS1.out.rd (by omega) (by omega)).mono ?_
    rintro e w2 ⟨v, rfl, hv0, hv1, hr2, hg2⟩
    have HS2 := hide (HS1.out.pick hr2 hg2)
    clear hr2 hg2 HS1
    by_cases hv : 0 < v
    · have hvd : decide (0 < v) = true := by simpa using hv
      go_wp2
      go_ret
      exact HS2.out.done (by omega) (by omega)
    · have hvd : decide (0 < v) = false := by simpa using hv
      go_wp2_with fail
      refine (pick_any R _ n _ HS2.out.rd (by omega) (by omega)).mono ?_
      rintro e w3 ⟨k, rfl, hk0, hk1, hr3, hg3⟩
      obtain ⟨K, rfl⟩ := Int.eq_ofNat_of_zero_le hk0
      have hKn : K < n := by omega
      have HS3 := hide (HS2.out.pick hr3 hg3)
      clear hr3 hg3 HS2
      go_wp2_with fail
      refine (pick_any R _ 4 _ HS3.out.rd (by omega) (by omega)).mono ?_
      rintro e w4 ⟨u, rfl, hu0, hu1, hr4, hg4⟩
      have HS4 := hide (HS3.out.pick hr4 hg4)
      have hcap := HS4.out.own.cap
      obtain ⟨g, rfl, hgb, hgl⟩ := HS4.out.own.shape (by omega)
      clear hr4 hg4 HS3
      have hcm : c1 ≤ 9223372036854775807 := by have := hcap.2; unfold maxLen at this; omega
      have hcn := hcap.1
      clear hcap
      by_cases h0 : u = 0
      · subst h0
        have hs := HS4.out.row (HS4.out.own.firsts (m := K) (by omega)) (hrng'.out.take K) (grown_refl w4 none) (by simp)
        have HS5 := hide hs
        clear hs
        have i1 : (K : Int) ≤ (c1 : Int) := by omega
        go_wp2
        go_ret
        exact HS5.out.done (by omega) (by omega)
      · have h0' : (u == 0) = false := by simpa using h0
        by_cases h1 : u = 1
        · subst h1
          go_wp2_with fail
          refine (word_any R _ _ HS4.out.rd (by omega)).mono ?_
          rintro e w5 ⟨x, p5, rfl, hx0, hx1, hp5, hp5', hr5, hg5⟩
          have hs := HS4.out.pick hr5 hg5
          have hcell := hs.own.cell (g := g) (j := K) hKn
          have hfree := hs.own.free (g := g) (j := K)
          have hst := hs.own.stored (g := g) (j := K) x
          have HS5 := hide (hs.row hst.1 (hrng'.out.set K hx0 hx1) hst.2 (by intro q e; injection e with e; omega))
          clear hs hst hr5 hg5 HS4
          go_wp2
          go_ret
          exact HS5.out.done (by omega) (by omega)
        · have h1' : (u == 1) = false := by simpa using h1
          by_cases h2 : u = 2
          · subst h2
            obtain ⟨K1, hK1⟩ : ∃ K1, K + 1 = K1 := ⟨_, rfl⟩
            have i0 : (K : Int) + 1 = (K1 : Int) := by omega
            have i1 : (K : Int) ≤ (c1 : Int) := by omega
            have i2 : (K1 : Int) ≤ (n : Int) := by omega
            have i3 : IntKind.i64.wrap (K1 : Int) = (K1 : Int) := IntWalk.i64_in _ (by omega)
            have i4 : (0 : Int) ≤ (K1 : Int) := by omega
            have i5 : (0 : Int) ≤ (K : Int) := by omega
            have i6 : (n : Int) ≤ (c1 : Int) := by omega
            obtain ⟨D, hD⟩ : ∃ D, (if c1 = K1 then some (⟨g, 0, none⟩ : Addr) else some ⟨g, K1, none⟩) = D := ⟨_, rfl⟩
            have hI : Ints w4 w4.heap.size D (n - K1) (xs.drop K1) := by
              have h := HS4.out.own.ints.cut (k := K1) (m := n) (by omega) (Nat.le_refl _) hcn
              rw [List.take_of_length_le (by rw [HS4.out.own.1]; exact Nat.le_refl _), Option.map_some, add_plain', hD] at h
              exact h
            have HI4 := hide hI
            have HO4 := hide (HS4.out.own.firsts (m := K) (by omega))
            have hbase : w.heap.size ≤ w4.heap.size := HS4.out.grown.size
            have hnm : K + (n - K1) ≤ 17592186044416 := by omega
            clear hI
            go_wp2_with fail
            go_region_law ((refine step_append_ints ?_ (.tmp 41) (.tmp 45) ?_ w.heap.size K c1 w4.heap.size (n - K1) (c1 - K1) (some ⟨g, 0, none⟩) D (xs.take K) (xs.drop K1) ?_ ?_ ?_ ?_ ?_ ?_ ?_; rfl; rfl; rfl; exact HO4.out; rfl; exact HI4.out; exact hnm; exact hbase; intro A5 c5 w5 ho5 hg5 hat5; clear hat5))
            have hg5' : w4.grownBy w5 (Value.slice (some ⟨g, 0, none⟩) K c1).ownBlock := ⟨hg5.os, hg5.tape, hg5.output, hg5.size, hg5.block⟩
            have HS5 := hide (HS4.out.row ho5 ((hrng'.out.take K).app (hrng'.out.drop K1)) hg5' (fun q e => by simp [Value.ownBlock] at e; omega))
            clear ho5 hg5 hg5'
            go_wp2
            go_ret
            exact HS5.out.done (by omega) (by omega)
          · have h2' : (u == 2) = false := by simpa using h2
            obtain rfl : u = 3 := by omega
            go_wp2_with fail
            refine (pick_any R _ 5 _ HS4.out.rd (by omega) (by omega)).mono ?_
            rintro e w5 ⟨x, rfl, hx0, hx1, hr5, hg5⟩
            have HS5 := hide (HS4.out.pick hr5 hg5)
            have hbase : w.heap.size ≤ w5.heap.size + 1 := by have := HS5.out.grown.size; omega
            clear hr5 hg5 HS4
            go_wp2_with (at_builtin; refine wpList_append_ints rfl (.tmp 49) (.tmp 52) rfl w.heap.size n c1 _ 1 _ (some ⟨g, 0, none⟩) _ xs [x] rfl (HS5.out.own.alloc _) rfl (Ints.one _ _) (by omega) (by simpa using hbase) ?_; intro A6 c6 w6 ho6 hg6 hat6; clear hat6)
            go_ret
            have hs : SP w (w5.alloc (.cells #[.int .i64 x] 3)) R _ (some ⟨g, 0, none⟩) n c1 xs :=
              { rd := HS5.out.rd.alloc _, rlt := hRw, own := HS5.out.own.alloc _, rng := hrng'.out, grown := grown_alloc HS5.out.grown _ }
            exact (hs.row ho6 (hrng'.out.snoc (by omega) (by omega)) hg6 (fun q e => (HS5.out.own.block q e).1)).done (by omega) (by omega)
end Go.Proofs.Ytefgngfcdigllaa
