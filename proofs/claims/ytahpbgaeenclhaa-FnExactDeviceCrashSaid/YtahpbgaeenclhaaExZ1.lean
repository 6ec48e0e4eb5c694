/-
  .. and beside these an argument that is a list of integers, and its copy that was handed over.
-/
import Derived.Test.YtahpbgaeenclhaaExZ0
import Derived.Test.YtahpbgaeenclhaaInts
import Derived.Test.YtahpbgaeenclhaaSpecZ7
namespace Go.Proofs.Ytahpbgaeenclhaa
open Go.RowKit
set_option linter.unusedVariables false
set_option maxRecDepth 100000

theorem Own.above {w w' : World} {base lo hi n c : Nat} {A : Option Addr} {xs : List Int} (h : Own w base A n c xs) (hc : Chg lo hi w w') (hb : hi ≤ base) : Own w' base A n c xs :=
  ⟨h.1, row_same h.2 fun b e => hc.above b (by have := (h.block b e).1; omega) (h.block b e).2⟩

structure ZW (w W : World) (B1 B4 B6 B5 : Nat) (A : Option Addr) (n : Nat) (qs : List Zq) (X : Option Addr) (m : Nat) (ws : List Int) (A1 : Option Addr) (m1 : Nat) (rs : List Zq) (A4 : Option Addr) (n4 c4 : Nat) (ys : List Zq)
    (A6 : Option Addr) (c6 : Nat) (A5 : Option Addr) (n5 c5 : Nat) (gs : List Zq) : Prop where
  i : Zns W w.heap.size A n qs
  i2 : Ints W w.heap.size X m ws
  w1 : Zns W B1 A1 m1 rs
  o4 : OwnZ W B4 A4 n4 c4 ys
  l4 : Lim A4 n4 c4 ys B6
  o6 : Own W B6 A6 m c6 ws
  l6 : ∀ b, (Value.slice A6 m c6).ownBlock = some b → b < B5
  g5 : OwnZ W B5 A5 n5 c5 gs
  b : Below w.heap.size w W
  le0 : w.heap.size ≤ B1
  le1 : B1 ≤ B4
  le2 : B4 ≤ B6
  le6 : B6 ≤ B5
  le3 : B5 ≤ W.heap.size
structure ZV (w W : World) (B1 B6 B5 : Nat) (A : Option Addr) (n : Nat) (qs : List Zq) (X : Option Addr) (m : Nat) (ws : List Int) (A1 : Option Addr) (m1 : Nat) (rs : List Zq)
    (A6 : Option Addr) (c6 : Nat) (A5 : Option Addr) (n5 c5 : Nat) (gs : List Zq) : Prop where
  i : Zns W w.heap.size A n qs
  i2 : Ints W w.heap.size X m ws
  w1 : Zns W B1 A1 m1 rs
  o6 : Own W B6 A6 m c6 ws
  l6 : ∀ b, (Value.slice A6 m c6).ownBlock = some b → b < B5
  g5 : OwnZ W B5 A5 n5 c5 gs
  b : Below w.heap.size w W
  le0 : w.heap.size ≤ B1
  le2 : B1 ≤ B6
  le6 : B6 ≤ B5
  le3 : B5 ≤ W.heap.size
structure ZU (w W : World) (B1 B5 : Nat) (A : Option Addr) (n : Nat) (qs : List Zq) (X : Option Addr) (m : Nat) (ws : List Int) (A1 : Option Addr) (m1 : Nat) (rs : List Zq) (A5 : Option Addr) (n5 c5 : Nat) (gs : List Zq) : Prop where
  i : Zns W w.heap.size A n qs
  i2 : Ints W w.heap.size X m ws
  w1 : Zns W B1 A1 m1 rs
  g5 : OwnZ W B5 A5 n5 c5 gs
  b : Below w.heap.size w W
  le0 : w.heap.size ≤ B1
  le2 : B1 ≤ B5
  le3 : B5 ≤ W.heap.size
section
variable {w W W' : World} {B1 B4 B5 B6 n m m1 n4 c4 n5 c5 c6 : Nat} {A A1 A4 A5 A6 X : Option Addr} {qs rs ys gs : List Zq} {ws : List Int}
theorem ZW.below (h : ZW w W B1 B4 B6 B5 A n qs X m ws A1 m1 rs A4 n4 c4 ys A6 c6 A5 n5 c5 gs) (hb : Below W.heap.size W W') : ZW w W' B1 B4 B6 B5 A n qs X m ws A1 m1 rs A4 n4 c4 ys A6 c6 A5 n5 c5 gs :=
  { i := h.i.below hb h.b.size, i2 := h.i2.below hb h.b.size, w1 := h.w1.below hb (by have := h.le1; have := h.le2; have := h.le6; have := h.le3; omega), o4 := h.o4.below hb, l4 := h.l4, o6 := h.o6.below hb, l6 := h.l6, g5 := h.g5.below hb, b := h.b.trans (hb.mono h.b.size)
    le0 := h.le0, le1 := h.le1, le2 := h.le2, le6 := h.le6, le3 := Nat.le_trans h.le3 hb.size }
theorem ZW.mark4 (h : ZW w W B1 B4 B6 B5 A n qs X m ws A1 m1 rs A4 n4 c4 ys A6 c6 A5 n5 c5 gs) (hc : Chg B4 B6 W W') : ZV w W' B1 B6 B5 A n qs X m ws A1 m1 rs A6 c6 A5 n5 c5 gs :=
  { i := h.i.below hc.below (by have := h.le0; have := h.le1; omega), i2 := h.i2.below hc.below (by have := h.le0; have := h.le1; omega), w1 := h.w1.below hc.below h.le1, o6 := h.o6.above hc (Nat.le_refl _), l6 := h.l6
    g5 := h.g5.above hc h.le6, b := h.b.trans (hc.below.mono (by have := h.le0; have := h.le1; omega))
    le0 := h.le0, le2 := Nat.le_trans h.le1 h.le2, le6 := h.le6, le3 := Nat.le_trans h.le3 hc.below.size }
theorem ZV.mark6 (h : ZV w W B1 B6 B5 A n qs X m ws A1 m1 rs A6 c6 A5 n5 c5 gs) (hg : W.grownBy W' (Value.slice A6 m c6).ownBlock) : ZU w W' B1 B5 A n qs X m ws A1 m1 rs A5 n5 c5 gs := by
  have h0 := h.le0
  have h2 := h.le2
  have h6 := h.le6
  have h3 := h.le3
  have hr : ∀ b, (Value.slice A6 m c6).ownBlock = some b → B6 ≤ b ∧ b < B5 := fun b e => ⟨(h.o6.block b e).1, h.l6 b e⟩
  exact
  { i := h.i.grown hg (by omega) (fun b e => by have := hr b e; omega), i2 := h.i2.grown hg (by omega) (fun b e => by have := hr b e; omega), w1 := h.w1.grown hg (by omega) (fun b e => by have := hr b e; omega)
    g5 := h.g5.kept hg (fun b e => ⟨fun e2 => by have := hr b e; have := (h.g5.block b e2).1; omega, fun k q hk e2 => by have := hr b e; have := (h.g5.wblock hk b e2).1; omega⟩)
    b := h.b.grown hg (by omega) (fun b e => by have := hr b e; omega), le0 := h0, le2 := by omega, le3 := Nat.le_trans h3 hg.size }
theorem ZU.below (h : ZU w W B1 B5 A n qs X m ws A1 m1 rs A5 n5 c5 gs) (hb : Below W.heap.size W W') : ZU w W' B1 B5 A n qs X m ws A1 m1 rs A5 n5 c5 gs :=
  { i := h.i.below hb h.b.size, i2 := h.i2.below hb h.b.size, w1 := h.w1.below hb (by have := h.le2; have := h.le3; omega), g5 := h.g5.below hb, b := h.b.trans (hb.mono h.b.size)
    le0 := h.le0, le2 := h.le2, le3 := Nat.le_trans h.le3 hb.size }
theorem ZU.mark5 {gs' : List Zq} {hi : Nat} (h : ZU w W B1 B5 A n qs X m ws A1 m1 rs A5 n5 c5 gs) (ho : OwnZ W' B5 A5 n5 c5 gs') (hc : Chg B5 hi W W') : ZU w W' B1 B5 A n qs X m ws A1 m1 rs A5 n5 c5 gs' :=
  { i := h.i.below hc.below (by have := h.le0; have := h.le2; omega), i2 := h.i2.below hc.below (by have := h.le0; have := h.le2; omega), w1 := h.w1.below hc.below h.le2, g5 := ho, b := h.b.trans (hc.below.mono (by have := h.le0; have := h.le2; omega))
    le0 := h.le0, le2 := h.le2, le3 := Nat.le_trans h.le3 hc.below.size }
end

theorem small_crash {ds : Dev} (h : SmallD ds) (ks : List Int) : SmallD (crashD ds ks) := by
  unfold crashD
  split
  · refine ⟨by rw [List.length_zipWith]; have := h.1; omega, fun z hz => ?_⟩
    obtain ⟨i, hi⟩ := List.getElem?_of_mem hz
    rw [List.getElem?_zipWith] at hi
    rcases e : ds[i]? with _ | q
    · simp [e] at hi
    · rcases e2 : ks[i]? with _ | y
      · simp [e, e2] at hi
      · simp [e, e2] at hi
        subst hi
        have := h.2 q (List.mem_of_getElem? e)
        simp only [crashZ, List.length_take]
        omega
  · exact small_nil
theorem small_append {ds : Dev} (h : SmallD ds) (z : Int) (ws : List Int) : SmallD (appendD ds z ws) := by
  unfold appendD
  split
  · rcases e : ds[z.toNat]? with _ | q
    · exact h
    · simp only
      split
      · next hb =>
        refine ⟨by rw [List.length_set]; exact h.1, fun r hr => ?_⟩
        rcases List.mem_or_eq_of_mem_set hr with hr | rfl
        · exact h.2 r hr
        · have h3 := of_decide_eq_true (Bool.and_eq_true _ _ ▸ hb).2
          simp only [List.length_append]
          omega
      · exact h
  · exact small_nil
end Go.Proofs.Ytahpbgaeenclhaa
