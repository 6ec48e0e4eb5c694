/-
  What the exact laws over two lists of integers know: the arguments, the model's answer, the copies that are marked, the program's answer.
-/
import Derived.Test.YtldbcenipahkfaaInts
import Derived.Test.YtldbcenipahkfaaMarks
namespace Go.Proofs.Ytldbcenipahkfaa
open Go.RowKit
set_option linter.unusedVariables false
set_option maxRecDepth 100000

theorem eqI_yes (A A' : Option Addr) (n c d B B' : Nat) (xs : List Int) (w : World) (hx : Ints w B A n xs) (hy : Ints w B' A' n xs) (hn : n ≤ maxLen) :
    Calls Try.prog 31 #[.slice A n c, .slice A' n d] w fun e w' => e = .returned (.bool true) ∧ Below w.heap.size w w' :=
  (eqIntS_yes A A' n c n d B B' xs xs w hx hy hn hn rfl).mono fun _ _ ⟨he, q, hw⟩ => ⟨he, by rw [hw]; exact below_drewN (Below.refl _ _) q⟩

structure ZI (w W : World) (B1 B4 B6 B5 : Nat) (A : Option Addr) (na : Nat) (xs : List Int) (X : Option Addr) (nx : Nat) (zs : List Int) (A1 : Option Addr) (m1 : Nat) (ws : List Int)
    (A4 : Option Addr) (n4 c4 : Nat) (ys : List Int) (A6 : Option Addr) (n6 c6 : Nat) (us : List Int) (A5 : Option Addr) (n5 c5 : Nat) (gs : List Int) : Prop where
  i : Ints W w.heap.size A na xs
  i2 : Ints W w.heap.size X nx zs
  w1 : Ints W B1 A1 m1 ws
  o4 : Own W B4 A4 n4 c4 ys
  o6 : Own W B6 A6 n6 c6 us
  g5 : Own W B5 A5 n5 c5 gs
  b : Below w.heap.size w W
  le0 : w.heap.size ≤ B1
  le1 : B1 ≤ B4
  le2 : B4 ≤ B6
  le6 : B6 ≤ B5
  le3 : B5 ≤ W.heap.size
  l4 : ∀ g, (Value.slice A4 n4 c4).ownBlock = some g → g < B6
  l6 : ∀ g, (Value.slice A6 n6 c6).ownBlock = some g → g < B5
section
variable {w W W' : World} {B1 B4 B6 B5 na nx m1 n4 c4 n6 c6 n5 c5 : Nat} {A X A1 A4 A6 A5 : Option Addr} {xs zs ws ys us gs : List Int}
theorem ZI.below (h : ZI w W B1 B4 B6 B5 A na xs X nx zs A1 m1 ws A4 n4 c4 ys A6 n6 c6 us A5 n5 c5 gs) (hb : Below W.heap.size W W') : ZI w W' B1 B4 B6 B5 A na xs X nx zs A1 m1 ws A4 n4 c4 ys A6 n6 c6 us A5 n5 c5 gs :=
  { i := h.i.below hb h.b.size, i2 := h.i2.below hb h.b.size, w1 := h.w1.below hb (by have := h.le1; have := h.le2; have := h.le6; have := h.le3; omega), o4 := h.o4.below hb, o6 := h.o6.below hb, g5 := h.g5.below hb, b := h.b.trans (hb.mono h.b.size)
    le0 := h.le0, le1 := h.le1, le2 := h.le2, le6 := h.le6, le3 := Nat.le_trans h.le3 hb.size, l4 := h.l4, l6 := h.l6 }
theorem ZI.mark4 {ys' : List Int} (h : ZI w W B1 B4 B6 B5 A na xs X nx zs A1 m1 ws A4 n4 c4 ys A6 n6 c6 us A5 n5 c5 gs) (ho : Own W' B4 A4 n4 c4 ys') (hg : W.grownBy W' (Value.slice A4 n4 c4).ownBlock) :
    ZI w W' B1 B4 B6 B5 A na xs X nx zs A1 m1 ws A4 n4 c4 ys' A6 n6 c6 us A5 n5 c5 gs := by
  have h0 := h.le0; have h1 := h.le1; have h2 := h.le2; have h6 := h.le6; have h3 := h.le3; have h5 := h.b.size
  have hr : ∀ g, (Value.slice A4 n4 c4).ownBlock = some g → B4 ≤ g ∧ g < B6 := fun g e => ⟨(h.o4.block g e).1, h.l4 g e⟩
  exact
  { i := h.i.grown hg (by omega) (fun g e => by have := hr g e; omega), i2 := h.i2.grown hg (by omega) (fun g e => by have := hr g e; omega), w1 := h.w1.grown hg (by omega) (fun g e => by have := hr g e; omega), o4 := ho
    o6 := h.o6.kept hg (fun g e e' => by have := hr g e; have := (h.o6.block g e').1; omega), g5 := h.g5.kept hg (fun g e e' => by have := hr g e; have := (h.g5.block g e').1; omega)
    b := h.b.grown hg h.b.size (fun g e => by have := hr g e; omega), le0 := h.le0, le1 := h.le1, le2 := h.le2, le6 := h.le6, le3 := Nat.le_trans h.le3 hg.size, l4 := h.l4, l6 := h.l6 }
theorem ZI.mark6 {us' : List Int} (h : ZI w W B1 B4 B6 B5 A na xs X nx zs A1 m1 ws A4 n4 c4 ys A6 n6 c6 us A5 n5 c5 gs) (ho : Own W' B6 A6 n6 c6 us') (hg : W.grownBy W' (Value.slice A6 n6 c6).ownBlock) :
    ZI w W' B1 B4 B6 B5 A na xs X nx zs A1 m1 ws A4 n4 c4 ys A6 n6 c6 us' A5 n5 c5 gs := by
  have h0 := h.le0; have h1 := h.le1; have h2 := h.le2; have h6 := h.le6; have h3 := h.le3; have h5 := h.b.size
  have hr : ∀ g, (Value.slice A6 n6 c6).ownBlock = some g → B6 ≤ g ∧ g < B5 := fun g e => ⟨(h.o6.block g e).1, h.l6 g e⟩
  exact
  { i := h.i.grown hg (by omega) (fun g e => by have := hr g e; omega), i2 := h.i2.grown hg (by omega) (fun g e => by have := hr g e; omega), w1 := h.w1.grown hg (by omega) (fun g e => by have := hr g e; omega), o6 := ho
    o4 := h.o4.kept hg (fun g e e' => by have := hr g e; have := h.l4 g e'; omega), g5 := h.g5.kept hg (fun g e e' => by have := hr g e; have := (h.g5.block g e').1; omega)
    b := h.b.grown hg h.b.size (fun g e => by have := hr g e; omega), le0 := h.le0, le1 := h.le1, le2 := h.le2, le6 := h.le6, le3 := Nat.le_trans h.le3 hg.size, l4 := h.l4, l6 := h.l6 }
theorem ZI.mark5 {gs' : List Int} (h : ZI w W B1 B4 B6 B5 A na xs X nx zs A1 m1 ws A4 n4 c4 ys A6 n6 c6 us A5 n5 c5 gs) (ho : Own W' B5 A5 n5 c5 gs') (hg : W.grownBy W' (Value.slice A5 n5 c5).ownBlock) :
    ZI w W' B1 B4 B6 B5 A na xs X nx zs A1 m1 ws A4 n4 c4 ys A6 n6 c6 us A5 n5 c5 gs' := by
  have h0 := h.le0; have h1 := h.le1; have h2 := h.le2; have h6 := h.le6; have h3 := h.le3; have h5 := h.b.size
  have hr : ∀ g, (Value.slice A5 n5 c5).ownBlock = some g → B5 ≤ g := fun g e => (h.g5.block g e).1
  exact
  { i := h.i.grown hg (by omega) (fun g e => by have := hr g e; omega), i2 := h.i2.grown hg (by omega) (fun g e => by have := hr g e; omega), w1 := h.w1.grown hg (by omega) (fun g e => by have := hr g e; omega), g5 := ho
    o4 := h.o4.kept hg (fun g e e' => by have := hr g e; have := h.l4 g e'; omega), o6 := h.o6.kept hg (fun g e e' => by have := hr g e; have := h.l6 g e'; omega)
    b := h.b.grown hg h.b.size (fun g e => by have := hr g e; omega), le0 := h.le0, le1 := h.le1, le2 := h.le2, le6 := h.le6, le3 := Nat.le_trans h.le3 hg.size, l4 := h.l4, l6 := h.l6 }
end
end Go.Proofs.Ytldbcenipahkfaa
