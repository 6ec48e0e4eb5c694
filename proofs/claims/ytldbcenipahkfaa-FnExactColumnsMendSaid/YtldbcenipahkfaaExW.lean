/-
  What an exact law of a body knows: the argument, the model's answer, the copy that is marked, the program's answer.
-/
import Derived.Test.YtldbcenipahkfaaRec
import Derived.Test.YtldbcenipahkfaaMarks
namespace Go.Proofs.Ytldbcenipahkfaa
open Go.RowKit
set_option linter.unusedVariables false
set_option maxRecDepth 100000

theorem Own.rec {w : World} {base n c : Nat} {A : Option Addr} {xs : List Int} (h : Own w base A n c xs) : OwnR w base 3 1 A n c xs := ⟨by simpa using h.1, h.2⟩
theorem OwnR.own {w : World} {base n c : Nat} {A : Option Addr} {xs : List Int} (h : OwnR w base 3 1 A n c xs) : Own w base A n c xs := ⟨by simpa using h.1, h.2⟩

structure ZX (w W : World) (B1 B4 B5 : Nat) (A : Option Addr) (na : Nat) (xs : List Int) (A1 : Option Addr) (m1 : Nat) (ws : List Int)
    (t4 : TypeId) (s4 : Nat) (A4 : Option Addr) (n4 c4 : Nat) (ys : List Int) (t5 : TypeId) (s5 : Nat) (A5 : Option Addr) (n5 c5 : Nat) (gs : List Int) : Prop where
  i : Ints W w.heap.size A na xs
  w1 : Ints W B1 A1 m1 ws
  o4 : OwnR W B4 t4 s4 A4 n4 c4 ys
  g5 : OwnR W B5 t5 s5 A5 n5 c5 gs
  b : Below w.heap.size w W
  le0 : w.heap.size ≤ B1
  le1 : B1 ≤ B4
  le2 : B4 ≤ B5
  le3 : B5 ≤ W.heap.size
  lt4 : ∀ g, (Value.slice A4 n4 c4).ownBlock = some g → g < B5
section
variable {w W W' : World} {B1 B4 B5 na m1 s4 n4 c4 s5 n5 c5 : Nat} {t4 t5 : TypeId} {A A1 A4 A5 : Option Addr} {xs ws ys gs : List Int}
theorem ZX.below (h : ZX w W B1 B4 B5 A na xs A1 m1 ws t4 s4 A4 n4 c4 ys t5 s5 A5 n5 c5 gs) (hb : Below W.heap.size W W') : ZX w W' B1 B4 B5 A na xs A1 m1 ws t4 s4 A4 n4 c4 ys t5 s5 A5 n5 c5 gs :=
  { i := h.i.below hb h.b.size, w1 := h.w1.below hb (by have := h.le1; have := h.le2; have := h.le3; omega), o4 := h.o4.below hb, g5 := h.g5.below hb, b := h.b.trans (hb.mono h.b.size)
    le0 := h.le0, le1 := h.le1, le2 := h.le2, le3 := Nat.le_trans h.le3 hb.size, lt4 := h.lt4 }
theorem ZX.drewN (h : ZX w W B1 B4 B5 A na xs A1 m1 ws t4 s4 A4 n4 c4 ys t5 s5 A5 n5 c5 gs) (k : Nat) : ZX w (W.drewN k) B1 B4 B5 A na xs A1 m1 ws t4 s4 A4 n4 c4 ys t5 s5 A5 n5 c5 gs :=
  h.below (below_drewN (Below.refl _ _) k)
theorem ZX.drew (h : ZX w W B1 B4 B5 A na xs A1 m1 ws t4 s4 A4 n4 c4 ys t5 s5 A5 n5 c5 gs) : ZX w W.drew B1 B4 B5 A na xs A1 m1 ws t4 s4 A4 n4 c4 ys t5 s5 A5 n5 c5 gs := h.drewN 1
theorem ZX.mark4 {ys' : List Int} (h : ZX w W B1 B4 B5 A na xs A1 m1 ws t4 s4 A4 n4 c4 ys t5 s5 A5 n5 c5 gs) (ho : OwnR W' B4 t4 s4 A4 n4 c4 ys') (hg : W.grownBy W' (Value.slice A4 n4 c4).ownBlock) :
    ZX w W' B1 B4 B5 A na xs A1 m1 ws t4 s4 A4 n4 c4 ys' t5 s5 A5 n5 c5 gs := by
  have h0 := h.le0; have h1 := h.le1; have h2 := h.le2; have h3 := h.le3; have h5 := h.b.size
  have hr : ∀ g, (Value.slice A4 n4 c4).ownBlock = some g → B4 ≤ g ∧ g < B5 := fun g e => ⟨(h.o4.block g e).1, h.lt4 g e⟩
  exact
  { i := h.i.grown hg (by omega) (fun g e => by have := hr g e; omega), w1 := h.w1.grown hg (by omega) (fun g e => by have := hr g e; omega), o4 := ho
    g5 := h.g5.kept hg (fun g e e' => by have := hr g e; have := (h.g5.block g e').1; omega)
    b := h.b.grown hg h.b.size (fun g e => by have := hr g e; omega), le0 := h.le0, le1 := h.le1, le2 := h.le2, le3 := Nat.le_trans h.le3 hg.size, lt4 := h.lt4 }
theorem ZX.mark5 {gs' : List Int} (h : ZX w W B1 B4 B5 A na xs A1 m1 ws t4 s4 A4 n4 c4 ys t5 s5 A5 n5 c5 gs) (ho : OwnR W' B5 t5 s5 A5 n5 c5 gs') (hg : W.grownBy W' (Value.slice A5 n5 c5).ownBlock) :
    ZX w W' B1 B4 B5 A na xs A1 m1 ws t4 s4 A4 n4 c4 ys t5 s5 A5 n5 c5 gs' := by
  have h0 := h.le0; have h1 := h.le1; have h2 := h.le2; have h3 := h.le3; have h5 := h.b.size
  have hr : ∀ g, (Value.slice A5 n5 c5).ownBlock = some g → B5 ≤ g := fun g e => (h.g5.block g e).1
  exact
  { i := h.i.grown hg (by omega) (fun g e => by have := hr g e; omega), w1 := h.w1.grown hg (by omega) (fun g e => by have := hr g e; omega)
    o4 := h.o4.kept hg (fun g e e' => by have := hr g e; have := h.lt4 g e'; omega), g5 := ho
    b := h.b.grown hg h.b.size (fun g e => by have := hr g e; omega), le0 := h.le0, le1 := h.le1, le2 := h.le2, le3 := Nat.le_trans h.le3 hg.size, lt4 := h.lt4 }
end
end Go.Proofs.Ytldbcenipahkfaa
