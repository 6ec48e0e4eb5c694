/-
  What the exact laws of extents know: arguments that read as extents; the argument, the model's answer, the copies that are marked, the program's answer.
-/
import Derived.Test.YthpipgcgnhgphaaExHE
import Derived.Test.YthpipgcgnhgphaaExW
import Derived.Test.YthpipgcgnhgphaaImpE
namespace Go.Proofs.Ythpipgcgnhgphaa
open Go.RowKit
set_option linter.unusedVariables false
set_option maxRecDepth 100000

theorem unfl_mem : ∀ (n : Nat) (xs : List Int), xs.length = n * 2 → ∀ e ∈ unfl xs, e.1 ∈ xs
  | 0, xs, h, e, he => by
    obtain rfl := List.eq_nil_of_length_eq_zero (by omega : xs.length = 0)
    cases he
  | n + 1, xs, h, e, he => by
    match xs, h with
    | x :: y :: r, h =>
      rcases List.mem_cons.1 (show e ∈ (x, y) :: unfl r from he) with rfl | he
      · exact List.mem_cons_self ..
      · exact List.mem_cons_of_mem _ (List.mem_cons_of_mem _ (unfl_mem n r (by simp at h; omega) e he))
    | [], h => simp at h
    | [x], h => simp at h; omega
theorem rg_of {n : Nat} {xs : List Int} {lo : Int} (hl : xs.length = n * 2) (h : Rng lo 9223372036854775807 xs) : Rg (unfl xs) := fun e he => (h _ (unfl_mem n xs hl e he)).2
theorem exI_of {w : World} {B n : Nat} {A : Option Addr} {xs : List Int} (h : Ints w B A (n * 2) xs) : ExI w B A n (unfl xs) := by
  obtain ⟨h1, h2⟩ := fl_unfl n xs h.1
  exact ⟨h2, by rw [h1]; exact h⟩
/-- k extents, as numbers, and whether it was done -/
def EPost (w : World) (v : Bool) (k : Nat) (ws : List Int) (e : Ending) (w' : World) : Prop :=
  ∃ A2 c2, e = .returned (.tuple #[.slice A2 k c2, .bool v]) ∧ OwnR w' w.heap.size 42 2 A2 k c2 ws ∧ Below w.heap.size w w'
theorem EPost.of {w : World} {v : Bool} {es : Exs} {e : Ending} {w' : World} (h : ExPost w v es e w') : EPost w v es.length (fl es) e w' := by
  obtain ⟨A2, n2, c2, rfl, ⟨hl, ho⟩, hb⟩ := h
  subst hl
  exact ⟨A2, c2, rfl, ho, hb⟩

structure ZE (w W : World) (B1 B4 B6 B5 : Nat) (A : Option Addr) (na : Nat) (xs : List Int) (X : Option Addr) (nx : Nat) (zs : List Int) (A1 : Option Addr) (m1 : Nat) (ws : List Int)
    (A4 : Option Addr) (n4 c4 : Nat) (ys : List Int) (A6 : Option Addr) (n6 c6 : Nat) (us : List Int) (A5 : Option Addr) (n5 c5 : Nat) (gs : List Int) : Prop where
  i : Ints W w.heap.size A na xs
  i2 : Ints W w.heap.size X nx zs
  w1 : Ints W B1 A1 m1 ws
  o4 : OwnR W B4 42 2 A4 n4 c4 ys
  o6 : OwnR W B6 42 2 A6 n6 c6 us
  g5 : OwnR W B5 42 2 A5 n5 c5 gs
  b : Below w.heap.size w W
  le0 : w.heap.size ≤ B1
  le1 : B1 ≤ B4
  le2 : B4 ≤ B6
  le6 : B6 ≤ B5
  le3 : B5 ≤ W.heap.size
  l4 : ∀ g, (Value.slice A4 n4 c4).ownBlock = some g → g < B6
  l6 : ∀ g, (Value.slice A6 n6 c6).ownBlock = some g → g < B5
section
variable {w W W' : World} {B1 B4 B6 B5 na nx m1 n4 c4 n6 c6 n5 c5 : Nat} {A X A1 A4 A6 A5 : Option Addr} {xs zs ws ys us gs : List Int}
theorem ZE.below (h : ZE w W B1 B4 B6 B5 A na xs X nx zs A1 m1 ws A4 n4 c4 ys A6 n6 c6 us A5 n5 c5 gs) (hb : Below W.heap.size W W') : ZE w W' B1 B4 B6 B5 A na xs X nx zs A1 m1 ws A4 n4 c4 ys A6 n6 c6 us A5 n5 c5 gs :=
  { i := h.i.below hb h.b.size, i2 := h.i2.below hb h.b.size, w1 := h.w1.below hb (by have := h.le1; have := h.le2; have := h.le6; have := h.le3; omega), o4 := h.o4.below hb, o6 := h.o6.below hb, g5 := h.g5.below hb, b := h.b.trans (hb.mono h.b.size)
    le0 := h.le0, le1 := h.le1, le2 := h.le2, le6 := h.le6, le3 := Nat.le_trans h.le3 hb.size, l4 := h.l4, l6 := h.l6 }
theorem ZE.mark4 {ys' : List Int} (h : ZE w W B1 B4 B6 B5 A na xs X nx zs A1 m1 ws A4 n4 c4 ys A6 n6 c6 us A5 n5 c5 gs) (ho : OwnR W' B4 42 2 A4 n4 c4 ys') (hg : W.grownBy W' (Value.slice A4 n4 c4).ownBlock) :
    ZE w W' B1 B4 B6 B5 A na xs X nx zs A1 m1 ws A4 n4 c4 ys' A6 n6 c6 us A5 n5 c5 gs := by
  have h0 := h.le0; have h1 := h.le1; have h2 := h.le2; have h6 := h.le6; have h3 := h.le3; have h5 := h.b.size
  have hr : ∀ g, (Value.slice A4 n4 c4).ownBlock = some g → B4 ≤ g ∧ g < B6 := fun g e => ⟨(h.o4.block g e).1, h.l4 g e⟩
  exact
  { i := h.i.grown hg (by omega) (fun g e => by have := hr g e; omega), i2 := h.i2.grown hg (by omega) (fun g e => by have := hr g e; omega), w1 := h.w1.grown hg (by omega) (fun g e => by have := hr g e; omega), o4 := ho
    o6 := h.o6.kept hg (fun g e e' => by have := hr g e; have := (h.o6.block g e').1; omega), g5 := h.g5.kept hg (fun g e e' => by have := hr g e; have := (h.g5.block g e').1; omega)
    b := h.b.grown hg h.b.size (fun g e => by have := hr g e; omega), le0 := h.le0, le1 := h.le1, le2 := h.le2, le6 := h.le6, le3 := Nat.le_trans h.le3 hg.size, l4 := h.l4, l6 := h.l6 }
theorem ZE.mark6 {us' : List Int} (h : ZE w W B1 B4 B6 B5 A na xs X nx zs A1 m1 ws A4 n4 c4 ys A6 n6 c6 us A5 n5 c5 gs) (ho : OwnR W' B6 42 2 A6 n6 c6 us') (hg : W.grownBy W' (Value.slice A6 n6 c6).ownBlock) :
    ZE w W' B1 B4 B6 B5 A na xs X nx zs A1 m1 ws A4 n4 c4 ys A6 n6 c6 us' A5 n5 c5 gs := by
  have h0 := h.le0; have h1 := h.le1; have h2 := h.le2; have h6 := h.le6; have h3 := h.le3; have h5 := h.b.size
  have hr : ∀ g, (Value.slice A6 n6 c6).ownBlock = some g → B6 ≤ g ∧ g < B5 := fun g e => ⟨(h.o6.block g e).1, h.l6 g e⟩
  exact
  { i := h.i.grown hg (by omega) (fun g e => by have := hr g e; omega), i2 := h.i2.grown hg (by omega) (fun g e => by have := hr g e; omega), w1 := h.w1.grown hg (by omega) (fun g e => by have := hr g e; omega), o6 := ho
    o4 := h.o4.kept hg (fun g e e' => by have := hr g e; have := h.l4 g e'; omega), g5 := h.g5.kept hg (fun g e e' => by have := hr g e; have := (h.g5.block g e').1; omega)
    b := h.b.grown hg h.b.size (fun g e => by have := hr g e; omega), le0 := h.le0, le1 := h.le1, le2 := h.le2, le6 := h.le6, le3 := Nat.le_trans h.le3 hg.size, l4 := h.l4, l6 := h.l6 }
theorem ZE.mark5 {gs' : List Int} (h : ZE w W B1 B4 B6 B5 A na xs X nx zs A1 m1 ws A4 n4 c4 ys A6 n6 c6 us A5 n5 c5 gs) (ho : OwnR W' B5 42 2 A5 n5 c5 gs') (hg : W.grownBy W' (Value.slice A5 n5 c5).ownBlock) :
    ZE w W' B1 B4 B6 B5 A na xs X nx zs A1 m1 ws A4 n4 c4 ys A6 n6 c6 us A5 n5 c5 gs' := by
  have h0 := h.le0; have h1 := h.le1; have h2 := h.le2; have h6 := h.le6; have h3 := h.le3; have h5 := h.b.size
  have hr : ∀ g, (Value.slice A5 n5 c5).ownBlock = some g → B5 ≤ g := fun g e => (h.g5.block g e).1
  exact
  { i := h.i.grown hg (by omega) (fun g e => by have := hr g e; omega), i2 := h.i2.grown hg (by omega) (fun g e => by have := hr g e; omega), w1 := h.w1.grown hg (by omega) (fun g e => by have := hr g e; omega), g5 := ho
    o4 := h.o4.kept hg (fun g e e' => by have := hr g e; have := h.l4 g e'; omega), o6 := h.o6.kept hg (fun g e e' => by have := hr g e; have := h.l6 g e'; omega)
    b := h.b.grown hg h.b.size (fun g e => by have := hr g e; omega), le0 := h.le0, le1 := h.le1, le2 := h.le2, le6 := h.le6, le3 := Nat.le_trans h.le3 hg.size, l4 := h.l4, l6 := h.l6 }
end
end Go.Proofs.Ythpipgcgnhgphaa
