/-
  Blocks of the call's own that are known whole, as one list. Plain.
-/
import Derived.Test.YtiopbgenkalfaaaBase
namespace Go.Proofs.Ytiopbgenkalfaaa
open Go.RowKit
set_option linter.unusedVariables false
set_option maxRecDepth 100000

/-- blocks of the call's own that are known whole -/
structure Kp (w W : World) (L : List (Nat × TypeId × Array Value)) : Prop where
  blk : ∀ p ∈ L, Blk W p.1 p.2.1 p.2.2 ∧ w.heap.size ≤ p.1
  below : Below w.heap.size w W
section
variable {w W W' : World} {t : TypeId} {cs : Array Value} {L : List (Nat × TypeId × Array Value)} {g : Nat}
theorem Kp.refl (w : World) : Kp w w [] := ⟨fun p hp => (List.not_mem_nil hp).elim, Below.refl _ _⟩
theorem Kp.push (h : Kp w W L) (t : TypeId) (cs : Array Value) : Kp w (W.alloc (.cells cs t)) ((W.heap.size, t, cs) :: L) :=
  ⟨fun p hp => by
    rcases List.mem_cons.1 hp with rfl | hp
    · exact ⟨Blk.new W t cs, h.below.size⟩
    · exact ⟨(h.blk p hp).1.alloc _, (h.blk p hp).2⟩, h.below.alloc h.below.size _⟩
theorem Kp.pushN (h : Kp w W L) (g : Nat) (hg : W.heap.size = g) (t : TypeId) (cs : Array Value) : Kp w (W.alloc (.cells cs t)) ((g, t, cs) :: L) := by subst hg; exact h.push t cs
theorem Kp.alloc (h : Kp w W L) (o : Obj) : Kp w (W.alloc o) L := ⟨fun p hp => ⟨(h.blk p hp).1.alloc _, (h.blk p hp).2⟩, h.below.alloc h.below.size _⟩
theorem Kp.drewN (h : Kp w W L) (n : Nat) : Kp w (W.drewN n) L := ⟨fun p hp => ⟨(h.blk p hp).1.drewN n, (h.blk p hp).2⟩, below_drewN h.below n⟩
theorem Kp.drew (h : Kp w W L) : Kp w W.drew L := h.drewN 1
theorem Kp.step (h : Kp w W L) (hb : Below W.heap.size W W') : Kp w W' L := ⟨fun p hp => ⟨(h.blk p hp).1.below hb (h.blk p hp).1.lt, (h.blk p hp).2⟩, h.below.trans (hb.mono h.below.size)⟩
theorem Kp.hd (h : Kp w W ((g, t, cs) :: L)) : Blk W g t cs := (h.blk _ (List.mem_cons_self ..)).1
theorem Kp.tl (h : Kp w W ((g, t, cs) :: L)) : Kp w W L := ⟨fun p hp => h.blk p (List.mem_cons_of_mem _ hp), h.below⟩
theorem Kp.sub {L' : List (Nat × TypeId × Array Value)} (h : Kp w W L) (hs : ∀ p ∈ L', p ∈ L) : Kp w W L' := ⟨fun p hp => h.blk p (hs p hp), h.below⟩
theorem Kp.swap {x y : Nat × TypeId × Array Value} (h : Kp w W (x :: y :: L)) : Kp w W (y :: x :: L) := ⟨fun p hp => h.blk p (by simp only [List.mem_cons] at hp ⊢; rcases hp with h | h | h <;> simp [h]), h.below⟩
theorem Kp.put (h : Kp w W ((g, t, cs) :: L)) (hne : ∀ p ∈ L, p.1 ≠ g) (j : Nat) (v : Value) : Kp w (W.setCell ⟨g, j, none⟩ v) ((g, t, cs.setIfInBounds j v) :: L) := by
  have hg := (h.blk _ (List.mem_cons_self ..)).2
  refine ⟨fun p hp => ?_, ?_⟩
  · rcases List.mem_cons.1 hp with rfl | hp
    · exact ⟨h.hd.set_ j v, hg⟩
    · exact ⟨(h.tl.blk p hp).1.far (p := ⟨g, j, none⟩) (hne p hp) v, (h.tl.blk p hp).2⟩
  · exact h.below.grown (w' := W.setCell ⟨g, j, none⟩ v) (row := some g) ⟨rfl, rfl, rfl, by simp [World.setCell], fun i hi hne => Below.heap_setCell W ⟨g, j, none⟩ _ i (by rintro rfl; exact hne rfl)⟩ h.below.size (by intro k hk; injection hk with hk; simp only at hg; omega)
theorem Kp.free (h : Kp w W ((g, t, cs) :: L)) (j : Nat) : W.frozen? ⟨g, j, none⟩ = false := h.hd.frozen j
theorem Kp.lt (h : Kp w W ((g, t, cs) :: L)) : g < W.heap.size := h.hd.lt
end
end Go.Proofs.Ytiopbgenkalfaaa
