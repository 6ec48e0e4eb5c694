/-
  A drawing that keeps blocks of its own, as one list. Plain.
-/
import Derived.Test.YtcekikblgbdcoaaRd
import Derived.Test.YtcekikblgbdcoaaDrawA
namespace Go.Proofs.Ytcekikblgbdcoaa
open Go.RowKit
set_option linter.unusedVariables false
set_option maxRecDepth 100000

/-- a drawing that keeps blocks of its own -/
structure KG (w W : World) (R : Nat) (p : Int) (L : List (Nat × TypeId × Array Value)) : Prop where
  rd : Rd W R p
  rlt : R < w.heap.size
  grown : w.grownBy W (some R)
  blk : ∀ q ∈ L, Blk W q.1 q.2.1 q.2.2 ∧ w.heap.size ≤ q.1
section
variable {w W W' : World} {R g : Nat} {p p' : Int} {t : TypeId} {cs : Array Value} {L : List (Nat × TypeId × Array Value)}
theorem KG.new (h : Rd w R p) : KG w w R p [] := ⟨h, h.lt, grown_refl _ _, fun q hq => (List.not_mem_nil hq).elim⟩
theorem KG.pushN (h : KG w W R p L) (g : Nat) (hg : W.heap.size = g) (t : TypeId) (cs : Array Value) : KG w (W.alloc (.cells cs t)) R p ((g, t, cs) :: L) :=
  ⟨h.rd.alloc _, h.rlt, grown_alloc h.grown _, fun q hq => by
    rcases List.mem_cons.1 hq with rfl | hq
    · subst hg; exact ⟨Blk.new W t cs, h.grown.size⟩
    · exact ⟨(h.blk q hq).1.alloc _, (h.blk q hq).2⟩⟩
theorem KG.step (h : KG w W R p L) (hb : Below W.heap.size W W') : KG w W' R p L :=
  ⟨h.rd.below hb, h.rlt, grown_own h.grown (grown_of_below hb none) (fun g hg => by cases hg), fun q hq => ⟨(h.blk q hq).1.below hb (h.blk q hq).1.lt, (h.blk q hq).2⟩⟩
theorem KG.pick (h : KG w W R p L) (hr : Rd W' R p') (hg : W.grownBy W' (some R)) : KG w W' R p' L :=
  ⟨hr, h.rlt, grown_trans' h.grown hg, fun q hq => ⟨(h.blk q hq).1.grown hg (by intro e; injection e with e; have := (h.blk q hq).2; have := h.rlt; omega), (h.blk q hq).2⟩⟩
theorem KG.put (h : KG w W R p ((g, t, cs) :: L)) (hne : ∀ q ∈ L, q.1 ≠ g) (j : Nat) (v : Value) : KG w (W.setCell ⟨g, j, none⟩ v) R p ((g, t, cs.setIfInBounds j v) :: L) := by
  have hgg := (h.blk _ (List.mem_cons_self ..)).2
  have hb := (h.blk _ (List.mem_cons_self ..)).1
  have hgr : W.grownBy (W.setCell ⟨g, j, none⟩ v) (some g) := ⟨rfl, rfl, rfl, by simp [World.setCell], fun i hi hne => Below.heap_setCell W ⟨g, j, none⟩ _ i (by rintro rfl; exact hne rfl)⟩
  refine ⟨h.rd.grown hgr (fun b hb => by injection hb with hb; have := h.rlt; simp only at hgg; omega), h.rlt, grown_own h.grown hgr (fun b hb => by injection hb with hb; simp only at hgg; omega), fun q hq => ?_⟩
  rcases List.mem_cons.1 hq with rfl | hq
  · exact ⟨hb.set_ j v, hgg⟩
  · exact ⟨(h.blk q (List.mem_cons_of_mem _ hq)).1.far (p := ⟨g, j, none⟩) (hne q hq) v, (h.blk q (List.mem_cons_of_mem _ hq)).2⟩
theorem KG.hd (h : KG w W R p ((g, t, cs) :: L)) : Blk W g t cs := (h.blk _ (List.mem_cons_self ..)).1
theorem KG.tl (h : KG w W R p ((g, t, cs) :: L)) : KG w W R p L := ⟨h.rd, h.rlt, h.grown, fun q hq => h.blk q (List.mem_cons_of_mem _ hq)⟩
theorem KG.swap {x y : Nat × TypeId × Array Value} (h : KG w W R p (x :: y :: L)) : KG w W R p (y :: x :: L) := ⟨h.rd, h.rlt, h.grown, fun q hq => h.blk q (by simp only [List.mem_cons] at hq ⊢; rcases hq with h | h | h <;> simp [h])⟩
end
end Go.Proofs.Ytcekikblgbdcoaa
