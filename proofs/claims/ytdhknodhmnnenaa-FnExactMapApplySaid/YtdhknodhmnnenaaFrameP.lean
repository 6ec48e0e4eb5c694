/-
  The words of a frame: impl.FramePut and the model's: both return a row of the call's own that holds putF.
-/
import Derived.Test.YtdhknodhmnnenaaFrameV
import Derived.Test.YtdhknodhmnnenaaMake
namespace Go.Proofs.Ytdhknodhmnnenaa
open Go.RowKit
set_option linter.unusedVariables false
set_option maxRecDepth 100000

def headF (k s : Int) (body : List Int) : List Int := [k, s, (body.length : Int)] ++ body
def putF (k s : Int) (body : List Int) : List Int := if validF k s body = true then headF k s body ++ [sumFrom 7 (headF k s body)] else []

theorem allW_head {k s : Int} {body : List Int} (h : validF k s body = true) : allW (headF k s body) = true := by
  obtain ⟨h1, h2, h3, h4⟩ := validF_iff.1 h
  have e : headF k s body = k :: s :: (body.length : Int) :: body := rfl
  rw [e]
  unfold allW at h4 ⊢
  simp only [List.all_cons, h4, Bool.and_true, Bool.and_eq_true]
  simp [okW]
  omega

theorem Own.lit' {w : World} {base g : Nat} (hg : g = w.heap.size) (hb : base ≤ w.heap.size) (xs : List Int) (hm : xs.length ≤ maxLen) :
    Own (w.alloc (.cells (xs.map (Value.int .i64)).toArray 3)) base (some ⟨g, 0, none⟩) xs.length xs.length xs := by
  subst hg
  exact Own.lit w base hb xs hm

theorem Ints.three (w : World) (a b c : Int) : Ints (w.alloc (.cells #[.int .i64 a, .int .i64 b, .int .i64 c] 3)) (w.heap.size + 1) (some ⟨w.heap.size, 0, none⟩) 3 [a, b, c] := by
  have h := (Own.lit w w.heap.size (Nat.le_refl _) [a, b, c] (by unfold maxLen; simp)).ints
  exact h.more (by simp)

theorem below_app_any {B : Nat} {a w w' : World} {row : Option Nat} {o : Obj} (h : Below B a w) (hB : B ≤ w.heap.size) (hg : (w.alloc o).grownBy w' row) (hr : ∀ k, row = some k → B ≤ k) : Below B a w' :=
  (h.alloc hB o).grown hg (by simp; omega) hr
theorem below_app_bare {B : Nat} {a w w' : World} {row : Option Nat} (h : Below B a w) (hB : B ≤ w.heap.size) (hg : w.grownBy w' row) (hr : ∀ k, row = some k → B ≤ k) : Below B a w' :=
  h.grown hg hB hr

theorem set_grown {a w : World} {R : Nat} (h : a.grownBy w (some R)) (i : Nat) (u : Value) : a.grownBy (w.setCell ⟨R, i, none⟩ u) (some R) :=
  ⟨h.os, h.tape, h.output, by simpa [World.setCell] using h.size, fun k hk hne => (Below.heap_setCell w ⟨R, i, none⟩ u k (by rintro rfl; exact hne rfl)).trans (h.block k hk hne)⟩
theorem set3_grown (w : World) (R : Nat) (u0 u1 u2 : Value) : w.grownBy (((w.setCell ⟨R, 0, none⟩ u0).setCell ⟨R, 1, none⟩ u1).setCell ⟨R, 2, none⟩ u2) (some R) :=
  set_grown (set_grown (set_grown (grown_refl w _) 0 u0) 1 u1) 2 u2

theorem frame_new {w : World} (R : Nat) (u0 u1 u2 : Value) (h : Blk w R 35 #[u0, u1, u2]) (v0 v1 v2 : Value) :
    Blk (((w.setCell ⟨R, 0, none⟩ v0).setCell ⟨R, 1, none⟩ v1).setCell ⟨R, 2, none⟩ v2) R 35 #[v0, v1, v2] := by
  have := ((h.set_ 0 v0).set_ 1 v1).set_ 2 v2
  simpa using this

theorem blk_new' {w : World} {g : Nat} (hg : g = w.heap.size) (t : TypeId) (cs : Array Value) : Blk (w.alloc (.cells cs t)) g t cs := by subst hg; exact Blk.new w t cs
theorem blk_cells3 {w : World} {R : Nat} {t : TypeId} {u0 u1 u2 : Value} (h : Blk w R t #[u0, u1, u2]) :
    w.cell? ⟨R, 0, none⟩ = some u0 ∧ w.cell? ⟨R, 1, none⟩ = some u1 ∧ w.cell? ⟨R, 2, none⟩ = some u2 := by
  refine ⟨?_, ?_, ?_⟩ <;> rw [h.cell] <;> rfl

theorem grown_box {w w' : World} {C : Nat} {o : Obj} (h : (w.alloc o).grownBy w' (some C)) : w.grownBy w' (some C) := grown_trans' (grown_alloc (grown_refl w (some C)) o) h
theorem blk_grown {w w' : World} {C R : Nat} {t : TypeId} {cs : Array Value} (h : Blk w R t cs) (hg : w.grownBy w' (some C)) (hne : R ≠ C) : Blk w' R t cs := h.grown hg (by intro e; injection e with e; exact hne e)

end Go.Proofs.Ytdhknodhmnnenaa
