/-
  Frames: which are valid (impl.FrameValid and the model's), their words (impl.FramePut and the model's).
-/
import Derived.Test.YtiopbgenkalfaaaSum
namespace Go.Proofs.Ytiopbgenkalfaaa
open Go.RowKit
set_option linter.unusedVariables false
set_option maxRecDepth 100000

def validF (k s : Int) (body : List Int) : Bool := inB k 1 2 && inB s 1 999 && inB body.length 1 18 && allW body
theorem validF_iff {k s : Int} {body : List Int} : validF k s body = true ↔ (1 ≤ k ∧ k ≤ 2) ∧ (1 ≤ s ∧ s ≤ 999) ∧ (1 ≤ (body.length : Int) ∧ (body.length : Int) ≤ 18) ∧ allW body = true := by
  simp [validF, inB, and_assoc]

theorem below_box (w : World) (o : Obj) : Below w.heap.size w (w.alloc o) := (Below.refl _ _).alloc (Nat.le_refl _) o

theorem sum_ge (xs : List Int) : decide (0 ≤ sumFrom 7 xs) = allW xs := by
  rcases h : allW xs with _ | _
  · rw [sumFrom_allW _ _ h]; rfl
  · have := (sumFrom_rng xs 7 (by omega) (by omega) h).1
    simpa using this

end Go.Proofs.Ytiopbgenkalfaaa
