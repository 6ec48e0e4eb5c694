/-
  Lists of numbers in a range. Plain.
-/
import Derived.Test.YtiopbgenkalfaaaBase
namespace Go.Proofs.Ytiopbgenkalfaaa
open Go.RowKit
set_option linter.unusedVariables false
set_option maxRecDepth 100000

/-- the words of a list are from lo to hi -/
def Rng (lo hi : Int) (xs : List Int) : Prop := ∀ x ∈ xs, lo ≤ x ∧ x ≤ hi
theorem Rng.snoc {lo hi : Int} {xs : List Int} {x : Int} (h : Rng lo hi xs) (h1 : lo ≤ x) (h2 : x ≤ hi) : Rng lo hi (xs ++ [x]) := by
  intro y hy
  rcases List.mem_append.1 hy with hy | hy
  · exact h y hy
  · simp at hy; subst hy; exact ⟨h1, h2⟩
theorem Rng.set {lo hi : Int} {xs : List Int} {x : Int} (h : Rng lo hi xs) (j : Nat) (h1 : lo ≤ x) (h2 : x ≤ hi) : Rng lo hi (xs.set j x) := by
  intro y hy
  rcases List.mem_or_eq_of_mem_set hy with hy | hy
  · exact h y hy
  · subst hy; exact ⟨h1, h2⟩
theorem Rng.getD {lo hi : Int} {xs : List Int} (h : Rng lo hi xs) {j : Nat} (hj : j < xs.length) : lo ≤ xs.getD j 0 ∧ xs.getD j 0 ≤ hi := by
  have := h xs[j] (List.getElem_mem hj)
  simpa [List.getD, hj] using this

end Go.Proofs.Ytiopbgenkalfaaa
