/-
  Heat of blocks that were never used: the model's l13New.
-/
import Derived.Test.YtiopbgenkalfaaaMake
namespace Go.Proofs.Ytiopbgenkalfaaa
open Go.RowKit
set_option linter.unusedVariables false
set_option maxRecDepth 100000

set_option maxHeartbeats 800000 in
theorem new13_any (w : World) : Calls Try.prog 68 #[] w fun e w' => e = .returned (.slice (some ⟨w.heap.size, 0, none⟩) 12 12) ∧ Own w' w.heap.size (some ⟨w.heap.size, 0, none⟩) 12 12 (List.replicate 12 0) ∧ Below w.heap.size w w' := by
  obtain ⟨i0, hi, hz0, hz1, hz2⟩ := info_parts info_int
  go_enter Try.func68, Try.ntmps68
  go_wp2_with (at_make; refine wpList_make_full _ rfl _ _ 23 rfl w.heap.size 3 i0 (.int .i64 0) 1 Try.underlying23 hi hz0 hz1 .i64 .i64 12 12 12 rfl rfl rfl rfl (by rw [hz2]; omega) (by unfold maxLen; omega) (Nat.le_refl _) ?_; intro w1 hown hgrow)
  have ho : Own w1 w.heap.size (some ⟨w.heap.size, 0, none⟩) 12 12 (List.replicate 12 0) := by
    refine ⟨by simp, ?_⟩
    have e : (madeCells (Value.int .i64 0).cells (12 * 1)).toList = (List.replicate 12 (0 : Int)).map (Value.int .i64) := by
      rw [Nat.mul_one]
      show (madeCells #[Value.int .i64 0] 12).toList = _
      rw [toList_madeCells_one, List.map_replicate]
    rw [← e]
    exact hown
  have hB1 : Below w.heap.size w w1 := below_of_grown hgrow
  clear hown hgrow hi hz0 hz1 hz2
  go_wp2
  go_ret
  exact ⟨rfl, ho, hB1⟩
end Go.Proofs.Ytiopbgenkalfaaa
