/-
  A map in which no block has a value: the model's l11New.
-/
import Derived.Test.YtiopbgenkalfaaaMapI
namespace Go.Proofs.Ytiopbgenkalfaaa
open Go.RowKit
set_option linter.unusedVariables false
set_option maxRecDepth 100000

theorem made_sameM (z : Array Value) (v : Value) (hz : 0 < z.size) (h : ∀ i, i < z.size → z[i]! = v) (n : Nat) : (madeCells z n).toList = List.replicate n v := by
  apply List.ext_getElem
  · simp [madeCells]
  · intro i h1 h2
    simp only [madeCells, Array.toList_map, List.getElem_map, List.getElem_replicate]
    exact h _ (Nat.mod_lt _ hz)
def new12 : List Wh := List.replicate 12 wh0
theorem new12_valid : mpV new12 = true := by decide

set_option maxHeartbeats 1600000 in
theorem l11New_any (w : World) :
    Calls Try.prog 67 #[] w fun e w' => e = .returned (.slice (some ⟨w.heap.size, 0, none⟩) 12 12) ∧ MpR w' w.heap.size (some ⟨w.heap.size, 0, none⟩) 12 12 new12 ∧ Below w.heap.size w w' := by
  obtain ⟨i0, hi, hz0, hz1, hz2⟩ := info_parts whT.info
  go_enter Try.func67, Try.ntmps67
  go_wp2_with (at_make; refine wpList_make_full _ rfl _ _ 68 rfl w.heap.size 107 i0 (Value.agg #[.int .i64 0, .int .i64 0, .int .i64 0, .int .i64 0, .int .i64 0]) 5 Try.underlying68 hi hz0 hz1 .i64 .i64 _ _ 12 rfl rfl rfl rfl (by rw [hz2]; omega) (by unfold maxLen; omega) (Nat.le_refl _) ?_; intro w1 hown hgrow)
  have ho : OwnR w1 w.heap.size 107 5 (some ⟨w.heap.size, 0, none⟩) 12 12 (fl5 new12) := by
    refine ⟨by simp [fl5_length, new12], ?_⟩
    have e : (madeCells (Value.agg #[.int .i64 0, .int .i64 0, .int .i64 0, .int .i64 0, .int .i64 0]).cells (12 * 5)).toList = (fl5 new12).map (Value.int .i64) := by
      rw [made_sameM _ (.int .i64 0) (by decide) (fun i hi => by have h2 : i < 5 := hi; rcases i with _ | _ | _ | _ | _ | i <;> first | rfl | omega) _]
      rfl
    rw [← e]
    exact hown
  have hB1 : Below w.heap.size w w1 := below_of_grown hgrow
  clear hown hgrow hi hz0 hz1 hz2
  go_ret
  exact ⟨rfl, ⟨rfl, ho⟩, hB1⟩

end Go.Proofs.Ytiopbgenkalfaaa
