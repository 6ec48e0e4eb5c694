/-
  The exact laws' helpers on stores: a copy.
-/
import Derived.Test.YtfianpjoifcphaaExHO
import Derived.Test.YtfianpjoifcphaaOPut
namespace Go.Proofs.Ytfianpjoifcphaa
open Go.RowKit
set_option linter.unusedVariables false
set_option maxRecDepth 100000

def oqz : Oq := ⟨0, [], none, 0⟩
theorem madeO (n : Nat) : (madeCells (Value.agg #[.int .i64 0, .slice none 0 0]).cells (n * 2)).toList = flatO (List.replicate n oqz) := by
  apply List.ext_getElem?
  intro i
  by_cases h : i < n * 2
  · have hk : (List.replicate n oqz)[i / 2]? = some oqz := by rw [List.getElem?_replicate, if_pos (by omega)]
    have hj := flatO_get hk (i % 2) (Nat.mod_lt _ (by decide))
    rw [show i / 2 * 2 + i % 2 = i by omega] at hj
    rw [hj]
    have h3 : i % 2 = 0 ∨ i % 2 = 1 := by omega
    simp only [madeCells, Array.toList_map, List.getElem?_map]
    rw [Array.getElem?_toList, Array.getElem?_range, if_pos h]
    show some _ = _
    rcases h3 with e | e <;> simp [Value.cells, e, oqz, Oq.cells, Oq.sl]
  · rw [List.getElem?_eq_none (by simp [madeCells]; omega), List.getElem?_eq_none (by rw [flatO_length, List.length_replicate]; omega)]

theorem OwnO.made {w' : World} {base n c : Nat} {A : Option Addr} (h : w'.ownsRow base 69 2 (.slice A n c) n (flatO (List.replicate n oqz))) : OwnO w' base A n c (List.replicate n oqz) := by
  have get : ∀ {k q}, (List.replicate n oqz)[k]? = some q → q = oqz := fun h => (List.mem_replicate.1 (List.mem_of_getElem? h)).2
  refine ⟨by simp, h, fun k q hk => ?_, fun i j q r hi hj hij g hg => ?_⟩
  · rw [get hk]; exact Own.nil_ _ _
  · rw [get hi] at hg
    simp [oqz, Oq.sl, Value.ownBlock] at hg

end Go.Proofs.Ytfianpjoifcphaa
