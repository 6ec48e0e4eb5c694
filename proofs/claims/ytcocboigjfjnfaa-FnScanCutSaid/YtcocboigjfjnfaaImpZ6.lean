/-
  The program's DeviceAppend, DeviceCut.
-/
import Derived.Test.YtcocboigjfjnfaaImpZ5
namespace Go.Proofs.Ytcocboigjfjnfaa
open Go.RowKit
set_option linter.unusedVariables false
set_option maxRecDepth 100000

theorem addG {W ws : List Int} {M : List Mk} {ds : Dev} {k n m : Nat} {sy : Int} {fu : Bool} (h : GrOk W M) (hd : devG W M = ds) (hk : k < 4) (hm : M[k]? = some ((n : Int), sy, fu)) (hw : ws.length = m) (hnm : n + m ≤ 64) :
    devG (splice W (k * 64 + n) ws) (M.set k ((n : Int) + m, sy, fu)) = ds.set k ((zoneG W k ((n : Int), sy, fu)).1 ++ ws, sy, fu) := by
  subst hw
  subst hd
  rw [devG_set]
  apply List.ext_getElem?
  intro i
  have hl1 : (devG (splice W (k * 64 + n) ws) M).length = 4 := by rw [devG_length, h.marks]
  have hl2 : (devG W M).length = 4 := by rw [devG_length, h.marks]
  rw [List.getElem?_set, List.getElem?_set]
  by_cases e : k = i
  · subst e
    rw [if_pos rfl, if_pos rfl, if_pos (by omega), if_pos (by omega), zoneG_splice_at h ws sy fu hk hnm]
    unfold zoneG
    simp
  · rw [if_neg e, if_neg e]
    by_cases hi : i < 4
    · obtain ⟨mi, hmi, h0, h1⟩ := h.at_ hi
      rw [devG_get hmi, devG_get hmi, zoneG_splice h mi ws hk hi ⟨h0, h1⟩ hnm (fun e2 => absurd e2.symm e)]
    · rw [List.getElem?_eq_none (by omega), List.getElem?_eq_none (by omega)]

theorem devposti_nil {w w' : World} (hb : Below w.heap.size w w') : DevPostI w 2 [] (.returned (.tuple #[.slice none 0 0, .int .i64 2])) w' := ⟨_, _, _, [], rfl, OwnZ.nil_ _ _, rfl, hb⟩

end Go.Proofs.Ytcocboigjfjnfaa
