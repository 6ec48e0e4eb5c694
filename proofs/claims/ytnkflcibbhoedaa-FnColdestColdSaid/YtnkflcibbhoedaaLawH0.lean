/-
  What the laws of heat share.
-/
import Derived.Test.YtnkflcibbhoedaaDrawH1
import Derived.Test.YtnkflcibbhoedaaSpecH2
import Derived.Test.YtnkflcibbhoedaaImpH3
import Derived.Test.YtnkflcibbhoedaaInts
import Derived.Test.YtnkflcibbhoedaaHas
import Derived.BigQuiet
namespace Go.Proofs.Ytnkflcibbhoedaa
open Go.RowKit
set_option linter.unusedVariables false
set_option maxRecDepth 100000

theorem useS_le (h : List Int) (b : Int) : (useS h b).length ≤ 12 := by
  unfold useS
  rcases hv : useV h b with _ | _
  · simp
  · rw [if_pos rfl, useH_length]
    unfold useV at hv
    rw [Bool.and_eq_true] at hv
    rw [hV_len hv.1]
    exact Nat.le_refl _
theorem decS_le (h : List Int) : (decS h).length ≤ 12 := by
  rcases hv : hV h with _ | _
  · rw [decS_no hv]; simp
  · rw [decS_yes hv, decH_length, hV_len hv]; exact Nat.le_refl _
theorem drewN0 (w : World) (q : Nat) : (w.drewN 0).drewN q = w.drewN q := rfl
theorem quiet_h {P : Program} {f : FuncId} {args : Array Value} {W : World} {j : Nat} {r : Value} (c : Calls P f args (W.drewN j) fun e U => e = .returned r ∧ W.drewN j = U) :
    Calls P f args (W.drewN j) fun e U => e = .returned r ∧ ∃ z, U = W.drewN z := c.mono fun _ _ ⟨he, hz⟩ => ⟨he, j, hz.symm⟩
end Go.Proofs.Ytnkflcibbhoedaa
