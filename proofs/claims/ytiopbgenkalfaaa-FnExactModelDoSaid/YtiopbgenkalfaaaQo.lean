/-
  Small words for the laws on stores: calls in a region that only reads.
-/
import Derived.Test.YtiopbgenkalfaaaBase
import Derived.Deep.QuietTactic
import Derived.BigQuiet
namespace Go.Proofs.Ytiopbgenkalfaaa
open Go.RowKit
set_option linter.unusedVariables false
set_option maxRecDepth 100000

theorem quiet_on3 {P : Program} {f : FuncId} {args : Array Value} {W : World} {j : Nat} {r : Value} (c : Calls P f args (W.drewN j) fun e U => e = .returned r ∧ ∃ q, U = (W.drewN j).drewN q) :
    Calls P f args (W.drewN j) fun e U => e = .returned r ∧ ∃ z, U = W.drewN z := c.mono fun _ _ ⟨he, q, hz⟩ => ⟨he, j + q, by rw [hz, World.drewN_drewN]⟩
end Go.Proofs.Ytiopbgenkalfaaa
