/-
  The model's l4Values, StoreValid, l4Find, l4Has: they only read.
-/
import Derived.Test.YtfianpjoifcphaaStoM
import Derived.Deep.QuietTactic
import Derived.BigQuiet
namespace Go.Proofs.Ytfianpjoifcphaa
open Go.RowKit
set_option linter.unusedVariables false
set_option maxRecDepth 100000

theorem valOk_drop (xs : List Int) (k : Nat) (h : k < xs.length) : (xs.drop k).all valOk = (inB (xs.getD k 0) 1 99 && (xs.drop (k + 1)).all valOk) := by
  rw [List.drop_eq_getElem_cons h, List.all_cons]
  simp [List.getD, h, valOk]

theorem quiet_on' {P : Program} {f : FuncId} {args : Array Value} {W : World} {i j : Nat} {r : Value} (c : Calls P f args (W.drewN (i + j)) fun e U => e = .returned r ∧ U = W.drewN (i + j)) :
    Calls P f args (W.drewN (i + j)) fun e U => e = .returned r ∧ ∃ z, U = W.drewN (i + z) := c.mono fun _ _ ⟨he, hz⟩ => ⟨he, j, hz⟩


theorem ascF_step {s : Sto} {k : Nat} {o : Int × List Int} (h : s[k]? = some o) (last : Int) : ascF_StoM last (s.drop k) = (inB o.1 (last + 1) 999 && valsOk o.2 && ascF_StoM o.1 (s.drop (k + 1))) := by
  have hl : k < s.length := (List.getElem?_eq_some_iff.1 h).1
  have e : s[k] = o := (List.getElem?_eq_some_iff.1 h).2
  rw [List.drop_eq_getElem_cons hl, e]
  rfl



theorem hasI_take (xs : List Int) (k : Nat) (n : Int) (h : k < xs.length) : hasI (xs.take (k + 1)) n = (hasI (xs.take k) n || (xs.getD k 0 == n)) := by
  unfold hasI
  rw [List.take_succ_eq_append_getElem h, List.contains_eq_any_beq, List.contains_eq_any_beq, List.any_append]
  have e : xs.getD k 0 = xs[k] := by simp [List.getD, h]
  rw [e]
  simp [Bool.beq_comm (a := n)]

end Go.Proofs.Ytfianpjoifcphaa
