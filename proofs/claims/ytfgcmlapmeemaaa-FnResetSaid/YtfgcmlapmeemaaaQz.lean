/-
  Small words for the laws on devices.
-/
import Derived.Test.YtfgcmlapmeemaaaSpecZ4
namespace Go.Proofs.Ytfgcmlapmeemaaa
open Go.RowKit
set_option linter.unusedVariables false
set_option maxRecDepth 100000

theorem quiet_on2 {P : Program} {f : FuncId} {args : Array Value} {W : World} {i j : Nat} {r : Value} (c : Calls P f args (W.drewN (i + j)) fun e U => e = .returned r ∧ ∃ q, U = (W.drewN (i + j)).drewN q) :
    Calls P f args (W.drewN (i + j)) fun e U => e = .returned r ∧ ∃ z, U = W.drewN (i + z) := c.mono fun _ _ ⟨he, q, hz⟩ => ⟨he, j + q, by rw [hz, World.drewN_drewN, Nat.add_assoc]⟩

theorem quiet_on3 {P : Program} {f : FuncId} {args : Array Value} {W : World} {j : Nat} {r : Value} (c : Calls P f args (W.drewN j) fun e U => e = .returned r ∧ ∃ q, U = (W.drewN j).drewN q) :
    Calls P f args (W.drewN j) fun e U => e = .returned r ∧ ∃ z, U = W.drewN z := c.mono fun _ _ ⟨he, q, hz⟩ => ⟨he, j + q, by rw [hz, World.drewN_drewN]⟩

theorem devV_set {ds : Dev} {k : Nat} {z : List Int × Int × Bool} (h : devV ds = true) (hz : zoneOk z = true) : devV (ds.set k z) = true := by
  rw [devV_iff] at h ⊢
  refine ⟨fun r hr => ?_, by rw [List.length_set]; exact h.2⟩
  rcases List.mem_or_eq_of_mem_set hr with hr | rfl
  · exact h.1 r hr
  · exact hz

end Go.Proofs.Ytfgcmlapmeemaaa
