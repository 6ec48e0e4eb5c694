/-
  The model's StorePut.
-/
import Derived.Test.YtfianpjoifcphaaSpecO2
namespace Go.Proofs.Ytfianpjoifcphaa
open Go.RowKit
set_option linter.unusedVariables false
set_option maxRecDepth 100000

/-- a store and a number -/
def StoPostI (w : World) (v : Int) (t : Sto) (e : Ending) (w' : World) : Prop :=
  ∃ A2 m c2 qs2, e = .returned (.tuple #[.slice A2 m c2, .int .i64 v]) ∧ OwnO w' w.heap.size A2 m c2 qs2 ∧ obs qs2 = t ∧ Below w.heap.size w w'
/-- a store and whether it could be done -/
def StoPost (w : World) (v : Bool) (t : Sto) (e : Ending) (w' : World) : Prop :=
  ∃ A2 m c2 qs2, e = .returned (.tuple #[.slice A2 m c2, .bool v]) ∧ OwnO w' w.heap.size A2 m c2 qs2 ∧ obs qs2 = t ∧ Below w.heap.size w w'

theorem stV_len {qs : List Oq} (h : stV (obs qs) = true) : qs.length ≤ 6 ∧ ∀ q ∈ qs, q.vals.length ≤ 6 := by
  obtain ⟨h1, _, h3⟩ := stV_iff.1 h
  refine ⟨by rwa [obs_length] at h3, fun q hq => ?_⟩
  have := (obOk_iff.1 (h1 q.ob (List.mem_map_of_mem hq))).2.2
  exact (valsOk_len this).2

end Go.Proofs.Ytfianpjoifcphaa
