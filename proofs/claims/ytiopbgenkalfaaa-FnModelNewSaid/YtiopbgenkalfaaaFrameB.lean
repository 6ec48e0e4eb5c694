/-
  What a row's reading of bytes gives to my walks.
-/
import Derived.Test.YtiopbgenkalfaaaFrame0
import Derived.Test.YtiopbgenkalfaaaRd
namespace Go.Proofs.Ytiopbgenkalfaaa
open Go.RowKit
set_option linter.unusedVariables false
set_option maxRecDepth 100000

theorem bytes_of {W : World} {x : Addr} {l c : Nat} {zs : List Int} (hl : l ≤ c) (hz : zs.length = c) (hcell : ∀ i, i < zs.length → W.cell? (x.add i) = some (.int .u8 (zs.getD i 0)))
    (hwz : ∀ n ∈ zs, (Lit.int .u8 n).wf = true) : Bytes W W.heap.size (some x) l (fun j => zs.getD j 0) := by
  intro hn
  refine ⟨x, rfl, ?_, fun j hj => ?_⟩
  · have := World.block_lt_of_cell? W _ (hcell 0 (by omega))
    rwa [block_of_add] at this
  · have hj' : j < zs.length := by omega
    have hw : (Lit.int .u8 (zs.getD j 0)).wf = true := hwz _ (by simp [List.getD, hj'])
    exact ⟨(wf_u8 hw).1, (wf_u8 hw).2, hcell j hj'⟩

end Go.Proofs.Ytiopbgenkalfaaa
