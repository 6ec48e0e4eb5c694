/-
  What the exact laws of maps know: an argument that reads as a map; bounds on the answers.
-/
import Derived.Test.YtdhknodhmnnenaaExHM
import Derived.Test.YtdhknodhmnnenaaExW
import Derived.Test.YtdhknodhmnnenaaImpM6
import Derived.Test.YtdhknodhmnnenaaSpecM4
namespace Go.Proofs.Ytdhknodhmnnenaa
open Go.RowKit
set_option linter.unusedVariables false
set_option maxRecDepth 100000

theorem mpI_of {w : World} {B n : Nat} {A : Option Addr} {xs : List Int} (h : Ints w B A (n * 5) xs) : MpI w B A n (unfl5 xs) := by
  obtain ⟨h1, h2⟩ := fl5_unfl n xs h.1
  exact ⟨h2, by rw [h1]; exact h⟩
theorem upP_leX (p : Int → Bool) : ∀ k : Nat, (upP p k).length ≤ k
  | 0 => Nat.le_refl _
  | k + 1 => by
    have := upP_leX p k
    rw [upP_succ]
    split
    · simp; omega
    · omega
theorem idsM_leX (ms : List Wh) : (idsM ms).length ≤ 1000 := by
  unfold idsM
  split
  · have := upP_leX (hasId ms) 999; omega
  · exact Nat.zero_le _
end Go.Proofs.Ytdhknodhmnnenaa
