/-
  Plain facts: blocks that ascend, one by one, and as a list from the front.
-/
import Derived.Test.YtapfbkjgmfmepaaAscM
import Derived.Test.YtapfbkjgmfmepaaExtM
namespace Go.Proofs.Ytapfbkjgmfmepaa
open Go.RowKit
set_option linter.unusedVariables false
set_option maxRecDepth 100000

theorem prevR_geE {bs : List Int} : ∀ k, asc 1 bs k = true → -1 ≤ prevR 1 bs k
  | 0, _ => Int.le_refl _
  | k + 1, h => by
    have hs : stepR 1 bs k = true := all_at h (Nat.lt_succ_self k)
    have h0 := prevR_geE k (all_of fun j hj => all_at h (Nat.lt_succ_of_lt hj))
    unfold stepR at hs
    rw [Bool.and_eq_true, decide_eq_true_eq, decide_eq_true_eq] at hs
    show -1 ≤ bs.getD (k * 1) 0
    omega
theorem asc_part (bs : List Int) : ∀ d k, d + k = bs.length → asc 1 bs bs.length = (asc 1 bs k && aB (prevR 1 bs k) (bs.drop k))
  | 0, k, h => by
    obtain rfl : k = bs.length := by omega
    rw [List.drop_of_length_le (Nat.le_refl _)]
    simp [aB]
  | d + 1, k, h => by
    have hk : k < bs.length := by omega
    rw [asc_part bs d (k + 1) (by omega), aB_step hk]
    have e1 : asc 1 bs (k + 1) = (asc 1 bs k && stepR 1 bs k) := by unfold asc; rw [all_succ]
    have e2 : prevR 1 bs (k + 1) = bs.getD k 0 := by show bs.getD (k * 1) 0 = _; rw [Nat.mul_one]
    rw [e1, e2]
    rcases ha : asc 1 bs k with _ | _
    · rfl
    · have h0 := prevR_geE k ha
      rw [Bool.true_and, Bool.true_and]
      congr 1
      unfold stepR
      rw [Nat.mul_one, Bool.eq_iff_iff, Bool.and_eq_true, Bool.and_eq_true, inB_iff, decide_eq_true_eq, decide_eq_true_eq]
      omega
theorem asc_okB (bs : List Int) : asc 1 bs bs.length = okB bs := by
  rw [asc_part bs bs.length 0 rfl]
  show (true && aB (-1) bs) = aB (-1) bs
  rw [Bool.true_and]
end Go.Proofs.Ytapfbkjgmfmepaa
