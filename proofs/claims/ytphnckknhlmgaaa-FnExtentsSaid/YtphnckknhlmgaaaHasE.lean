/-
  The laws' hasInt.
-/
import Derived.Test.YtphnckknhlmgaaaSpecE4
namespace Go.Proofs.Ytphnckknhlmgaaa
open Go.RowKit
set_option linter.unusedVariables false
set_option maxRecDepth 100000

theorem hasB_iff {xs : List Int} {n : Int} : hasB xs n = true ↔ n ∈ xs := by unfold hasB; simp
theorem hasB_take2 (xs : List Int) (k : Nat) (n : Int) (h : k < xs.length) : hasB (xs.take (k + 1)) n = (hasB (xs.take k) n || (xs.getD k 0 == n)) := by
  rw [hasB_take xs k n h]
  by_cases e : n = xs.getD k 0
  · rw [if_pos e, e]; simp
  · rw [if_neg e]
    have : (xs.getD k 0 == n) = false := by simpa using fun e2 => e e2.symm
    rw [this, Bool.or_false]

set_option maxHeartbeats 800000 in
theorem hasInt_any (A : Option Addr) (n c B : Nat) (x : Int) (xs : List Int) (w : World) (hr : Ints w B A n xs) (hn : n ≤ maxLen) :
    Calls Try.prog 23 #[.slice A n c, .int .i64 x] w fun e w' => e = .returned (.bool (hasB xs x)) ∧ w = w' := by
  unfold maxLen at hn
  have HL := hide hr.1
  go_enter Try.func23, Try.ntmps23
  go_wp2
  go_loop [5] (fun i => ∃ (k : Nat), k ≤ n ∧ i = .int .i64 k ∧ Hid (hasB (xs.take k) x = false)) (fun i => n - (intOf i).toNat)
  case atStart => exact ⟨0, Nat.zero_le _, rfl, rfl⟩
  case round =>
    obtain ⟨k, hk, rfl, HS⟩ := hrel
    by_cases hlt : k < n
    · have HT := hide (hasB_take2 xs k x (by rw [HL.out]; exact hlt))
      have HM := hide (show xs.getD k 0 ∈ xs by
        have hl : k < xs.length := by rw [HL.out]; exact hlt
        have e : xs.getD k 0 = xs[k] := by simp [List.getD, hl]
        rw [e]; exact List.getElem_mem hl)
      obtain ⟨ad, rfl, hb, hc⟩ := hr.at_ hlt
      clear hr
      generalize xs.getD k 0 = y at hc HT HM
      by_cases hy : y = x
      · subst hy
        go_wp2
        go_ret
        exact ⟨ret_bool (hasB_iff.2 HM.out).symm, rfl⟩
      · have hy' : (y == x) = false := by simpa using hy
        have HN := hide hy'
        clear hy
        go_wp2
        go_round
        case rel => exact ⟨k + 1, by omega, by go_num, by show _ = _; rw [HT.out, HS.out, HN.out]; rfl⟩
        case measure => simp [intOf]; omega
    · obtain rfl : k = n := by omega
      have HD := hide (show hasB xs x = false by have := HS.out; rwa [List.take_of_length_le (by rw [HL.out]; exact Nat.le_refl _)] at this)
      go_wp2
      go_ret
      exact ⟨ret_bool HD.out.symm, rfl⟩
end Go.Proofs.Ytphnckknhlmgaaa
