/-
  The laws' hasInt.
-/
import Derived.Test.YtnkflcibbhoedaaBase
namespace Go.Proofs.Ytnkflcibbhoedaa
open Go.RowKit
set_option linter.unusedVariables false
set_option maxRecDepth 100000

set_option maxHeartbeats 800000 in
theorem hasInt_any (A : Option Addr) (n c B : Nat) (v : Int) (xs : List Int) (w : World) (hr : Ints w B A n xs) (hn : n ≤ maxLen) :
    Calls Try.prog 26 #[.slice A n c, .int .i64 v] w fun e w' => e = .returned (.bool (decide (v ∈ xs))) ∧ w = w' := by
  unfold maxLen at hn
  have HL := hide hr.1
  go_enter Try.func26, Try.ntmps26
  go_wp2
  go_loop [5] (fun i => ∃ (k : Nat), k ≤ n ∧ i = .int .i64 k ∧ Hid (v ∉ xs.take k)) (fun i => n - (intOf i).toNat)
  case atStart => exact ⟨0, Nat.zero_le _, rfl, by intro h; simp at h⟩
  case round =>
    obtain ⟨k, hk, rfl, HN⟩ := hrel
    by_cases hlt : k < n
    · have hl : k < xs.length := by rw [HL.out]; exact hlt
      obtain ⟨ad, rfl, hb, hc⟩ := hr.at_ hlt
      have HT := hide (List.take_succ_eq_append_getElem hl)
      have HX := hide (show xs.getD k 0 = xs[k] by simp [List.getD, hl])
      have HM := hide (show xs.getD k 0 ∈ xs by rw [HX.out]; exact List.getElem_mem hl)
      clear hr
      generalize hg : xs.getD k 0 = x at hc HX HM
      clear hg
      by_cases he : v = x
      · subst he
        go_wp2
        go_ret
        exact ⟨ret_bool (by have := HM.out; simp [this]), rfl⟩
      · have he' : (x == v) = false := by simpa using fun e => he e.symm
        have HE := hide he
        clear he
        go_wp2
        go_round
        case rel =>
          refine ⟨k + 1, by omega, by go_num, ?_⟩
          show v ∉ xs.take (k + 1)
          rw [HT.out, List.mem_append, List.mem_singleton, ← HX.out]
          rintro (h | h)
          · exact HN.out h
          · exact HE.out h
        case measure => simp [intOf]; omega
    · have HN2 := hide HN.out
      rw [List.take_of_length_le (by rw [HL.out]; omega)] at HN2
      go_wp2
      go_ret
      exact ⟨ret_bool (by have := HN2.out; simp [this]), rfl⟩
end Go.Proofs.Ytnkflcibbhoedaa
