/-
  laws.sameMap of two equal maps; laws.hasInt.
-/
import Derived.Test.YtgkjbickphdeoaaMapI
import Derived.Test.YtgkjbickphdeoaaInts
import Derived.Test.YtgkjbickphdeoaaQo
namespace Go.Proofs.Ytgkjbickphdeoaa
open Go.RowKit
set_option linter.unusedVariables false
set_option maxRecDepth 100000

set_option maxHeartbeats 1600000 in
theorem sameMap_yes (A A' : Option Addr) (n c d B B' : Nat) (ms : List Wh) (w : World) (hx : MpI w B A n ms) (hy : MpI w B' A' n ms) (hn : n ≤ 1000000000) :
    Calls Try.prog 16 #[.slice A n c, .slice A' n d] w fun e w' => e = .returned (.bool true) ∧ ∃ q, w' = w.drewN q := by
  have HX := hide hx
  have HY := hide hy
  clear hx hy
  go_enter Try.func16, Try.ntmps16
  go_wp2
  go_loopw [5] (fun i wr => ∃ k q : Nat, k ≤ n ∧ i = .int .i64 k ∧ wr = w.drewN q) (fun i _ => n - (intOf i).toNat)
  case atStart => exact ⟨0, 0, Nat.zero_le _, rfl, rfl⟩
  case round =>
    obtain ⟨k, q, hk, rfl, rfl⟩ := hrel
    by_cases hlt : k < n
    · obtain ⟨x, hx⟩ : ∃ x, ms[k]? = some x := ⟨_, List.getElem?_eq_getElem (by rw [HX.out.1]; exact hlt)⟩
      obtain ⟨ad, p, rfl, hp, hb, h0, h1, h2, h3, h4⟩ := (HX.out.drewN q).at_ hx
      obtain ⟨ad', p', rfl, hp', hb', g0, g1, g2, g3, g4⟩ := (HY.out.drewN q).at_ hx
      obtain ⟨t, z, a, i, y⟩ := x
      dsimp only at h0 h1 h2 h3 h4 g0 g1 g2 g3 g4
      have k0 : (0 : Int) ≤ (k : Int) := by omega
      have k1 : (k : Int) < (n : Int) := by omega
      clear hx
      generalize hw : w.drewN q = wz at h0 h1 h2 h3 h4 g0 g1 g2 g3 g4 ⊢
      go_wp2_with fail
      go_quiet (fail)
      go_wp2
      go_roundw
      case rel => exact ⟨k + 1, _, by omega, by go_num, by rw [← hw]; exact World.drewN_drewN _ _ _⟩
      case measure => simp [intOf]; omega
    · obtain rfl : k = n := by omega
      go_wp2
      go_ret
      exact ⟨rfl, q, rfl⟩
set_option maxHeartbeats 800000 in
theorem hasInt_any (A : Option Addr) (n c B : Nat) (v : Int) (xs : List Int) (w : World) (hr : Ints w B A n xs) (hn : n ≤ maxLen) :
    Calls Try.prog 21 #[.slice A n c, .int .i64 v] w fun e w' => e = .returned (.bool (decide (v ∈ xs))) ∧ w = w' := by
  unfold maxLen at hn
  have HL := hide hr.1
  go_enter Try.func21, Try.ntmps21
  go_wp2
  go_loop [5] (fun i => ∃ (k : Nat), k ≤ n ∧ i = .int .i64 k ∧ Hid (v ∉ xs.take k)) (fun i => n - (intOf i).toNat)
  case atStart => exact ⟨0, Nat.zero_le _, rfl, by intro h; simp at h⟩
  case round =>
    obtain ⟨k, hk, rfl, HN⟩ := hrel
    by_cases hlt : k < n
    · have hl : k < xs.length := by rw [HL.out]; exact hlt
      obtain ⟨ad, rfl, hb, hc⟩ := hr.at_ hlt
      have HT := hide (List.take_succ_eq_append_getElem hl)
      have HX := hide (show xs.getD k 0 = xs[k] by simp [List.getD, hl])
      have HM := hide (show xs.getD k 0 ∈ xs by rw [HX.out]; exact List.getElem_mem hl)
      clear hr
      generalize hg : xs.getD k 0 = x at hc HX HM
      clear hg
      by_cases he : v = x
      · subst he
        go_wp2
        go_ret
        exact ⟨ret_bool (by have := HM.out; simp [this]), rfl⟩
      · have he' : (x == v) = false := by simpa using fun e => he e.symm
        have HE := hide he
        clear he
        go_wp2
        go_round
        case rel =>
          refine ⟨k + 1, by omega, by go_num, ?_⟩
          show v ∉ xs.take (k + 1)
          rw [HT.out, List.mem_append, List.mem_singleton, ← HX.out]
          rintro (h | h)
          · exact HN.out h
          · exact HE.out h
        case measure => simp [intOf]; omega
    · have HN2 := hide HN.out
      rw [List.take_of_length_le (by rw [HL.out]; omega)] at HN2
      go_wp2
      go_ret
      exact ⟨ret_bool (by have := HN2.out; simp [this]), rfl⟩
end Go.Proofs.Ytgkjbickphdeoaa
