/-
  The model's l2Pairs, l2PairsPut, PairsPut, PairsGet.
-/
import Derived.Test.YtiopbgenkalfaaaSameP
import Derived.Deep.RegionLaw
namespace Go.Proofs.Ytiopbgenkalfaaa
open Go.RowKit
set_option linter.unusedVariables false
set_option maxRecDepth 100000

set_option maxHeartbeats 1600000 in
theorem l2P_any (A : Option Addr) (n c B : Nat) (xs : List Int) (w : World) (hr : Ints w B A (n * 2) xs) (hB : B ≤ w.heap.size) (hn : n ≤ 1000000000) :
    Calls Try.prog 62 #[.slice A n c] w fun e w' => e = .returned (.bool (validP xs n)) ∧ Below w.heap.size w w' := by
  have HR := hide hr
  clear hr
  go_enter Try.func62, Try.ntmps62
  go_wp2
  go_loop [3, 4] (fun l i => ∃ (k : Nat) (p : Int), k ≤ n ∧ i = .int .i64 k ∧ l = .int .i64 p ∧ -1 ≤ p ∧ p ≤ 11 ∧ Hid (p = prevR 2 xs k) ∧ Hid (vals fldP xs k = true) ∧ Hid (asc 2 xs k = true)) (fun _ i => n - (intOf i).toNat)
  case atStart => exact ⟨0, -1, Nat.zero_le _, rfl, rfl, by omega, by omega, rfl, rfl, rfl⟩
  case round =>
    obtain ⟨k, p, hk, rfl, rfl, hp0, hp1, HP, HV, HA⟩ := hrel
    by_cases hlt : k < n
    · obtain ⟨ad, q, rfl, hq, hb, hc0, hc1⟩ := ints_at2 HR.out hlt
      have HS := hide (stepR_in 2 xs k)
      have HF := hide (fldP_in xs k)
      have HN : Hid (xs.getD (k * 2) 0 = prevR 2 xs (k + 1)) := rfl
      rw [← HP.out] at HS
      obtain ⟨x, hx⟩ : ∃ x, xs.getD (k * 2) 0 = x := ⟨_, rfl⟩
      obtain ⟨y, hy⟩ : ∃ x, xs.getD (k * 2 + 1) 0 = x := ⟨_, rfl⟩
      rw [hx] at hc0 HS HN
      rw [hy] at hc1 HF
      clear hx hy
      by_cases h1 : inB x (p + 1) 11 = true
      · have H1 := hide h1
        have hx := inB_iff.1 h1
        clear h1
        by_cases h2 : inB y 0 99 = true
        · have H2 := hide h2
          clear h2
          go_wp2_with fail
          refine (in_yes _ _ _ _ H1.out).mono ?_
          rintro e w' ⟨rfl, rfl⟩
          go_wp2_with fail
          refine (in_yes _ _ _ _ H2.out).mono ?_
          rintro e w' ⟨rfl, rfl⟩
          go_wp2
          go_round
          case rel => exact ⟨k + 1, x, by omega, by go_num, rfl, by omega, by omega, HN.out, vals_succ HV.out (HF.out.trans H2.out), asc_succ HA.out (HS.out.trans H1.out)⟩
          case measure => simp [intOf]; omega
        · have H2 := hide (Bool.eq_false_iff.2 h2)
          clear h2
          go_wp2_with fail
          refine (in_yes _ _ _ _ H1.out).mono ?_
          rintro e w' ⟨rfl, rfl⟩
          go_wp2_with fail
          refine (in_no _ _ _ _ H2.out).mono ?_
          rintro e w' ⟨rfl, rfl⟩
          go_wp2
          go_ret
          exact ⟨ret_bool (validR_fld hlt (HF.out.trans H2.out)).symm, Below.refl _ _⟩
      · have H1 := hide (Bool.eq_false_iff.2 h1)
        clear h1
        go_wp2_with fail
        refine (in_no _ _ _ _ H1.out).mono ?_
        rintro e w' ⟨rfl, rfl⟩
        go_wp2
        go_ret
        exact ⟨ret_bool (validR_step hlt (HS.out.trans H1.out)).symm, Below.refl _ _⟩
    · obtain rfl : k = n := by omega
      go_wp2_with fail
      refine (in_any _ _ _ _).mono ?_
      rintro e w' ⟨rfl, rfl⟩
      go_wp2
      go_ret
      exact ⟨ret_bool (validR_eq HV.out HA.out).symm, Below.refl _ _⟩


end Go.Proofs.Ytiopbgenkalfaaa