/-
  The model's l4Values, StoreValid, l4Find, l4Has: they only read.
-/
import Derived.Test.YtfianpjoifcphaaGreatG1
import Derived.Deep.QuietTactic
import Derived.BigQuiet
namespace Go.Proofs.YtfianpjoifcphaaGreat
open Go.RowKit
set_option linter.unusedVariables false
set_option maxRecDepth 100000

theorem valOk_drop (xs : List Int) (k : Nat) (h : k < xs.length) : (xs.drop k).all valOk = (inB (xs.getD k 0) 1 99 && (xs.drop (k + 1)).all valOk) := by
  rw [List.drop_eq_getElem_cons h, List.all_cons]
  simp [List.getD, h, valOk]

theorem quiet_on' {P : Program} {f : FuncId} {args : Array Value} {W : World} {i j : Nat} {r : Value} (c : Calls P f args (W.drewN (i + j)) fun e U => e = .returned r ∧ U = W.drewN (i + j)) :
    Calls P f args (W.drewN (i + j)) fun e U => e = .returned r ∧ ∃ z, U = W.drewN (i + z) := c.mono fun _ _ ⟨he, hz⟩ => ⟨he, j, hz⟩

set_option maxHeartbeats 400000 in
theorem specVals (A : Option Addr) (n c B : Nat) (xs : List Int) (w : World) (hr : Ints w B A n xs) (hn : n ≤ maxLen) :
    Calls Tryz.prog 171 #[.slice A n c] w fun e w' => e = .returned (.bool (valsOk xs)) ∧ w = w' := by
  unfold maxLen at hn
  have HL := hide hr.1
  go_enter Tryz.func171, Tryz.ntmps171
  go_wp2
  go_loop [3] (fun i => ∃ (k : Nat), k ≤ n ∧ i = .int .i64 k ∧ Hid (xs.all valOk = (xs.drop k).all valOk)) (fun i => n - (intOf i).toNat)
  case atStart => exact ⟨0, Nat.zero_le _, rfl, rfl⟩
  case round =>
    obtain ⟨k, hk, rfl, HS⟩ := hrel
    by_cases hlt : k < n
    · have hl := HL.out
      have hd := valOk_drop xs k (by omega)
      obtain ⟨ad, rfl, hb, hc⟩ := hr.at_ hlt
      have HX : Hid (_ = _) := HS.out.trans hd
      clear hd hl hr HS
      generalize xs.getD k 0 = x at hc HX
      by_cases h1 : inB x 1 99 = true
      · have H1 := hide h1
        clear h1
        go_wp2_with (go_at_call 60; refine (in_yes _ _ _ _ H1.out).mono ?_; rintro e w' ⟨rfl, rfl⟩)
        go_round
        case rel => exact ⟨k + 1, by omega, by go_num, by rw [HX.out, H1.out]; rfl⟩
        case measure => simp [intOf]; omega
      · have H1 := hide (Bool.eq_false_iff.2 h1)
        clear h1
        go_wp2_with (go_at_call 60; refine (in_no _ _ _ _ H1.out).mono ?_; rintro e w' ⟨rfl, rfl⟩)
        go_ret
        exact ⟨ret_bool (by unfold valsOk; rw [HX.out, H1.out]; rfl), rfl⟩
    · obtain rfl : k = n := by omega
      have HE := hide (show xs.all valOk = true by rw [HS.out, List.drop_of_length_le (by have := HL.out; omega)]; rfl)
      go_wp2_with (go_at_call 60; refine (in_any _ _ _ _).mono ?_; rintro e w' ⟨rfl, rfl⟩)
      go_ret
      exact ⟨ret_bool (by unfold valsOk; rw [HE.out, HL.out]; rfl), rfl⟩

theorem ascF_step {s : Sto} {k : Nat} {o : Int × List Int} (h : s[k]? = some o) (last : Int) : ascF_StoM last (s.drop k) = (inB o.1 (last + 1) 999 && valsOk o.2 && ascF_StoM o.1 (s.drop (k + 1))) := by
  have hl : k < s.length := (List.getElem?_eq_some_iff.1 h).1
  have e : s[k] = o := (List.getElem?_eq_some_iff.1 h).2
  rw [List.drop_eq_getElem_cons hl, e]
  rfl

set_option maxHeartbeats 1600000 in
theorem specSV (A : Option Addr) (n c B : Nat) (qs : List Oq) (w : World) (hr : Objs w B A n qs) (hn : n ≤ 1000000000000) :
    Calls Tryz.prog 119 #[.slice A n c] w fun e w' => e = .returned (.bool (stV (obs qs))) ∧ w = w' := by
  have HR := hide hr
  clear hr
  go_enter Tryz.func119, Tryz.ntmps119
  go_wp2
  go_loop [3, 4] (fun l i => ∃ (k : Nat) (last : Int), k ≤ n ∧ i = .int .i64 k ∧ l = .int .i64 last ∧ 0 ≤ last ∧ last ≤ 999 ∧ Hid (ascF_StoM 0 (obs qs) = ascF_StoM last ((obs qs).drop k))) (fun _ i => n - (intOf i).toNat)
  case atStart => exact ⟨0, 0, Nat.zero_le _, rfl, rfl, by omega, by omega, rfl⟩
  case round =>
    obtain ⟨k, last, hk, rfl, rfl, hl0, hl1, HA⟩ := hrel
    by_cases hlt : k < n
    · obtain ⟨q, hq⟩ : ∃ q, qs[k]? = some q := ⟨_, List.getElem?_eq_getElem (by rw [HR.out.1]; exact hlt)⟩
      have HX := hide (HA.out.trans (ascF_step (obs_get hq) last))
      obtain ⟨ad, p, rfl, hp, hb, hc0, hc1⟩ := HR.out.at_ hq
      obtain ⟨hi, hle, hcm, hnc⟩ := HR.out.words hq
      clear HA hq hnc
      obtain ⟨id, vs, qa, qc⟩ := q
      simp only [Oq.sl, Oq.ob] at hc0 hc1 hi hle hcm HX
      obtain ⟨m, hm⟩ : ∃ m, vs.length = m := ⟨_, rfl⟩
      rw [hm] at hc1 hi hle
      have HV := hide fun W (h : Ints W B qa m vs) => specVals qa m qc B vs W h (by omega)
      have HI := hide hi
      have k0 : (0 : Int) ≤ (k : Int) := by omega
      have k1 : (k : Int) < (n : Int) := by omega
      clear hm hi hle hcm
      rcases h1 : inB id (last + 1) 999 with _ | _
      · have H1 := hide h1
        clear h1
        go_wp2_with (go_at_call 60; refine (in_no _ _ _ _ H1.out).mono ?_; rintro e w' ⟨rfl, rfl⟩)
        go_ret
        exact ⟨ret_bool (by unfold stV; rw [HX.out, H1.out]; rfl), rfl⟩
      · obtain ⟨i0, i1⟩ := inB_iff.1 h1
        have H1 := hide h1
        clear h1
        rcases h2 : valsOk vs with _ | _
        · have H2 := hide h2
          clear h2
          go_wp2_with (first
            | (go_at_call 60; refine (in_yes _ _ _ _ H1.out).mono ?_; rintro e w' ⟨rfl, rfl⟩)
            | (go_at_call 171; refine (H2.out ▸ HV.out _ HI.out : Calls _ _ _ _ fun e w' => e = .returned (.bool false) ∧ w = w').mono ?_; rintro e w' ⟨rfl, rfl⟩))
          go_ret
          exact ⟨ret_bool (by unfold stV; rw [HX.out, H1.out, H2.out]; rfl), rfl⟩
        · have H2 := hide h2
          clear h2
          go_wp2_with (first
            | (go_at_call 60; refine (in_yes _ _ _ _ H1.out).mono ?_; rintro e w' ⟨rfl, rfl⟩)
            | (go_at_call 171; refine (H2.out ▸ HV.out _ HI.out : Calls _ _ _ _ fun e w' => e = .returned (.bool true) ∧ w = w').mono ?_; rintro e w' ⟨rfl, rfl⟩))
          go_round
          case rel => exact ⟨k + 1, id, by omega, by go_num, rfl, by omega, by omega, by show _ = _; rw [HX.out, H1.out, H2.out]; rfl⟩
          case measure => simp [intOf]; omega
    · obtain rfl : k = n := by omega
      have hd : ascF_StoM 0 (obs qs) = true := by rw [HA.out, List.drop_of_length_le (by rw [obs_length, HR.out.1]; exact Nat.le_refl _)]; rfl
      have HD := hide (And.intro hd (show (obs qs).length = k by rw [obs_length]; exact HR.out.1))
      clear hd
      go_wp2
      go_ret
      refine ⟨ret_bool ?_, rfl⟩
      unfold stV
      rw [HD.out.1, HD.out.2, Bool.true_and]
      exact Bool.eq_iff_iff.2 (by simp; omega)

set_option maxHeartbeats 800000 in
theorem specFind (A : Option Addr) (n c B : Nat) (id : Int) (qs : List Oq) (w : World) (hr : Objs w B A n qs) (hn : n ≤ 1000000000000) :
    Calls Tryz.prog 217 #[.slice A n c, .int .i64 id] w fun e w' => e = .returned (.int .i64 (findF 0 (obs qs) id)) ∧ w = w' := by
  have HR := hide hr
  clear hr
  go_enter Tryz.func217, Tryz.ntmps217
  go_wp2
  go_loop [5] (fun i => ∃ (k : Nat), k ≤ n ∧ i = .int .i64 k ∧ Hid (findF 0 (obs qs) id = findF k ((obs qs).drop k) id)) (fun i => n - (intOf i).toNat)
  case atStart => exact ⟨0, Nat.zero_le _, rfl, rfl⟩
  case round =>
    obtain ⟨k, hk, rfl, HA⟩ := hrel
    by_cases hlt : k < n
    · obtain ⟨q, hq⟩ : ∃ q, qs[k]? = some q := ⟨_, List.getElem?_eq_getElem (by rw [HR.out.1]; exact hlt)⟩
      have HX1 := hide fun (h : q.id = id) => (HA.out.trans (findF_step (obs_get hq) id)).trans (if_pos h)
      have HX2 := hide fun (h : ¬ q.id = id) => (HA.out.trans (findF_step (obs_get hq) id)).trans (if_neg h)
      obtain ⟨ad, p, rfl, hp, hb, hc0, hc1⟩ := HR.out.at_ hq
      clear HA hq hc1
      obtain ⟨x, vs, qa, qc⟩ := q
      simp only at hc0 HX1 HX2
      have k0 : (0 : Int) ≤ (k : Int) := by omega
      have k1 : (k : Int) < (n : Int) := by omega
      by_cases hx : x = id
      · have HY := hide (HX1.out hx)
        subst hx
        clear HX1 HX2
        go_wp2
        go_ret
        exact ⟨ret_int HY.out.symm, rfl⟩
      · have hx' : (x == id) = false := by simpa using hx
        have HY := hide (HX2.out hx)
        clear hx HX1 HX2
        go_wp2
        go_round
        case rel => exact ⟨k + 1, by omega, by go_num, HY.out⟩
        case measure => simp [intOf]; omega
    · obtain rfl : k = n := by omega
      have HD := hide (show findF 0 (obs qs) id = -1 by rw [HA.out, List.drop_of_length_le (by rw [obs_length, HR.out.1]; exact Nat.le_refl _)]; rfl)
      go_wp2
      go_ret
      exact ⟨ret_int HD.out.symm, rfl⟩

theorem hasI_take (xs : List Int) (k : Nat) (n : Int) (h : k < xs.length) : hasI (xs.take (k + 1)) n = (hasI (xs.take k) n || (xs.getD k 0 == n)) := by
  unfold hasI
  rw [List.take_succ_eq_append_getElem h, List.contains_eq_any_beq, List.contains_eq_any_beq, List.any_append]
  have e : xs.getD k 0 = xs[k] := by simp [List.getD, h]
  rw [e]
  simp [Bool.beq_comm (a := n)]

set_option maxHeartbeats 800000 in
theorem l4Has_any (A : Option Addr) (n c B : Nat) (x : Int) (xs : List Int) (w : World) (hr : Ints w B A n xs) (hn : n ≤ maxLen) :
    Calls Tryz.prog 253 #[.slice A n c, .int .i64 x] w fun e w' => e = .returned (.bool (hasI xs x)) ∧ w = w' := by
  unfold maxLen at hn
  have HL := hide hr.1
  go_enter Tryz.func253, Tryz.ntmps253
  go_wp2
  go_loop [5] (fun i => ∃ (k : Nat), k ≤ n ∧ i = .int .i64 k ∧ Hid (hasI (xs.take k) x = false)) (fun i => n - (intOf i).toNat)
  case atStart => exact ⟨0, Nat.zero_le _, rfl, rfl⟩
  case round =>
    obtain ⟨k, hk, rfl, HS⟩ := hrel
    by_cases hlt : k < n
    · have HT := hide (hasI_take xs k x (by rw [HL.out]; exact hlt))
      have HM := hide (show xs.getD k 0 ∈ xs by
        have hl : k < xs.length := by rw [HL.out]; exact hlt
        have e : xs.getD k 0 = xs[k] := by simp [List.getD, hl]
        rw [e]; exact List.getElem_mem hl)
      obtain ⟨ad, rfl, hb, hc⟩ := hr.at_ hlt
      clear hr
      generalize xs.getD k 0 = y at hc HT HM
      by_cases hy : y = x
      · subst hy
        go_wp2
        go_ret
        exact ⟨ret_bool (hasI_iff.2 HM.out).symm, rfl⟩
      · have hy' : (y == x) = false := by simpa using hy
        have HN := hide hy'
        clear hy
        go_wp2
        go_round
        case rel => exact ⟨k + 1, by omega, by go_num, by show _ = _; rw [HT.out, HS.out, HN.out]; rfl⟩
        case measure => simp [intOf]; omega
    · obtain rfl : k = n := by omega
      have HD := hide (show hasI xs x = false by have := HS.out; rwa [List.take_of_length_le (by rw [HL.out]; exact Nat.le_refl _)] at this)
      go_wp2
      go_ret
      exact ⟨ret_bool HD.out.symm, rfl⟩
end Go.Proofs.YtfianpjoifcphaaGreat
