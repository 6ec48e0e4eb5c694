/-
  The model's l13Blocks, HeatColdest.
-/
import Derived.Test.YtnkflcibbhoedaaSpecH1
namespace Go.Proofs.Ytnkflcibbhoedaa
open Go.RowKit
set_option linter.unusedVariables false
set_option maxRecDepth 100000

theorem stepR_inB (ls : List Int) (k : Nat) : stepR 1 ls k = inB (ls.getD k 0) (prevR 1 ls k + 1) 11 := by
  unfold stepR
  rw [Nat.mul_one, Bool.eq_iff_iff, inB_iff, Bool.and_eq_true, decide_eq_true_eq, decide_eq_true_eq]
  omega
theorem asc_succ1 (ls : List Int) (k : Nat) : asc 1 ls (k + 1) = (asc 1 ls k && stepR 1 ls k) := by unfold asc; rw [all_succ]
theorem asc_prev {ls : List Int} {k : Nat} (h : asc 1 ls k = true) : -1 ≤ prevR 1 ls k ∧ prevR 1 ls k ≤ 11 := by
  refine ⟨prevR_ge fun j hj => all_at h hj, ?_⟩
  cases k with
  | zero => show (-1 : Int) ≤ 11; omega
  | succ k =>
    have := all_at h (Nat.lt_succ_self k)
    unfold stepR at this
    rw [Bool.and_eq_true, decide_eq_true_eq, decide_eq_true_eq] at this
    exact this.2
theorem prevR_succ1 (ls : List Int) (k : Nat) : prevR 1 ls (k + 1) = ls.getD k 0 := by show ls.getD (k * 1) 0 = _; rw [Nat.mul_one]

set_option maxHeartbeats 1600000 in
theorem specBl (A : Option Addr) (n c B : Nat) (ls : List Int) (w : World) (hr : Ints w B A n ls) (hn : n ≤ 1000000000000) :
    Calls Try.prog 43 #[.slice A n c] w fun e w' => e = .returned (.bool (ascB ls)) ∧ w = w' := by
  have HR := hide hr
  clear hr
  go_enter Try.func43, Try.ntmps43
  go_wp2
  go_loop [3, 4] (fun l i => ∃ (k : Nat) (p : Int), k ≤ n ∧ i = .int .i64 k ∧ l = .int .i64 p ∧ Hid (prevR 1 ls k = p ∧ asc 1 ls k = true)) (fun _ i => n - (intOf i).toNat)
  case atStart => exact ⟨0, -1, Nat.zero_le _, rfl, rfl, rfl, rfl⟩
  case round =>
    obtain ⟨k, p, hk, rfl, rfl, HA⟩ := hrel
    by_cases hlt : k < n
    · have hkl : k < ls.length := by rw [HR.out.1]; exact hlt
      have hp := asc_prev HA.out.2
      rw [HA.out.1] at hp
      have HS := hide (stepR_inB ls k)
      have HN := hide fun hx => (all_no (f := stepR 1 ls) hkl hx : asc 1 ls ls.length = false)
      have HX := hide (prevR_succ1 ls k)
      have wp : IntKind.i64.wrap (p + 1) = p + 1 := IntWalk.i64_in _ (by omega)
      obtain ⟨ad, rfl, hb, hc⟩ := HR.out.at_ hlt
      generalize ls.getD k 0 = x at hc HS HX
      rcases h1 : inB x (p + 1) 11 with _ | _
      · have H1 := hide h1
        clear h1 hkl
        go_wp2_with (go_at_call 35; refine (in_no _ _ _ _ H1.out).mono ?_; rintro e w' ⟨rfl, rfl⟩)
        go_ret
        exact ⟨ret_bool (HN.out (by rw [HS.out, HA.out.1]; exact H1.out)).symm, rfl⟩
      · have H1 := hide h1
        clear h1 hkl
        go_wp2_with (go_at_call 35; refine (in_yes _ _ _ _ H1.out).mono ?_; rintro e w' ⟨rfl, rfl⟩)
        go_round
        case rel => exact ⟨k + 1, x, by omega, by go_num, rfl, HX.out, by rw [asc_succ1, HA.out.2, HS.out, HA.out.1, H1.out]; rfl⟩
        case measure => simp [intOf]; omega
    · obtain rfl : k = n := by omega
      have HD := hide (show ascB ls = true by unfold ascB; rw [HR.out.1]; exact HA.out.2)
      go_wp2
      go_ret
      exact ⟨ret_bool HD.out.symm, rfl⟩

theorem hAt_nat (h : List Int) (k : Nat) : hAt h (k : Int) = h.getD k 0 := rfl

set_option maxHeartbeats 6400000 in
theorem specHC (A A' : Option Addr) (n c m d B B' : Nat) (h ls : List Int) (many : Int) (w : World) (hr : Ints w B A n h) (hB : B ≤ w.heap.size) (hn : n ≤ 1000000000000)
    (hl : Ints w B' A' m ls) (hB' : B' ≤ w.heap.size) (hm : m ≤ 1000000000000) :
    Calls Try.prog 25 #[.slice A n c, .slice A' m d, .int .i64 many] w (LPost w (coldS h ls many)) := by
  have HI := hide hr
  have HL := hide hl
  have HV := hide fun (W : World) (hb : Below w.heap.size w W) => specHV A n c B h W (hr.below hb hB) hn
  have HW := hide fun (W : World) (hb : Below w.heap.size w W) => specBl A' m d B' ls W (hl.below hb hB') hm
  clear hr hl
  by_cases hok : hV h = true ∧ ascB ls = true
  · obtain ⟨hv, ha⟩ := hok
    rw [coldS_yes many hv ha]
    have HVV := hide hv
    have HAA := hide ha
    have hn12 : n = 12 := HI.out.1.symm.trans (hV_len hv)
    subst hn12
    have hm12 : m ≤ 12 := by rw [← HL.out.1]; exact asc_len ha
    rw [hv] at HV
    rw [ha] at HW
    clear hv ha hm
    go_enter Try.func25, Try.ntmps25
    go_wp2
    go_loopw [7, 8] (fun o i wr => ∃ (k q co : Nat) (Ao : Option Addr), k ≤ m ∧ i = .int .i64 k ∧ o = .slice Ao q co ∧ q ≤ k ∧ Hid (Own wr w.heap.size Ao q co ((ls.take k).filter (keepH h ls many))) ∧ Hid (Below w.heap.size w wr)) (fun _ i _ => m - (intOf i).toNat)
    case atStart => exact ⟨0, 0, 0, _, by omega, rfl, rfl, Nat.le_refl _, Own.lit0 w w.heap.size (Nat.le_refl _), (Below.refl w.heap.size w).alloc (Nat.le_refl _) _⟩
    case round =>
      obtain ⟨k, q, co, Ao, hk, rfl, rfl, hqk, HO, HB⟩ := hrel
      have hsz := HB.out.size
      by_cases hlt : k < m
      · have hkl : k < ls.length := by rw [HL.out.1]; exact hlt
        have HX := hide (filter_take (p := keepH h ls many) hkl)
        have HKX := hide (show keepH h ls many (ls.getD k 0) = decide ((rankH h ls (ls.getD k 0) : Int) < many) from rfl)
        have hxr := (ascB_all HAA.out).2 _ (getD_mem hkl)
        have HRK := hide fun (j : Nat) (hj : j < ls.length) => rank_take (h := h) (x := ls.getD k 0) hj
        have HLT := hide fun (j : Nat) (hj : j < ls.length) => asc_lt HAA.out hkl hj
        have HAL := hide (show (ls.take m).countP (fun y => ltH h y (ls.getD k 0)) = rankH h ls (ls.getD k 0) by unfold rankH; rw [List.take_of_length_le (by rw [HL.out.1]; exact Nat.le_refl _)])
        have HIb := hide (HI.out.below HB.out hB)
        have HLb := hide (HL.out.below HB.out hB')
        obtain ⟨ad', rfl, hlb, hcx⟩ := HLb.out.at_ hlt
        obtain ⟨x, hxe⟩ : ∃ x, ls.getD k 0 = x := ⟨_, rfl⟩
        rw [hxe] at HX HKX hxr HRK HLT HAL hcx
        obtain ⟨X, rfl⟩ := Int.eq_ofNat_of_zero_le hxr.1
        have hX12 : X < 12 := by omega
        obtain ⟨ad, rfl, hab, hchx⟩ := HIb.out.at_ hX12
        obtain ⟨hx, hhx⟩ : ∃ v, h.getD X 0 = v := ⟨_, rfl⟩
        rw [hhx] at hchx
        have HHX := hide hhx
        clear hxe hkl hxr hhx
        have k0 : (0 : Int) ≤ (k : Int) := by omega
        have k1 : (k : Int) < (m : Int) := by omega
        have X0 : (0 : Int) ≤ (X : Int) := by omega
        have X1 : (X : Int) < 12 := by omega
        go_wp2_with (first
          | (go_at_call 22; refine (HV.out _ HB.out).mono ?_; rintro e w' ⟨rfl, rfl⟩)
          | (go_at_call 43; refine (HW.out _ HB.out).mono ?_; rintro e w' ⟨rfl, rfl⟩))
        go_loopw [9, 10] (fun nn jj wz => ∃ (j r z : Nat), j ≤ m ∧ r ≤ j ∧ jj = .int .i64 j ∧ nn = .int .i64 r ∧ wz = wr.drewN z ∧ Hid ((ls.take j).countP (fun y => ltH h y (X : Int)) = r)) (fun _ jj _ => m - (intOf jj).toNat)
        case atStart => exact ⟨0, 0, 0, Nat.zero_le _, Nat.le_refl _, rfl, rfl, rfl, rfl⟩
        case round =>
          obtain ⟨j, r, z, hj, hrj, rfl, rfl, rfl, HC⟩ := hrel
          by_cases hlt2 : j < m
          · have hjl : j < ls.length := by rw [HL.out.1]; exact hlt2
            have hyr := (ascB_all HAA.out).2 _ (getD_mem hjl)
            have HST := hide (HRK.out j hjl)
            have hjk := HLT.out j hjl
            obtain ⟨_, e1, _, hcy⟩ := (HLb.out.drewN z).at_ hlt2
            cases e1
            have hcx2 : (wr.drewN z).cell? (ad'.add k) = some (.int .i64 (X : Int)) := hcx
            have hchx2 : (wr.drewN z).cell? (ad.add X) = some (.int .i64 hx) := hchx
            obtain ⟨y, hye⟩ : ∃ y, ls.getD j 0 = y := ⟨_, rfl⟩
            rw [hye] at hyr HST hjk hcy
            obtain ⟨Y, rfl⟩ := Int.eq_ofNat_of_zero_le hyr.1
            obtain ⟨_, e1, _, hchy⟩ := (HIb.out.drewN z).at_ (show Y < 12 by omega)
            cases e1
            have HLH := hide (ltH_iff (h := h) (a := (Y : Int)) (b := (X : Int)))
            rw [hAt_nat, hAt_nat, HHX.out] at HLH
            generalize h.getD Y 0 = hy at hchy HLH
            have j0 : (0 : Int) ≤ (j : Int) := by omega
            have j1 : (j : Int) < (m : Int) := by omega
            have Y0 : (0 : Int) ≤ (Y : Int) := by omega
            have Y1 : (Y : Int) < 12 := by omega
            have HJK := hide hjk
            clear hye hjl hyr hjk hcx hchx
            generalize hwz : wr.drewN z = wz at hcx2 hchx2 hcy hchy ⊢
            by_cases h1 : hy < hx
            · have d1 : decide (hy < hx) = true := by simpa using h1
              have HLE := hide (HLH.out.2 (.inl h1))
              clear h1
              go_wp2_with fail
              go_quiet (fail)
              go_wp2
              go_roundw
              case rel => exact ⟨j + 1, r + 1, _, by omega, by omega, by go_num, by go_num, by rw [← hwz]; exact World.drewN_drewN _ _ _, by show _ = _; rw [HST.out, HC.out, HLE.out]; rfl⟩
              case measure => simp [intOf]; omega
            · have d1 : decide (hy < hx) = false := by simpa using h1
              by_cases h2 : hy = hx
              · by_cases h3 : j < k
                · have HLE := hide (HLH.out.2 (.inr ⟨h2, by have := HJK.out.2 h3; omega⟩))
                  subst h2
                  have d3 : decide ((j : Int) < (k : Int)) = true := by simpa using h3
                  clear h1
                  go_wp2_with fail
                  go_quiet (fail)
                  go_wp2
                  go_roundw
                  case rel => exact ⟨j + 1, r + 1, _, by omega, by omega, by go_num, by go_num, by rw [← hwz]; exact World.drewN_drewN _ _ _, by show _ = _; rw [HST.out, HC.out, HLE.out]; rfl⟩
                  case measure => simp [intOf]; omega
                · have HLE : Hid (ltH h (Y : Int) (X : Int) = false) := by
                    rcases hq : ltH h (Y : Int) (X : Int) with _ | _
                    · exact rfl
                    · rcases HLH.out.1 hq with h4 | h4
                      · exact absurd h4 h1
                      · exact absurd (HJK.out.1 (by omega)) h3
                  subst h2
                  have d3 : decide ((j : Int) < (k : Int)) = false := by simp; omega
                  clear h1
                  go_wp2_with fail
                  go_quiet (fail)
                  go_wp2
                  go_roundw
                  case rel => exact ⟨j + 1, r, _, by omega, by omega, by go_num, by go_num, by rw [← hwz]; exact World.drewN_drewN _ _ _, by show _ = _; rw [HST.out, HC.out, HLE.out]; rfl⟩
                  case measure => simp [intOf]; omega
              · have HLE : Hid (ltH h (Y : Int) (X : Int) = false) := by
                  rcases hq : ltH h (Y : Int) (X : Int) with _ | _
                  · exact rfl
                  · rcases HLH.out.1 hq with h4 | h4
                    · exact absurd h4 h1
                    · exact absurd h4.1 h2
                have d2 : (hy == hx) = false := by simpa using h2
                clear h1 h2
                go_wp2_with fail
                go_quiet (fail)
                go_wp2
                go_roundw
                case rel => exact ⟨j + 1, r, _, by omega, by omega, by go_num, by go_num, by rw [← hwz]; exact World.drewN_drewN _ _ _, by show _ = _; rw [HST.out, HC.out, HLE.out]; rfl⟩
                case measure => simp [intOf]; omega
          · obtain rfl : j = m := by omega
            have HRR := hide (HAL.out.symm.trans HC.out)
            rw [HRR.out] at HKX
            have HBZ := hide (below_drewN HB.out z)
            have HOZ := hide (HO.out.drewN z)
            have hcx2 : (wr.drewN z).cell? (ad'.add k) = some (.int .i64 (X : Int)) := hcx
            have hszz : w.heap.size ≤ (wr.drewN z).heap.size := hsz
            clear HC hcx hchx HAL HRR HLT HRK
            generalize hwz : wr.drewN z = wz at hcx2 HBZ HOZ hszz ⊢
            by_cases hq : (r : Int) < many
            · rw [decide_eq_true hq] at HKX
              rw [HKX.out, if_pos rfl] at HX
              go_wp2_with (at_builtin; refine wpList_append_ints rfl _ _ rfl w.heap.size q co _ 1 _ Ao _ ((ls.take k).filter (keepH h ls many)) [(X : Int)] rfl (HOZ.out.alloc _) rfl (Ints.one _ (X : Int)) (by omega) (by simp; omega) ?_; intro A2 c2 w3 ho3 hg3 hat3; clear hat3; have HO3 := hide ho3; have HB3 := hide (below_app HBZ.out hszz HOZ.out (Nat.le_refl _) hg3); clear ho3 hg3)
              go_roundw
              case rel => exact ⟨k + 1, q + 1, _, _, by omega, by go_num, rfl, by omega, by rw [HX.out]; exact HO3.out, HB3.out⟩
              case measure => simp [intOf]; omega
            · rw [decide_eq_false hq] at HKX
              rw [HKX.out, if_neg (by simp), List.append_nil] at HX
              go_wp2
              go_roundw
              case rel => exact ⟨k + 1, q, _, _, by omega, by go_num, rfl, by omega, by rw [HX.out]; exact HOZ.out, HBZ.out⟩
              case measure => simp [intOf]; omega
      · obtain rfl : k = m := by omega
        have HD := hide (show ls.take k = ls from List.take_of_length_le (by rw [HL.out.1]; exact Nat.le_refl _))
        go_wp2
        go_ret
        exact ⟨_, _, _, rfl, by have := HO.out; rwa [HD.out] at this, HB.out⟩
  · have hno : hV h = false ∨ ascB ls = false := by
      rcases h1 : hV h with _ | _
      · exact .inl rfl
      · rcases h2 : ascB ls with _ | _
        · exact .inr rfl
        · exact absurd ⟨h1, h2⟩ hok
    rw [coldS_no many hno]
    clear hok
    go_enter Try.func25, Try.ntmps25
    go_wp2
    have HB0 := hide ((Below.refl w.heap.size w).alloc (Nat.le_refl _) (.cells #[] 3))
    have HO0 := hide (Own.lit0 w w.heap.size (Nat.le_refl _))
    go_loopw [7, 8] (fun o i wr => i = .int .i64 0 ∧ o = .slice (some ⟨w.heap.size, 0, none⟩) 0 0 ∧ w.alloc (.cells #[] 3) = wr) (fun _ _ _ => 0)
    case atStart => exact ⟨rfl, rfl, rfl⟩
    case round =>
      obtain ⟨rfl, rfl, rfl⟩ := hrel
      generalize w.alloc (.cells #[] 3) = w0 at HB0 HO0 ⊢
      by_cases h0 : m = 0
      · subst h0
        go_wp2
        go_ret
        exact ⟨_, _, _, rfl, HO0.out, HB0.out⟩
      · have hp : decide ((0 : Int) < (m : Int)) = true := by simp; omega
        have hp2 : 0 < m := by omega
        have HV2 := hide (HV.out _ HB0.out)
        have HW2 := hide (HW.out _ HB0.out)
        clear HV HW
        rcases h1 : hV h with _ | _
        · rw [h1] at HV2
          clear h1 hno
          go_wp2_with (go_at_call 22; refine HV2.out.mono ?_; rintro e w' ⟨rfl, rfl⟩)
          go_ret
          exact ⟨_, _, _, rfl, HO0.out, HB0.out⟩
        · have h2 : ascB ls = false := by
            rcases hno with e | e
            · rw [h1] at e; cases e
            · exact e
          rw [h1] at HV2
          rw [h2] at HW2
          clear h1 h2 hno
          go_wp2_with (first
            | (go_at_call 22; refine HV2.out.mono ?_; rintro e w' ⟨rfl, rfl⟩)
            | (go_at_call 43; refine HW2.out.mono ?_; rintro e w' ⟨rfl, rfl⟩))
          go_ret
          exact ⟨_, _, _, rfl, HO0.out, HB0.out⟩
end Go.Proofs.Ytnkflcibbhoedaa
