/-
  The walk of FnCut.
-/
import Derived.Test.YtgodgkihcbpmfaaSameZ
import Derived.Test.YtgodgkihcbpmfaaDrawZ4
import Derived.Test.YtgodgkihcbpmfaaImpZ7
import Derived.Test.YtgodgkihcbpmfaaQz
namespace Go.Proofs.Ytgodgkihcbpmfaa
open Go.RowKit
set_option linter.unusedVariables false
set_option maxRecDepth 100000

set_option maxHeartbeats 6400000 in
theorem cut_walk (A : Option Addr) (n c : Nat) (bs : Nat → Int) (w : World) (hb : Bytes w w.heap.size A n bs) (hn : n ≤ c) (hc : c ≤ maxLen) :
    Calls Try.prog 10 #[.slice A n c] w fun e w' => e = .returned (.bool true) ∧ Below w.heap.size w w' := by
  by_cases hbig : 1048576 < n
  · go_enter Try.func10, Try.ntmps10
    go_wp2
    go_ret
    exact ⟨rfl, Below.refl _ _⟩
  · go_enter Try.func10, Try.ntmps10
    go_wp2_with fail
    refine (drawCut_any A n c bs _ hb hn hc).mono ?_
    rintro e w1 ⟨A1, m, c1, qs, z, x, rfl, ⟨hz1, hm, hmc, hcm, hl1, hB1⟩, hzz0, hzz1, hx0, hx1⟩
    have HB1 := hide hB1
    have HZ1 := hide hz1
    have hs1 := hB1.size
    have HP1 := hide (implCut A1 m c1 _ z x qs w1 hz1 (Nat.le_refl _) (by omega))
    have HP2 := hide fun (W : World) (h : Below w1.heap.size w1 W) => specCut A1 m c1 _ z x qs W (hz1.below h (Nat.le_refl _)) h.size (by omega)
    clear hb hB1 hz1 hl1
    obtain ⟨v, hv⟩ : ∃ v, cutOk (zns qs) z x = v := ⟨_, rfl⟩
    rw [hv] at HP1 HP2
    obtain ⟨D, hD⟩ : ∃ D : Dev, cutD (zns qs) z x = D := ⟨_, rfl⟩
    rw [hD] at HP1 HP2
    have HV := hide hv
    have HD := hide (show (if v then modD (zns qs) z (cutZ x) else []) = D by rw [← hD, ← hv]; rfl)
    clear hD hv
    go_wp2_with fail
    refine HP1.out.mono ?_
    rintro e w2 ⟨A2, m2, c2, qs2, rfl, ho2, hz2, hB2⟩
    have HO2 := hide ho2
    have HZ2 := hide hz2
    have HW2 := hide hB2
    clear ho2 hz2 hB2 HP1
    go_wp2_with fail
    refine (HP2.out _ HW2.out).mono ?_
    rintro e w3 ⟨A3, m3, c3, qs3, rfl, ho3, hz3, hB3⟩
    have HW3 := hide (HW2.out.trans (hB3.mono HW2.out.size))
    have HPR := hide (pair_same HO2.out ho3 HZ2.out hz3 hB3)
    have HX2 := hide (HO2.out.zns.below hB3 (Nat.le_refl _))
    have hs23 := hB3.size
    obtain rfl : m3 = m2 := HPR.out.1
    clear ho3 hz3 hB3 HP2
    go_wp2_with fail
    refine (HPR.out.2.2 _ (Below.refl _ _)).mono ?_
    rintro e w4 ⟨rfl, hB4⟩
    have HW4 := hide (HW3.out.trans (hB4.mono HW3.out.size))
    have HW34 := hide hB4
    have HX4 := hide (HX2.out.below hB4 hs23)
    have hs4 := hB4.size
    have HEND := hide fun (W : World) (h : Below w4.heap.size w4 W) => HB1.out.trans ((HW4.out.trans (h.mono HW4.out.size)).mono hs1)
    clear hB4
    rcases v with _ | _
    · go_wp2_with fail
      refine (HPR.out.2.2 _ HW34.out).mono ?_
      rintro e w5 ⟨rfl, hB5⟩
      have HB5 := hide (HEND.out _ hB5)
      clear hB5
      go_wp2
      go_ret
      exact ⟨rfl, HB5.out⟩
    · have hzv : zoneV (zns qs) z = true := by
        rcases h : zoneV (zns qs) z with _ | _
        · have h2 := HV.out; rw [cutOk_no h] at h2; cases h2
        · rfl
      obtain ⟨k, q, rfl, hk4, h4, hq, hl⟩ := zone_parts HZ1.out hzv
      subst h4
      have hin := HV.out
      rw [cutOk_at hzv (zns_get hq)] at hin
      obtain ⟨hx0', hx1'⟩ := inB_iff.1 hin
      obtain ⟨y, rfl⟩ : ∃ y : Nat, x = (y : Int) := ⟨x.toNat, by omega⟩
      have HDD := hide (show zns qs2 = (zns qs).set k (cutZ y q.zn) by rw [HZ2.out, ← HD.out, if_pos rfl, modD_at (zns_get hq)])
      obtain rfl : m3 = 4 := by
        have h := congrArg List.length HDD.out
        unfold zns at h
        rw [List.length_set, List.length_map, List.length_map, HO2.out.len, HZ1.out.1] at h
        exact h
      have hkl : k < (zns qs).length := by unfold zns; rw [List.length_map, HZ1.out.1]; exact hk4
      obtain ⟨r, hr, her⟩ : ∃ r, qs2[k]? = some r ∧ r.zn = cutZ y q.zn := zns_get_inv (by rw [HDD.out, List.getElem?_set_self hkl])
      have HZ4 := hide (HZ1.out.below HW4.out (Nat.le_refl _))
      have HR := hide hr
      have HQ := hide hq
      have hyl : y ≤ q.words.length := by have : q.zn.1 = q.words := rfl; rw [this] at hx1'; omega
      have k0 : (0 : Int) ≤ (k : Int) := by omega
      have k1 : (k : Int) < ((4 : Nat) : Int) := by omega
      have k2 : (k : Int) < 4 := by omega
      clear hr hq hl hkl hin hx0' hx1' hzv
      go_wp2
      go_loopw [10] (fun i wr => ∃ (j : Nat), j ≤ 4 ∧ i = .int .i64 j ∧ Hid (Below w4.heap.size w4 wr)) (fun i _ => 4 - (intOf i).toNat)
      case atStart => exact ⟨0, Nat.zero_le _, rfl, Below.refl _ _⟩
      case round =>
        obtain ⟨j, hj, rfl, HB⟩ := hrel
        have hs := HB.out.size
        by_cases hlt : j < 4
        · by_cases hjk : j = k
          · subst hjk
            go_wp2_with fail
            go_quiet (fail)
            go_wp2
            go_roundw
            case rel => exact ⟨j + 1, by omega, by go_num, by first | exact below_drewN HB.out _ | exact HB.out⟩
            case measure => simp [intOf]; omega
          · have hjk' : ((j : Int) != (k : Int)) = true := by simp; omega
            obtain ⟨q', hq'⟩ : ∃ q', qs[j]? = some q' := ⟨_, List.getElem?_eq_getElem (by rw [HZ1.out.1]; exact hlt)⟩
            obtain ⟨r', hr', her'⟩ : ∃ r', qs2[j]? = some r' ∧ r'.zn = q'.zn := zns_get_inv (by rw [HDD.out, List.getElem?_set_ne (fun e => hjk e.symm)]; exact zns_get hq')
            have hX := HX4.out.below HB.out (by omega)
            have hY := HZ4.out.below HB.out (by have := HW4.out.size; omega)
            obtain ⟨ad', p', rfl, hp', hb', hd0, hd1, hd2⟩ := hX.at_ hr'
            obtain ⟨ad, p, rfl, hp, hb5, hc0, hc1, hc2⟩ := hY.at_ hq'
            obtain ⟨hi', hle', hcm'⟩ := hX.words hr'
            obtain ⟨hi, hle, hcm5⟩ := hY.words hq'
            clear hq' hr' hX hY
            obtain ⟨ws, sy, fu, qa, qc⟩ := q'
            obtain ⟨ws', sy', fu', ra, rc⟩ := r'
            unfold Zq.zn at her'
            injection her' with h1 h2
            injection h2 with h2 h3
            subst h1
            subst h2
            subst h3
            simp only [Zq.sl] at hc0 hc1 hc2 hi hle hcm5 hd0 hd1 hd2 hi' hle' hcm'
            generalize ws'.length = l at hc0 hi hle hd0 hi' hle'
            have HSZ := hide fun (i : Nat) => sameZone_yes ra qa l rc qc _ _ sy' fu' ws' (wr.drewN i) (hi'.drewN i) (hi.drewN i) (by show _ ≤ wr.heap.size; omega) (by show _ ≤ wr.heap.size; have := HW4.out.size; omega) (by omega)
            have j0 : (0 : Int) ≤ (j : Int) := by omega
            have j1 : (j : Int) < ((4 : Nat) : Int) := by omega
            have j2 : (j : Int) < 4 := by omega
            clear hi hle hcm5 hi' hle' hcm'
            go_upto_region 11 with (fail)
            have hbp : p.block < wr.heap.size := by have := HW4.out.size; omega
            have hbp' : p'.block < wr.heap.size := by omega
            go_region_held3 (fun W => W.cell? p' = some (.slice ra l rc) ∧ W.cell? ⟨p'.block, p'.off + 1, none⟩ = some (.int .i64 sy') ∧ W.cell? ⟨p'.block, p'.off + 2, none⟩ = some (.bool fu') ∧
                W.cell? p = some (.slice qa l qc) ∧ W.cell? ⟨p.block, p.off + 1, none⟩ = some (.int .i64 sy') ∧ W.cell? ⟨p.block, p.off + 2, none⟩ = some (.bool fu'))
              (first
                | go_keep
                | (exact ⟨(hb1.cell (p := p') hbp').trans hd0, (hb1.cell (p := ⟨p'.block, p'.off + 1, none⟩) hbp').trans hd1, (hb1.cell (p := ⟨p'.block, p'.off + 2, none⟩) hbp').trans hd2,
                    (hb1.cell (p := p) hbp).trans hc0, (hb1.cell (p := ⟨p.block, p.off + 1, none⟩) hbp).trans hc1, (hb1.cell (p := ⟨p.block, p.off + 2, none⟩) hbp).trans hc2⟩))
              ((first
                | (go_at_call 15; refine (HSZ.out 1).mono ?_; rintro e w5 ⟨rfl, hb1'⟩; have hb1 := below_undrew (i := 1) hb1'; clear hb1')))
            all_goals
              have HB5 := hide (HB.out.trans (hb1.mono hs))
              clear hb1
              go_wp2
              go_roundw
              case rel => exact ⟨j + 1, by omega, by go_num, HB5.out⟩
              case measure => simp [intOf]; omega
        · obtain rfl : j = 4 := by omega
          have hX := HX4.out.below HB.out (by omega)
          have hY := HZ4.out.below HB.out (by have := HW4.out.size; omega)
          obtain ⟨ad', p', e', hp', hb', hd0, hd1, hd2⟩ := hX.at_ HR.out
          obtain ⟨ad, p, rfl, hp, hb5, hc0, hc1, hc2⟩ := hY.at_ HQ.out
          obtain ⟨hi', hle', hcm'⟩ := hX.words HR.out
          obtain ⟨hi, hle, hcm5⟩ := hY.words HQ.out
          subst e'
          clear hX hY HR HQ
          obtain ⟨ws, sy, fu, qa, qc⟩ := q
          obtain ⟨ws', sy', fu', ra, rc⟩ := r
          unfold Zq.zn cutZ at her
          injection her with h1 h2
          injection h2 with h2 h3
          simp only [Int.toNat_natCast] at h1 h2 h3 hyl
          subst h1
          subst h2
          subst h3
          simp only [Zq.sl] at hc0 hc1 hc2 hi hle hcm5 hd0 hd1 hd2 hi' hle' hcm'
          have hty : (ws.take y).length = y := by rw [List.length_take]; omega
          rw [hty] at hd0 hi' hle'
          have hi2 := hi.firsts hyl
          generalize ws.length = l at hc0 hi hle hyl
          have hqc2 : qc ≤ 9223372036854775807 := by unfold maxLen at hcm5; omega
          have hyq : (y : Int) ≤ (qc : Int) := by omega
          have HSI := hide fun (i : Nat) => sameInts_yes ra qa y rc y qc _ _ (ws.take y) (ws.take y) (wr.drewN i) (hi'.drewN i) (hi2.drewN i) (by omega) (by omega) rfl
          have HE5 := hide (HEND.out _ HB.out)
          clear hi hle hcm5 hi' hle' hcm' hi2 hty
          by_cases hsy : sy ≤ (y : Int)
          · have e : min sy (y : Int) = sy := by omega
            rw [e] at hd1
            clear e
            go_wp2_with fail
            go_quiet ((go_at_call 26; exact quiet_on3 (HSI.out _)))
            go_wp2
            go_ret
            exact ⟨rfl, by first | exact below_drewN HE5.out _ | exact HE5.out⟩
          · have e : min sy (y : Int) = y := by omega
            rw [e] at hd1
            clear e
            go_wp2_with fail
            go_quiet ((go_at_call 26; exact quiet_on3 (HSI.out _)))
            go_wp2
            go_ret
            exact ⟨rfl, by first | exact below_drewN HE5.out _ | exact HE5.out⟩
end Go.Proofs.Ytgodgkihcbpmfaa
