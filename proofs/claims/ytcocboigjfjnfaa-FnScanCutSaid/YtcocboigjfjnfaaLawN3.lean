/-
  The walk of FnScanCut.
-/
import Derived.Test.YtcocboigjfjnfaaScnL
import Derived.Test.YtcocboigjfjnfaaImpZ7
namespace Go.Proofs.Ytcocboigjfjnfaa
open Go.RowKit
set_option linter.unusedVariables false
set_option maxRecDepth 100000

theorem allW_take {xs : List Int} (h : allW xs = true) (k : Nat) : allW (xs.take k) = true := by
  unfold allW at h ⊢
  exact List.all_eq_true.2 fun x hx => List.all_eq_true.1 h x (List.mem_of_mem_take hx)
theorem cut_ok {qs : List Zq} {k x : Nat} {q : Zq} (hv : devV (zns qs) = true) (hq : qs[k]? = some q) (hk : k < 4) (hx : x ≤ q.words.length) : cutOk (zns qs) (k : Int) (x : Int) = true := by
  have hzv : zoneV (zns qs) (k : Int) = true := by unfold zoneV; rw [hv, inB_true (by omega) (by omega)]; rfl
  rw [cutOk_at hzv (zns_get hq)]
  exact inB_true (by omega) (by show (x : Int) ≤ ((q.words.length : Nat) : Int); omega)
/-- a valid device that is cut within a zone's words -/
theorem cut_dev {qs qs6 : List Zq} {k x : Nat} {q : Zq} (hv : devV (zns qs) = true) (hq : qs[k]? = some q) (hk : k < 4) (hx : x ≤ q.words.length) (hz : zns qs6 = cutD (zns qs) (k : Int) (x : Int)) :
    ∃ r, qs6[k]? = some r ∧ r.words = q.words.take x ∧ devV (zns qs6) = true ∧ qs6.length = 4 := by
  have hzv : zoneV (zns qs) (k : Int) = true := by unfold zoneV; rw [hv, inB_true (by omega) (by omega)]; rfl
  have hzq := zns_get hq
  have hok : cutOk (zns qs) (k : Int) (x : Int) = true := by rw [cutOk_at hzv hzq]; exact inB_true (by omega) (by show (x : Int) ≤ ((q.words.length : Nat) : Int); omega)
  have e : zns qs6 = (zns qs).set k (cutZ (x : Int) q.zn) := by rw [hz]; unfold cutD; rw [hok, if_pos rfl, modD_at hzq]
  obtain ⟨h1, h2⟩ := devV_iff.1 hv
  have hkl : k < (zns qs).length := by omega
  obtain ⟨r, hr, her⟩ : ∃ r, qs6[k]? = some r ∧ r.zn = cutZ (x : Int) q.zn := zns_get_inv (by rw [e, List.getElem?_set_self hkl])
  refine ⟨r, hr, ?_, ?_, ?_⟩
  · have := congrArg Prod.fst her
    simpa [Zq.zn, cutZ] using this
  · rw [e]
    refine devV_iff.2 ⟨fun z hz => ?_, by rw [List.length_set]; exact h2⟩
    rcases List.mem_or_eq_of_mem_set hz with h | rfl
    · exact h1 z h
    · have h := h1 q.zn (List.mem_of_getElem? hzq)
      unfold zoneOk at h ⊢
      rw [Bool.and_eq_true, Bool.and_eq_true] at h ⊢
      obtain ⟨⟨ha, hb⟩, hc⟩ := h
      have hb' := of_decide_eq_true hb
      have hc' := inB_iff.1 hc
      simp only [cutZ, Zq.zn, Int.toNat_natCast] at hb' hc' ha ⊢
      have hl : (q.words.take x).length = x := by rw [List.length_take]; omega
      refine ⟨⟨allW_take ha x, decide_eq_true (by rw [hl]; omega)⟩, inB_true (by omega) (by rw [hl]; omega)⟩
  · have := congrArg List.length e
    rw [List.length_set, h2] at this
    unfold zns at this
    rwa [List.length_map] at this

set_option maxHeartbeats 12800000 in
theorem scanCut_walk (A : Option Addr) (n c : Nat) (bs : Nat → Int) (A' : Option Addr) (n' c' : Nat) (bs' : Nat → Int) (w : World) (hb : Bytes w w.heap.size A n bs) (hn : n ≤ c) (hc : c ≤ maxLen) (hb' : Bytes w w.heap.size A' n' bs') (hn1 : n' ≤ c') (hc1 : c' ≤ maxLen) :
    Calls Try.prog 5 #[.slice A n c, .slice A' n' c'] w fun e w' => e = .returned (.bool true) ∧ Below w.heap.size w w' := by
  have hn' : n' ≤ 9223372036854775807 := by unfold maxLen at hc1; omega
  clear hc1 hb'
  by_cases hbig : 1048576 < n
  · go_enter Try.func5, Try.ntmps5
    go_wp2
    go_ret
    exact ⟨rfl, Below.refl _ _⟩
  by_cases hbig' : 1048576 < n'
  · go_enter Try.func5, Try.ntmps5
    go_wp2
    go_ret
    exact ⟨rfl, Below.refl _ _⟩
  go_enter Try.func5, Try.ntmps5
  go_wp2_with fail
  refine (drawScanZone_any A n c bs _ hb hn hc).mono ?_
  rintro e w1 ⟨A1, m, c1, qs, z, rfl, hd, hz0, hz1⟩
  have HD := hide hd
  have HP1 := hide (implScanZ A1 m c1 _ z qs w1 hd.1 (Nat.le_refl _) (by have := hd.2.1; omega) (by omega) (by omega))
  have HP2 := hide fun (W : World) (h : Below w1.heap.size w1 W) => specScanZ A1 m c1 _ z qs W (hd.1.below h (Nat.le_refl _)) h.size (by have := hd.2.1; omega)
  clear hb hd
  obtain ⟨e0, he0⟩ : ∃ e, (scanZ (zns qs) z).2 = e := ⟨_, rfl⟩
  unfold ScanPost at HP1 HP2
  rw [he0] at HP1 HP2
  have HE := hide he0
  clear he0
  go_wp2_with fail
  refine HP1.out.mono ?_
  rintro e w2 ⟨A2, c2, n2, rs, rfl, ho2, hf2, hb2⟩
  have HO2 := hide ho2
  have HF2 := hide hf2
  have HB2 := hide hb2
  clear ho2 hf2 hb2 HP1
  go_wp2_with fail
  refine (HP2.out w2 HB2.out).mono ?_
  rintro e w3 ⟨A3, c3, n3, rs', rfl, ho3, hf3, hb3⟩
  obtain ⟨rfl, hZ⟩ := ZScn.of HD.out HO2.out HF2.out HB2.out ho3 hf3 hb3
  have HZ := hide hZ
  clear hZ ho3 hf3 hb3 HO2 HF2 HB2 HP2 HD
  have h4 := HZ.out.m4
  have hnum := HZ.out.num
  have HSM := hide fun (W : World) (h : Below w3.heap.size w3 W) => sameFnd_yes A2 A3 n3 c2 c3 _ _ rs rs' W (HZ.out.out W h) (HZ.out.want W h) (Nat.le_trans HZ.out.s3 h.size) h.size (by unfold maxLen; omega) HZ.out.f3
  have HDV := hide fun (W : World) (h : Below w3.heap.size w3 W) => specDV A1 m c1 _ qs W (HZ.out.zs W h) (by omega)
  rcases hv : devV (zns qs) with _ | _
  · rw [hv] at HDV
    clear hv
    go_wp2_with fail
    refine (HSM.out w3 (Below.refl _ _)).mono ?_
    rintro e w4 ⟨rfl, hb4⟩
    have HB4 := hide hb4
    clear hb4
    go_wp2_with fail
    refine (HDV.out w4 HB4.out).mono ?_
    rintro e w5 ⟨rfl, q5, rfl⟩
    have HB5 := hide (below_drewN HB4.out q5)
    go_wp2_with fail
    refine (HSM.out _ HB5.out).mono ?_
    rintro e w6 ⟨rfl, hb6⟩
    have HFIN := hide (HZ.out.fin w6 (HB5.out.trans (hb6.mono HB5.out.size)))
    clear hb6
    go_wp2
    go_ret
    exact ⟨rfl, HFIN.out⟩
  rw [hv] at HDV
  by_cases hzr : 0 ≤ z ∧ z ≤ 3
  case neg =>
    clear hv
    have hzz : (z < 0) ∨ (¬ z < 0 ∧ 4 ≤ z) := by omega
    clear hzr
    rcases hzz with hzz | ⟨hzz, hzz2⟩
    all_goals
      go_wp2_with fail
      refine (HSM.out w3 (Below.refl _ _)).mono ?_
      rintro e w4 ⟨rfl, hb4⟩
      have HB4 := hide hb4
      clear hb4
      go_wp2_with fail
      refine (HDV.out w4 HB4.out).mono ?_
      rintro e w5 ⟨rfl, q5, rfl⟩
      have HB5 := hide (below_drewN HB4.out q5)
      go_wp2_with fail
      refine (HSM.out _ HB5.out).mono ?_
      rintro e w6 ⟨rfl, hb6⟩
      have HFIN := hide (HZ.out.fin w6 (HB5.out.trans (hb6.mono HB5.out.size)))
      clear hb6
      go_wp2
      go_ret
      exact ⟨rfl, HFIN.out⟩
  obtain ⟨k, rfl⟩ := Int.eq_ofNat_of_zero_le hzr.1
  obtain rfl : m = 4 := devV_is4 hv (HZ.out.zs w3 (Below.refl _ _)).1
  obtain ⟨q, hq⟩ : ∃ q, qs[k]? = some q := ⟨_, List.getElem?_eq_getElem (by rw [(HZ.out.zs w3 (Below.refl _ _)).1]; omega)⟩
  have HSZ := hide (scanZ_yes hv (by omega) hq)
  have HQ := hide hq
  have hql : q.words.length ≤ 64 := devV_words hv hq
  have HFN : Hid (fns rs = (scanW (k : Int) q.words 0).1) := HZ.out.f2.trans (by rw [HSZ.out])
  have HEE : Hid ((scanW (k : Int) q.words 0).2 = e0) := by show _ = _; rw [← HE.out, HSZ.out]
  have hel : e0 ≤ q.words.length := by rw [← HEE.out]; exact scan_le _ _ 0 (Nat.zero_le _)
  have hz1 : ¬ (k : Int) < 0 := by omega
  have hz2 : ¬ (4 : Int) ≤ (k : Int) := by omega
  have HVV := hide hv
  clear hv hq hzr hz0
  go_wp2_with fail
  refine (HSM.out w3 (Below.refl _ _)).mono ?_
  rintro e w4 ⟨rfl, hb4⟩
  have HB4 := hide hb4
  clear hb4
  go_wp2_with fail
  refine (HDV.out w4 HB4.out).mono ?_
  rintro e w5 ⟨rfl, q5, rfl⟩
  have HB5 := hide (below_drewN HB4.out q5)
  generalize w4.drewN q5 = w5 at *
  clear HDV HB4
  have hw3 : w3.heap.size ≤ w5.heap.size := HB5.out.size
  have hR := HZ.out.zs w5 HB5.out
  obtain ⟨ad, p, rfl, hp, hpb, d0, d1, d2⟩ := hR.at_ HQ.out
  obtain ⟨hi, hle, hcm⟩ := hR.words HQ.out
  unfold maxLen at hcm
  have hs15 : w1.heap.size ≤ w5.heap.size := by have := HZ.out.s2; have := HZ.out.s3; omega
  obtain ⟨L, hL⟩ : ∃ L, q.words.length = L := ⟨_, rfl⟩
  have HL := hide hL
  rw [hL] at hql hel hle
  obtain ⟨J, hJ⟩ : ∃ J, L + 1 = J := ⟨_, rfl⟩
  have hJi : (L : Int) + 1 = (J : Int) := by omega
  have hmn : ¬ (J : Int) = 0 := by omega
  obtain ⟨x, hK⟩ : ∃ x : Nat, (n' : Int) % (J : Int) = (x : Int) := Int.eq_ofNat_of_zero_le (Int.emod_nonneg _ hmn)
  have hxl : x ≤ L := by have := Int.emod_lt_of_pos (n' : Int) (show (0 : Int) < J by omega); omega
  clear hR hi d1 d2 HSZ
  unfold Zq.sl at d0
  rw [hL] at d0
  clear hL
  have k0 : (0 : Int) ≤ (k : Int) := by omega
  have k1 : (k : Int) < ((4 : Nat) : Int) := by omega
  have kw : IntKind.i64.wrap ((L : Int) + 1) = (J : Int) := IntWalk.i64_in _ (by omega) |>.trans hJi
  have hK2 : (n' : Int).tmod (J : Int) = (x : Int) := by rw [Int.tmod_eq_emod_of_nonneg (by omega)]; exact hK
  have kw2 : IntKind.i64.wrap (x : Int) = (x : Int) := IntWalk.i64_in _ (by omega)
  have HJ := hide hJ
  have HJI := hide hJi
  clear hJ hJi
  have hcut := implCut (some ad) 4 c1 _ (k : Int) (x : Int) qs w5 (HZ.out.zs w5 HB5.out) hs15 (by omega)
  rw [cut_ok HVV.out HQ.out (show k < 4 by omega) (show x ≤ q.words.length by rw [HL.out]; exact hxl)] at hcut
  have HCUT := hide hcut
  clear hcut
  go_wp2_with fail
  refine HCUT.out.mono ?_
  rintro e w6 ⟨A6, m6, c6, qs6, rfl, ho6, hz6, hb6⟩
  obtain ⟨r, hr, hrw, hdv6, hm6⟩ := cut_dev HVV.out HQ.out (show k < 4 by omega) (show x ≤ q.words.length by rw [HL.out]; exact hxl) hz6
  obtain rfl : m6 = 4 := ho6.len.symm.trans hm6
  have hB6 := HB5.out.trans (hb6.mono hw3)
  have HB6 := hide hB6
  have HS7 := hide (implScanZ A6 4 c6 _ (k : Int) qs6 w6 ho6.zns (Nat.le_refl _) (by omega) (by omega) (by omega))
  rw [scanZ_yes hdv6 (show k < 4 by omega) hr, hrw] at HS7
  obtain ⟨ht1, ⟨nn, ht2⟩, ht3⟩ := scan_take (k : Int) (xs := q.words) (k := x) (by rw [HL.out]; exact hxl) 0 (Nat.zero_le _)
  rw [HEE.out, ← HFN.out] at ht3
  rw [← HFN.out] at ht2
  have HT2 := hide ht2
  have HT3 := hide ht3
  obtain ⟨e7, he7⟩ : ∃ e7, (scanW (k : Int) (q.words.take x) 0).2 = e7 := ⟨_, rfl⟩
  unfold ScanPost at HS7
  rw [he7] at HS7 ht1
  clear ho6 hz6 hb6 hB6 hr hrw hdv6 hm6 ht2 ht3 he7 HCUT d0
  go_wp2_with fail
  refine HS7.out.mono ?_
  rintro e w7 ⟨A7, c7, n7, rs7, rfl, ho7, hf7, hb7⟩
  have HB7 := hide (HB6.out.trans (hb7.mono HB6.out.size))
  have hnl : n7 = ((fns rs).take nn).length := by rw [← HT2.out, ← hf7, fns_length, ho7.len]
  rw [List.length_take, fns_length, (HZ.out.out w3 (Below.refl _ _)).1] at hnl
  have hn7 : n7 ≤ n3 := by omega
  have HEQ : Hid (fns rs7 = fns (rs.take n7)) := by
    show _ = _
    rw [fns_take, hf7, HT2.out, hnl]
    rcases Nat.le_total nn n3 with h | h
    · rw [Nat.min_eq_left h]
    · rw [Nat.min_eq_right h, List.take_of_length_le (by rw [fns_length, (HZ.out.out w3 (Below.refl _ _)).1]; exact h), List.take_of_length_le (by rw [fns_length, (HZ.out.out w3 (Below.refl _ _)).1]; exact Nat.le_refl _)]
  have HF7 := hide hf7
  have hcap := HZ.out.cap2
  have HSM7 := hide (sameFnd_yes A7 A2 n7 c7 c2 _ _ rs7 (rs.take n7) w7 ho7.fnds ((HZ.out.out w7 HB7.out).firsts hn7) (Nat.le_refl _) (by have := HZ.out.s3; have := HB7.out.size; omega) (by unfold maxLen; omega) HEQ.out)
  have hlast : x < e0 ∨ n7 = n3 := by
    by_cases h : e0 ≤ x
    · right
      have h2 := HT3.out h
      rw [← hf7] at h2
      have h3 := congrArg List.length h2
      rw [fns_length, fns_length, ho7.len, (HZ.out.out w3 (Below.refl _ _)).1] at h3
      exact h3
    · left; omega
  clear hf7 ho7 hb7 hnl HS7
  unfold maxLen at hcap
  obtain ⟨hcap1, hcap2⟩ := hcap
  have hcc : (n7 : Int) ≤ (c2 : Int) := by omega
  have he7x : (e7 : Int) ≤ (x : Int) := by omega
  have hn77 : (n7 : Int) ≤ (n3 : Int) := by omega
  by_cases hxe : x < e0
  · have hxe2 : (x : Int) < (e0 : Int) := by omega
    clear hlast
    go_wp2_with fail
    refine HSM7.out.mono ?_
    rintro e w8 ⟨rfl, hb8⟩
    have HFIN := hide (HZ.out.fin w8 (HB7.out.trans (hb8.mono HB7.out.size)))
    clear hb8
    go_wp2
    go_ret
    exact ⟨rfl, HFIN.out⟩
  · obtain rfl : n7 = n3 := by omega
    have hxe2 : ¬ (x : Int) < (e0 : Int) := by omega
    clear hlast hn77
    go_wp2_with fail
    refine HSM7.out.mono ?_
    rintro e w8 ⟨rfl, hb8⟩
    have HFIN := hide (HZ.out.fin w8 (HB7.out.trans (hb8.mono HB7.out.size)))
    clear hb8
    go_wp2
    go_ret
    exact ⟨rfl, HFIN.out⟩
end Go.Proofs.Ytcocboigjfjnfaa
