/-
  The walk of FnFinish.
-/
import Derived.Test.YtgodgkihcbpmfaaSameZ
import Derived.Test.YtgodgkihcbpmfaaDrawZ4
import Derived.Test.YtgodgkihcbpmfaaImpZ6
import Derived.Test.YtgodgkihcbpmfaaQz
namespace Go.Proofs.Ytgodgkihcbpmfaa
open Go.RowKit
set_option linter.unusedVariables false
set_option maxRecDepth 100000

set_option maxHeartbeats 6400000 in
theorem finish_walk (A : Option Addr) (n c : Nat) (bs : Nat → Int) (w : World) (hb : Bytes w w.heap.size A n bs) (hn : n ≤ c) (hc : c ≤ maxLen) :
    Calls Try.prog 8 #[.slice A n c] w fun e w' => e = .returned (.bool true) ∧ Below w.heap.size w w' := by
  by_cases hbig : 1048576 < n
  · go_enter Try.func8, Try.ntmps8
    go_wp2
    go_ret
    exact ⟨rfl, Below.refl _ _⟩
  · go_enter Try.func8, Try.ntmps8
    go_wp2_with fail
    refine (drawFinish_any A n c bs _ hb hn hc).mono ?_
    rintro e w1 ⟨A1, m, c1, qs, z, rfl, ⟨hz1, hm, hmc, hcm, hl1, hB1⟩, hzz0, hzz1⟩
    have HB1 := hide hB1
    have HZ1 := hide hz1
    have hs1 := hB1.size
    have HP1 := hide (implFinish A1 m c1 _ z qs w1 hz1 (Nat.le_refl _) (by omega))
    have HP2 := hide fun (W : World) (h : Below w1.heap.size w1 W) => specFinish A1 m c1 _ z qs W (hz1.below h (Nat.le_refl _)) h.size (by omega)
    clear hb hB1 hz1 hl1
    obtain ⟨v, hv⟩ : ∃ v, zoneV (zns qs) z = v := ⟨_, rfl⟩
    rw [hv] at HP1 HP2
    obtain ⟨D, hD⟩ : ∃ D : Dev, finishD (zns qs) z = D := ⟨_, rfl⟩
    rw [hD] at HP1 HP2
    have HV := hide hv
    have HD := hide (show (if v then modD (zns qs) z fullZ else []) = D by rw [← hD, ← hv]; rfl)
    clear hD hv
    go_wp2_with fail
    refine HP1.out.mono ?_
    rintro e w2 ⟨A2, m2, c2, qs2, rfl, ho2, hz2, hB2⟩
    have HO2 := hide ho2
    have HZ2 := hide hz2
    have HW2 := hide hB2
    clear ho2 hz2 hB2 HP1
    go_wp2_with fail
    refine (HP2.out _ HW2.out).mono ?_
    rintro e w3 ⟨A3, m3, c3, qs3, rfl, ho3, hz3, hB3⟩
    have HW3 := hide (HW2.out.trans (hB3.mono HW2.out.size))
    have HPR := hide (pair_same HO2.out ho3 HZ2.out hz3 hB3)
    have HX2 := hide (HO2.out.zns.below hB3 (Nat.le_refl _))
    have hs23 := hB3.size
    obtain rfl : m3 = m2 := HPR.out.1
    clear ho3 hz3 hB3 HP2
    go_wp2_with fail
    refine (HPR.out.2.2 _ (Below.refl _ _)).mono ?_
    rintro e w4 ⟨rfl, hB4⟩
    have HW4 := hide (HW3.out.trans (hB4.mono HW3.out.size))
    have HW34 := hide hB4
    have HX4 := hide (HX2.out.below hB4 hs23)
    have hs4 := hB4.size
    have HEND := hide fun (W : World) (h : Below w4.heap.size w4 W) => HB1.out.trans ((HW4.out.trans (h.mono HW4.out.size)).mono hs1)
    clear hB4
    rcases v with _ | _
    · go_wp2_with fail
      refine (HPR.out.2.2 _ HW34.out).mono ?_
      rintro e w5 ⟨rfl, hB5⟩
      have HB5 := hide (HEND.out _ hB5)
      clear hB5
      go_wp2
      go_ret
      exact ⟨rfl, HB5.out⟩
    · obtain ⟨k, q, rfl, hk4, h4, hq, hl⟩ := zone_parts HZ1.out HV.out
      subst h4
      have HDD := hide (show zns qs2 = (zns qs).set k (fullZ q.zn) by rw [HZ2.out, ← HD.out, if_pos rfl, modD_at (zns_get hq)])
      obtain rfl : m3 = 4 := by
        have h := congrArg List.length HDD.out
        unfold zns at h
        rw [List.length_set, List.length_map, List.length_map, HO2.out.len, HZ1.out.1] at h
        exact h
      have hkl : k < (zns qs).length := by unfold zns; rw [List.length_map, HZ1.out.1]; exact hk4
      obtain ⟨r, hr, her⟩ : ∃ r, qs2[k]? = some r ∧ r.zn = fullZ q.zn := zns_get_inv (by rw [HDD.out, List.getElem?_set_self hkl])
      have hdv : devV (zns qs) = true := by have h := HV.out; unfold zoneV at h; rw [Bool.and_eq_true] at h; exact h.1
      have hzok : zoneOk (fullZ q.zn) = true := (devV_iff.1 hdv).1 q.zn (List.mem_map_of_mem (List.mem_of_getElem? hq))
      have hAN : appendN (zns qs2) k [1] = 1 := by
        rw [appendN_yes (q := fullZ q.zn) (by
          rw [HDD.out, devV_set hdv hzok, inB_true (by omega) (by omega)]
          decide) (by rw [HDD.out, List.getElem?_set_self hkl])]
        rfl
      have HAP := hide fun (W : World) (h : Below w4.heap.size w4 W) => implAppend A2 (some ⟨W.heap.size, 0, none⟩) 4 c2 _ (W.heap.size + 1) 1 1 k qs2 [1] (W.alloc (.cells #[.int .i64 1] 3)) ((HX4.out.below h (Nat.le_trans hs23 hs4)).alloc (by have := h.size; omega) _) (by have := h.size; simp; omega) (by omega) (Ints.one W 1) (by simp) (by omega)
      rw [hAN] at HAP
      have HZ4 := hide (HZ1.out.below HW4.out (Nat.le_refl _))
      have HR := hide hr
      have HQ := hide hq
      have k0 : (0 : Int) ≤ (k : Int) := by omega
      have k1 : (k : Int) < ((4 : Nat) : Int) := by omega
      have k2 : (k : Int) < 4 := by omega
      clear hr hq hl hkl hdv hzok hAN
      go_wp2_with fail
      refine (HAP.out _ (Below.refl _ _)).mono ?_
      rintro e w5 ⟨A5, m5, c5, qs5, rfl, ho5, hz5, hB5⟩
      have HW5 := hide ((below_box w4 _).trans (hB5.mono (by simp)))
      have hs5 := HW5.out.size
      have hX := HX4.out.below HW5.out (by omega)
      have hY := HZ4.out.below HW5.out (by have := HW4.out.size; omega)
      obtain ⟨ad', p', e', hp', hb', hd0, hd1, hd2⟩ := hX.at_ HR.out
      obtain ⟨ad, p, rfl, hp, hb5, hc0, hc1, hc2⟩ := hY.at_ HQ.out
      obtain ⟨hi', hle', hcm'⟩ := hX.words HR.out
      obtain ⟨hi, hle, hcm5⟩ := hY.words HQ.out
      subst e'
      clear hX hY ho5 hz5 hB5 HAP HR HQ hc2 hd2
      obtain ⟨ws, sy, fu, qa, qc⟩ := q
      obtain ⟨ws', sy', fu', ra, rc⟩ := r
      unfold Zq.zn fullZ at her
      injection her with h1 h2
      injection h2 with h2 h3
      simp only at h1 h2
      subst h1
      subst h2
      simp only [Zq.sl] at hc0 hc1 hi hle hcm5 hd0 hd1 hi' hle' hcm'
      generalize ws'.length = l at hc0 hi hle hd0 hi' hle'
      have HSI := hide fun (j : Nat) => sameInts_yes ra qa l rc l qc _ _ ws' ws' (w5.drewN j) (hi'.drewN j) (hi.drewN j) (by omega) (by omega) rfl
      have HE5 := hide (HEND.out _ HW5.out)
      clear hi hle hcm5 hi' hle' hcm' h3
      go_wp2_with fail
      go_quiet ((go_at_call 26; exact quiet_on3 (HSI.out _)))
      go_wp2
      go_ret
      exact ⟨rfl, by first | exact below_drewN HE5.out _ | exact HE5.out⟩
end Go.Proofs.Ytgodgkihcbpmfaa
