/-
  The walk of FnApplyBad.
-/
import Derived.Test.YtgkjbickphdeoaaApplyM
namespace Go.Proofs.Ytgkjbickphdeoaa
open Go.RowKit
set_option linter.unusedVariables false
set_option maxRecDepth 100000

set_option maxHeartbeats 12800000 in
theorem applyBad_walk (A : Option Addr) (n c : Nat) (bs : Nat → Int) (w : World) (hb : Bytes w w.heap.size A n bs) (hn : n ≤ c) (hc : c ≤ maxLen) :
    Calls Try.prog 8 #[.slice A n c] w fun e w' => e = .returned (.bool true) ∧ Below w.heap.size w w' := by
  by_cases hbig : 1048576 < n
  · go_enter Try.func8, Try.ntmps8
    go_wp2
    go_ret
    exact ⟨rfl, Below.refl _ _⟩
  go_enter Try.func8, Try.ntmps8
  go_wp2_with fail
  refine (drawMA_any A n c bs _ hb hn hc).mono ?_
  rintro e w1 ⟨A1, m, c1, ms, kd, sq, F, fn, fc, xs, z, a, rfl, hd⟩
  obtain ⟨W2, hW2⟩ : ∃ W2, w1.alloc (.cells #[.int .i64 kd, .int .i64 sq, .slice F fn fc] 26) = W2 := ⟨_, rfl⟩
  have HS := hide (apStart hd hW2)
  have hm := hd.dm.num
  have hmc := hd.dm.nc
  have hfn := hd.fnum
  have hfnc := hd.fnc
  have hfcm : fc ≤ 9223372036854775807 := by have := hd.fcm; unfold maxLen at this; omega
  obtain ⟨z0, z1⟩ := hd.z0
  obtain ⟨a0, a1⟩ := hd.a0
  obtain ⟨hq0, hq1, hq2⟩ := HS.out.box W2 (Below.refl _ _)
  obtain ⟨ok, hok⟩ : ∃ ok, apOk ms kd sq xs z a = ok := ⟨_, rfl⟩
  obtain ⟨rs, hrs⟩ : ∃ rs, apM ms kd sq xs z a = rs := ⟨_, rfl⟩
  have HOK := hide hok
  have HRS := hide hrs
  have HRL := hide (show rs.length ≤ 12 by rw [← hrs]; exact apM_le _ _ _ _ _ _)
  have HP1 := hide (implMA A1 F m c1 fn fc _ _ ms kd sq z a xs W2 (HS.out.mpi W2 (Below.refl _ _)) (HS.out.bod W2 (Below.refl _ _)) (HS.out.siz W2 (Below.refl _ _)) (HS.out.siz W2 (Below.refl _ _)) (by omega) (by omega) hfnc hfcm)
  have HP2 := hide fun (W : World) (h : Below W2.heap.size W2 W) => specMA A1 F m c1 fn fc _ _ ms kd sq z a xs W (HS.out.mpi W h) (HS.out.bod W h) (HS.out.siz W h) (HS.out.siz W h) (by omega) (by omega)
  rw [hok, hrs] at HP1 HP2
  clear hb hd hok hrs
  go_wp2_with fail
  refine HP1.out.mono ?_
  rintro e w3 ⟨A2, m2, c2, rfl, ho2, hb2⟩
  have HO2 := hide ho2
  have HW3 := hide hb2
  have hm2 : m2 ≤ 12 := by rw [← ho2.1]; exact HRL.out
  obtain ⟨hr0, hr1, hr2⟩ := HS.out.box w3 hb2
  clear ho2 hb2 HP1 hq0 hq1 hq2
  go_wp2_with fail
  refine (HP2.out _ HW3.out).mono ?_
  rintro e w4 ⟨A3, m3, c3, rfl, ho3, hb3⟩
  obtain rfl : m3 = m2 := ho3.1.symm.trans HO2.out.1
  have HW4 := hide (HW3.out.trans (hb3.mono HW3.out.size))
  obtain ⟨hs0, hs1, hs2⟩ := HS.out.box w4 HW4.out
  have HX2 := hide (HO2.out.mpi.below hb3 (Nat.le_refl _))
  have HX3 := hide ho3.mpi
  have HS34 := hide hb3.size
  have HML := hide ho3.1
  have HCAP := hide HO2.out.cap
  have HSM := hide fun (W : World) (h : Below w4.heap.size w4 W) => sameMap_yes A2 A3 m3 c2 c3 _ _ rs W (HX2.out.below h HS34.out) (HX3.out.below h (Nat.le_refl _)) (by omega)
  have HM4 := hide fun (W : World) (h : Below w4.heap.size w4 W) => HS.out.mpi W (HW4.out.trans (h.mono HW4.out.size))
  have HF4 := hide fun (W : World) (h : Below w4.heap.size w4 W) => HS.out.bod W (HW4.out.trans (h.mono HW4.out.size))
  have HZ4 := hide fun (W : World) (h : Below w4.heap.size w4 W) => HS.out.siz W (HW4.out.trans (h.mono HW4.out.size))
  have HEND := hide fun (W : World) (h : Below w4.heap.size w4 W) => HS.out.fin W (HW4.out.trans (h.mono HW4.out.size))
  have HBOX := hide fun (W : World) (h : Below w4.heap.size w4 W) => HS.out.box W (HW4.out.trans (h.mono HW4.out.size))
  clear ho3 hb3 HP2 HO2 hr0 hr1 hr2
  have HMV := hide fun (W : World) (h : Below w4.heap.size w4 W) => implMV A1 m c1 _ ms W (HM4.out W h) (HZ4.out W h) (by omega)
  have HFV := hide fun (W : World) (h : Below w4.heap.size w4 W) => implValid kd sq F fn fc _ xs W (HF4.out W h) (HZ4.out W h) (by unfold maxLen; omega)
  have HGP := hide fun (W : World) (h : Below w4.heap.size w4 W) => implGetP F fn fc _ xs W (HF4.out W h) (HZ4.out W h) (by omega) hfnc hfcm
  have HGC := hide fun (W : World) (h : Below w4.heap.size w4 W) => implGetC F fn fc _ xs W (HF4.out W h) (HZ4.out W h) (by omega) hfnc hfcm
  obtain ⟨vp, hvp⟩ : ∃ v, okG 2 9 fldP xs fn = v := ⟨_, rfl⟩
  obtain ⟨vc, hvc⟩ : ∃ v, okG 3 6 fldC xs fn = v := ⟨_, rfl⟩
  rw [hvp] at HGP
  rw [hvc] at HGC
  have hfl := (HF4.out w4 (Below.refl _ _)).1
  have HLEN := hide hfl
  have HBO : Hid (bodyOk kd xs = if kd = 1 then vp else vc) := by show _ = _; unfold bodyOk; rw [hfl, hvp, hvc]
  have wa : IntKind.i64.wrap (a + 4) = a + 4 := IntWalk.i64_in _ (by omega)
  have wb : IntKind.i64.wrap (a + 4 + (fn : Int)) = a + 4 + (fn : Int) := IntWalk.i64_in _ (by omega)
  have a0' : decide (a ≥ 0) = true := by simpa using a0
  clear hvp hvc hfl HRL HRS
  by_cases hk2 : kd = 2
  · subst hk2
    rw [if_neg (by omega)] at HBO
    go_wp2_with fail
    refine (HSM.out w4 (Below.refl _ _)).mono ?_
    rintro e w5 ⟨rfl, q5, rfl⟩
    have HB5 := hide (below_drewN (Below.refl w4.heap.size w4) q5)
    go_wp2_with fail
    refine (HGP.out _ HB5.out).mono ?_
    rintro e w6 ⟨A6, n6, c6, rfl, ho6, hb6⟩
    have HW6 := hide (HB5.out.trans (hb6.mono HB5.out.size))
    obtain ⟨ht0, ht1, ht2⟩ := HBOX.out _ HW6.out
    clear ho6 hb6
    go_wp2_with fail
    refine (HGC.out _ HW6.out).mono ?_
    rintro e w7 ⟨A7, n7, c7, rfl, ho7, hb7⟩
    have HW7 := hide (HW6.out.trans (hb7.mono HW6.out.size))
    obtain ⟨hu0, hu1, hu2⟩ := HBOX.out _ HW7.out
    clear ho7 hb7 ht0 ht1 ht2
    rcases h1 : mpV ms with _ | _
    · have hok : ok = false := HOK.out.symm.trans (ap_no1 h1)
      subst hok
      rw [h1] at HMV
      clear h1
      go_wp2_with fail
      refine (HMV.out _ HW7.out).mono ?_
      rintro e w8 ⟨rfl, hb8⟩
      have HE := hide (HEND.out _ (HW7.out.trans (hb8.mono HW7.out.size)))
      clear hb8
      go_wp2
      go_ret
      exact ⟨rfl, HE.out⟩
    have H1 := hide h1
    rw [h1] at HMV
    clear h1
    go_wp2_with fail
    refine (HMV.out _ HW7.out).mono ?_
    rintro e w8 ⟨rfl, hb8⟩
    have HW8 := hide (HW7.out.trans (hb8.mono HW7.out.size))
    obtain ⟨hx0, hx1, hx2⟩ := HBOX.out _ HW8.out
    clear hb8
    rcases h2 : validF 2 sq xs with _ | _
    · have hok : ok = false := HOK.out.symm.trans (ap_no2 h2)
      subst hok
      rw [h2] at HFV
      clear h2
      go_wp2_with fail
      refine (HFV.out _ HW8.out).mono ?_
      rintro e w9 ⟨rfl, hb9⟩
      have HE := hide (HEND.out _ (HW8.out.trans (hb9.mono HW8.out.size)))
      clear hb9
      go_wp2
      go_ret
      exact ⟨rfl, HE.out⟩
    have H2 := hide h2
    rw [h2] at HFV

    clear h2
    go_wp2_with fail
    refine (HFV.out _ HW8.out).mono ?_
    rintro e w9 ⟨rfl, hb9⟩
    have HW9 := hide (HW8.out.trans (hb9.mono HW8.out.size))
    obtain ⟨hy0, hy1, hy2⟩ := HBOX.out _ HW9.out
    have HE := hide (HEND.out _ HW9.out)
    clear hb9 hx0 hx1 hx2
    rcases vc with _ | _
    · have hok : ok = false := HOK.out.symm.trans (ap_no5 HBO.out)
      subst hok
      go_wp2
      go_ret
      exact ⟨rfl, HE.out⟩
    by_cases y0 : z < 0
    · have hok : ok = false := HOK.out.symm.trans (ap_no3 (by simp [inB]; omega))
      subst hok
      have y0' : decide (z ≥ 0) = false := by simpa using y0
      go_wp2
      go_ret
      exact ⟨rfl, HE.out⟩
    have y0' : decide (z ≥ 0) = true := by simpa using y0
    by_cases y1 : z < 4
    case neg =>
      have hok : ok = false := HOK.out.symm.trans (ap_no3 (by simp [inB]; omega))
      subst hok
      have y1' : decide (z < 4) = false := by simpa using y1
      go_wp2
      go_ret
      exact ⟨rfl, HE.out⟩
    by_cases y2 : a + 4 + (fn : Int) ≤ 64
    · have hok : ok = true := HOK.out.symm.trans (ap_yes H1.out H2.out (inB_true (by omega) (by omega)) (inB_true a0 (by rw [HLEN.out]; omega)) HBO.out).1
      subst hok
      go_wp2
      go_ret
      exact ⟨rfl, HE.out⟩
    · have hok : ok = false := HOK.out.symm.trans (ap_no4 (by have := HLEN.out; simp [inB]; omega))
      subst hok
      have y2' : decide (a + 4 + (fn : Int) ≤ 64) = false := by simpa using y2
      go_wp2
      go_ret
      exact ⟨rfl, HE.out⟩
  · have hk2' : (kd == 2) = false := by simpa using hk2
    have HK2 := hide hk2
    clear hk2
    go_wp2_with fail
    refine (HSM.out w4 (Below.refl _ _)).mono ?_
    rintro e w5 ⟨rfl, q5, rfl⟩
    have HB5 := hide (below_drewN (Below.refl w4.heap.size w4) q5)
    go_wp2_with fail
    refine (HGP.out _ HB5.out).mono ?_
    rintro e w6 ⟨A6, n6, c6, rfl, ho6, hb6⟩
    have HW6 := hide (HB5.out.trans (hb6.mono HB5.out.size))
    obtain ⟨ht0, ht1, ht2⟩ := HBOX.out _ HW6.out
    clear ho6 hb6
    rcases h1 : mpV ms with _ | _
    · have hok : ok = false := HOK.out.symm.trans (ap_no1 h1)
      subst hok
      rw [h1] at HMV
      clear h1
      go_wp2_with fail
      refine (HMV.out _ HW6.out).mono ?_
      rintro e w8 ⟨rfl, hb8⟩
      have HE := hide (HEND.out _ (HW6.out.trans (hb8.mono HW6.out.size)))
      clear hb8
      go_wp2
      go_ret
      exact ⟨rfl, HE.out⟩
    have H1 := hide h1
    rw [h1] at HMV
    clear h1
    go_wp2_with fail
    refine (HMV.out _ HW6.out).mono ?_
    rintro e w8 ⟨rfl, hb8⟩
    have HW8 := hide (HW6.out.trans (hb8.mono HW6.out.size))
    obtain ⟨hx0, hx1, hx2⟩ := HBOX.out _ HW8.out
    clear hb8
    rcases h2 : validF kd sq xs with _ | _
    · have hok : ok = false := HOK.out.symm.trans (ap_no2 h2)
      subst hok
      rw [h2] at HFV
      clear h2
      go_wp2_with fail
      refine (HFV.out _ HW8.out).mono ?_
      rintro e w9 ⟨rfl, hb9⟩
      have HE := hide (HEND.out _ (HW8.out.trans (hb9.mono HW8.out.size)))
      clear hb9
      go_wp2
      go_ret
      exact ⟨rfl, HE.out⟩
    have H2 := hide h2
    rw [h2] at HFV
    have hk1 : kd = 1 := by have h := (validF_iff.1 h2).1; have h3 := HK2.out; omega
    subst hk1
    rw [if_pos rfl] at HBO
    clear h2
    go_wp2_with fail
    refine (HFV.out _ HW8.out).mono ?_
    rintro e w9 ⟨rfl, hb9⟩
    have HW9 := hide (HW8.out.trans (hb9.mono HW8.out.size))
    obtain ⟨hy0, hy1, hy2⟩ := HBOX.out _ HW9.out
    have HE := hide (HEND.out _ HW9.out)
    clear hb9 hx0 hx1 hx2
    rcases vp with _ | _
    · have hok : ok = false := HOK.out.symm.trans (ap_no5 HBO.out)
      subst hok
      go_wp2
      go_ret
      exact ⟨rfl, HE.out⟩
    by_cases y0 : z < 0
    · have hok : ok = false := HOK.out.symm.trans (ap_no3 (by simp [inB]; omega))
      subst hok
      have y0' : decide (z ≥ 0) = false := by simpa using y0
      go_wp2
      go_ret
      exact ⟨rfl, HE.out⟩
    have y0' : decide (z ≥ 0) = true := by simpa using y0
    by_cases y1 : z < 4
    case neg =>
      have hok : ok = false := HOK.out.symm.trans (ap_no3 (by simp [inB]; omega))
      subst hok
      have y1' : decide (z < 4) = false := by simpa using y1
      go_wp2
      go_ret
      exact ⟨rfl, HE.out⟩
    by_cases y2 : a + 4 + (fn : Int) ≤ 64
    · have hok : ok = true := HOK.out.symm.trans (ap_yes H1.out H2.out (inB_true (by omega) (by omega)) (inB_true a0 (by rw [HLEN.out]; omega)) HBO.out).1
      subst hok
      go_wp2
      go_ret
      exact ⟨rfl, HE.out⟩
    · have hok : ok = false := HOK.out.symm.trans (ap_no4 (by have := HLEN.out; simp [inB]; omega))
      subst hok
      have y2' : decide (a + 4 + (fn : Int) ≤ 64) = false := by simpa using y2
      go_wp2
      go_ret
      exact ⟨rfl, HE.out⟩
end Go.Proofs.Ytgkjbickphdeoaa
