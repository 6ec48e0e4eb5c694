/-
  The walk of FnApply.
-/
import Derived.Test.YtgkjbickphdeoaaApplyM
namespace Go.Proofs.Ytgkjbickphdeoaa
open Go.RowKit
set_option linter.unusedVariables false
set_option maxRecDepth 100000

set_option maxHeartbeats 12800000 in
theorem apply_walk (A : Option Addr) (n c : Nat) (bs : Nat → Int) (w : World) (hb : Bytes w w.heap.size A n bs) (hn : n ≤ c) (hc : c ≤ maxLen) :
    Calls Try.prog 3 #[.slice A n c] w fun e w' => e = .returned (.bool true) ∧ Below w.heap.size w w' := by
  by_cases hbig : 1048576 < n
  · go_enter Try.func3, Try.ntmps3
    go_wp2
    go_ret
    exact ⟨rfl, Below.refl _ _⟩
  go_enter Try.func3, Try.ntmps3
  go_wp2_with fail
  refine (drawMA_any A n c bs _ hb hn hc).mono ?_
  rintro e w1 ⟨A1, m, c1, ms, kd, sq, F, fn, fc, xs, z, a, rfl, hd⟩
  obtain ⟨W2, hW2⟩ : ∃ W2, w1.alloc (.cells #[.int .i64 kd, .int .i64 sq, .slice F fn fc] 26) = W2 := ⟨_, rfl⟩
  have HS := hide (apStart hd hW2)
  have hm := hd.dm.num
  have hmc := hd.dm.nc
  have hfn := hd.fnum
  have hfnc := hd.fnc
  have hfcm : fc ≤ 9223372036854775807 := by have := hd.fcm; unfold maxLen at this; omega
  obtain ⟨z0, z1⟩ := hd.z0
  obtain ⟨a0, a1⟩ := hd.a0
  obtain ⟨hq0, hq1, hq2⟩ := HS.out.box W2 (Below.refl _ _)
  obtain ⟨ok, hok⟩ : ∃ ok, apOk ms kd sq xs z a = ok := ⟨_, rfl⟩
  obtain ⟨rs, hrs⟩ : ∃ rs, apM ms kd sq xs z a = rs := ⟨_, rfl⟩
  have HOK := hide hok
  have HRS := hide hrs
  have HRL := hide (show rs.length ≤ 12 by rw [← hrs]; exact apM_le _ _ _ _ _ _)
  have HP1 := hide (implMA A1 F m c1 fn fc _ _ ms kd sq z a xs W2 (HS.out.mpi W2 (Below.refl _ _)) (HS.out.bod W2 (Below.refl _ _)) (HS.out.siz W2 (Below.refl _ _)) (HS.out.siz W2 (Below.refl _ _)) (by omega) (by omega) hfnc hfcm)
  have HP2 := hide fun (W : World) (h : Below W2.heap.size W2 W) => specMA A1 F m c1 fn fc _ _ ms kd sq z a xs W (HS.out.mpi W h) (HS.out.bod W h) (HS.out.siz W h) (HS.out.siz W h) (by omega) (by omega)
  rw [hok, hrs] at HP1 HP2
  clear hb hd hok hrs
  go_wp2_with fail
  refine HP1.out.mono ?_
  rintro e w3 ⟨A2, m2, c2, rfl, ho2, hb2⟩
  have HO2 := hide ho2
  have HW3 := hide hb2
  have hm2 : m2 ≤ 12 := by rw [← ho2.1]; exact HRL.out
  obtain ⟨hr0, hr1, hr2⟩ := HS.out.box w3 hb2
  clear ho2 hb2 HP1 hq0 hq1 hq2
  go_wp2_with fail
  refine (HP2.out _ HW3.out).mono ?_
  rintro e w4 ⟨A3, m3, c3, rfl, ho3, hb3⟩
  obtain rfl : m3 = m2 := ho3.1.symm.trans HO2.out.1
  have HW4 := hide (HW3.out.trans (hb3.mono HW3.out.size))
  obtain ⟨hs0, hs1, hs2⟩ := HS.out.box w4 HW4.out
  have HX2 := hide (HO2.out.mpi.below hb3 (Nat.le_refl _))
  have HX3 := hide ho3.mpi
  have HS34 := hide hb3.size
  have HML := hide ho3.1
  have HCAP := hide HO2.out.cap
  have HSM := hide fun (W : World) (h : Below w4.heap.size w4 W) => sameMap_yes A2 A3 m3 c2 c3 _ _ rs W (HX2.out.below h HS34.out) (HX3.out.below h (Nat.le_refl _)) (by omega)
  have HM4 := hide fun (W : World) (h : Below w4.heap.size w4 W) => HS.out.mpi W (HW4.out.trans (h.mono HW4.out.size))
  have HF4 := hide fun (W : World) (h : Below w4.heap.size w4 W) => HS.out.bod W (HW4.out.trans (h.mono HW4.out.size))
  have HZ4 := hide fun (W : World) (h : Below w4.heap.size w4 W) => HS.out.siz W (HW4.out.trans (h.mono HW4.out.size))
  have HEND := hide fun (W : World) (h : Below w4.heap.size w4 W) => HS.out.fin W (HW4.out.trans (h.mono HW4.out.size))
  have HBOX := hide fun (W : World) (h : Below w4.heap.size w4 W) => HS.out.box W (HW4.out.trans (h.mono HW4.out.size))
  clear ho3 hb3 HP2 HO2 hr0 hr1 hr2
  rcases ok with _ | _
  · go_wp2_with fail
    refine (HSM.out w4 (Below.refl _ _)).mono ?_
    rintro e w5 ⟨rfl, q5, rfl⟩
    have HB5 := hide (below_drewN (Below.refl w4.heap.size w4) q5)
    go_wp2_with fail
    refine (HSM.out _ HB5.out).mono ?_
    rintro e w6 ⟨rfl, q6, rfl⟩
    have HE := hide (HEND.out _ (below_drewN HB5.out q6))
    have HE2 := hide (HEND.out _ (below_drewN (Below.refl w4.heap.size w4) (q5 + q6)))
    go_wp2
    go_ret
    exact ⟨rfl, by first | exact HE.out | exact HE2.out⟩
  have hm12 : m3 = 12 := HML.out.symm.trans (by rw [← HRS.out]; exact apM_len HOK.out)
  subst hm12
  have HTW := hide (apM_twice HOK.out)
  have HIA := hide fun (W : World) (h : Below w4.heap.size w4 W) => implMA A2 F 12 c2 fn fc _ _ rs kd sq z a xs W (HX2.out.below h HS34.out) (HF4.out W h) (Nat.le_trans HS34.out h.size) (HZ4.out W h) (by omega) (by omega) hfnc hfcm
  rw [← HRS.out] at HIA
  rw [HTW.out.1, HTW.out.2] at HIA
  rw [HRS.out] at HIA
  have HVV := hide (show mpV rs = true by rw [← HRS.out]; exact apM_valid HOK.out)
  have HMVC := hide fun (W : World) (h : Below w4.heap.size w4 W) => implMV A2 12 c2 _ rs W (HX2.out.below h HS34.out) (Nat.le_trans HS34.out h.size) (by omega)
  rw [HVV.out] at HMVC
  go_wp2_with fail
  refine (HSM.out w4 (Below.refl _ _)).mono ?_
  rintro e w5 ⟨rfl, q5, rfl⟩
  have HB5 := hide (below_drewN (Below.refl w4.heap.size w4) q5)
  go_wp2_with fail
  refine (HIA.out _ HB5.out).mono ?_
  rintro e w6 ⟨A6, m6, c6, rfl, ho6, hb6⟩
  obtain rfl : m6 = 12 := ho6.1.symm.trans HML.out
  have HW6 := hide (HB5.out.trans (hb6.mono HB5.out.size))
  have HX6 := hide ho6.mpi
  clear ho6 hb6
  go_wp2_with fail
  refine (sameMap_yes A6 A2 12 c6 c2 _ _ rs w6 HX6.out (HX2.out.below HW6.out HS34.out) (by omega)).mono ?_
  rintro e w7 ⟨rfl, q7, rfl⟩
  go_wp2_with fail
  refine (HMVC.out _ (below_drewN HW6.out q7)).mono ?_
  rintro e w8 ⟨rfl, hb8⟩
  have HE := hide (HEND.out _ ((below_drewN HW6.out q7).trans (hb8.mono (show w4.heap.size ≤ (w6.drewN q7).heap.size from HW6.out.size))))
  clear hb8
  go_wp2
  go_ret
  exact ⟨rfl, HE.out⟩
end Go.Proofs.Ytgkjbickphdeoaa
