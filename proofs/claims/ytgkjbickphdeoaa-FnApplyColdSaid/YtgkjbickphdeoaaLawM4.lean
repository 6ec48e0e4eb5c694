/-
  The walk of FnApplyCold.
-/
import Derived.Test.YtgkjbickphdeoaaApplyM
namespace Go.Proofs.Ytgkjbickphdeoaa
open Go.RowKit
set_option linter.unusedVariables false
set_option maxRecDepth 100000

set_option maxHeartbeats 12800000 in
theorem applyCold_walk (A : Option Addr) (n c : Nat) (bs : Nat → Int) (w : World) (hb : Bytes w w.heap.size A n bs) (hn : n ≤ c) (hc : c ≤ maxLen) :
    Calls Try.prog 6 #[.slice A n c] w fun e w' => e = .returned (.bool true) ∧ Below w.heap.size w w' := by
  by_cases hbig : 1048576 < n
  · go_enter Try.func6, Try.ntmps6
    go_wp2
    go_ret
    exact ⟨rfl, Below.refl _ _⟩
  go_enter Try.func6, Try.ntmps6
  go_wp2_with fail
  refine (drawMA_any A n c bs _ hb hn hc).mono ?_
  rintro e w1 ⟨A1, m, c1, ms, kd, sq, F, fn, fc, xs, z, a, rfl, hd⟩
  obtain ⟨W2, hW2⟩ : ∃ W2, w1.alloc (.cells #[.int .i64 kd, .int .i64 sq, .slice F fn fc] 26) = W2 := ⟨_, rfl⟩
  have HS := hide (apStart hd hW2)
  have hm := hd.dm.num
  have hmc := hd.dm.nc
  have hfn := hd.fnum
  have hfnc := hd.fnc
  have hfcm : fc ≤ 9223372036854775807 := by have := hd.fcm; unfold maxLen at this; omega
  obtain ⟨z0, z1⟩ := hd.z0
  obtain ⟨a0, a1⟩ := hd.a0
  obtain ⟨hq0, hq1, hq2⟩ := HS.out.box W2 (Below.refl _ _)
  obtain ⟨ok, hok⟩ : ∃ ok, apOk ms kd sq xs z a = ok := ⟨_, rfl⟩
  obtain ⟨rs, hrs⟩ : ∃ rs, apM ms kd sq xs z a = rs := ⟨_, rfl⟩
  have HOK := hide hok
  have HRS := hide hrs
  have HRL := hide (show rs.length ≤ 12 by rw [← hrs]; exact apM_le _ _ _ _ _ _)
  have HP1 := hide (implMA A1 F m c1 fn fc _ _ ms kd sq z a xs W2 (HS.out.mpi W2 (Below.refl _ _)) (HS.out.bod W2 (Below.refl _ _)) (HS.out.siz W2 (Below.refl _ _)) (HS.out.siz W2 (Below.refl _ _)) (by omega) (by omega) hfnc hfcm)
  have HP2 := hide fun (W : World) (h : Below W2.heap.size W2 W) => specMA A1 F m c1 fn fc _ _ ms kd sq z a xs W (HS.out.mpi W h) (HS.out.bod W h) (HS.out.siz W h) (HS.out.siz W h) (by omega) (by omega)
  rw [hok, hrs] at HP1 HP2
  clear hb hd hok hrs
  go_wp2_with fail
  refine HP1.out.mono ?_
  rintro e w3 ⟨A2, m2, c2, rfl, ho2, hb2⟩
  have HO2 := hide ho2
  have HW3 := hide hb2
  have hm2 : m2 ≤ 12 := by rw [← ho2.1]; exact HRL.out
  obtain ⟨hr0, hr1, hr2⟩ := HS.out.box w3 hb2
  clear ho2 hb2 HP1 hq0 hq1 hq2
  go_wp2_with fail
  refine (HP2.out _ HW3.out).mono ?_
  rintro e w4 ⟨A3, m3, c3, rfl, ho3, hb3⟩
  obtain rfl : m3 = m2 := ho3.1.symm.trans HO2.out.1
  have HW4 := hide (HW3.out.trans (hb3.mono HW3.out.size))
  obtain ⟨hs0, hs1, hs2⟩ := HS.out.box w4 HW4.out
  have HX2 := hide (HO2.out.mpi.below hb3 (Nat.le_refl _))
  have HX3 := hide ho3.mpi
  have HS34 := hide hb3.size
  have HML := hide ho3.1
  have HCAP := hide HO2.out.cap
  have HSM := hide fun (W : World) (h : Below w4.heap.size w4 W) => sameMap_yes A2 A3 m3 c2 c3 _ _ rs W (HX2.out.below h HS34.out) (HX3.out.below h (Nat.le_refl _)) (by omega)
  have HM4 := hide fun (W : World) (h : Below w4.heap.size w4 W) => HS.out.mpi W (HW4.out.trans (h.mono HW4.out.size))
  have HF4 := hide fun (W : World) (h : Below w4.heap.size w4 W) => HS.out.bod W (HW4.out.trans (h.mono HW4.out.size))
  have HZ4 := hide fun (W : World) (h : Below w4.heap.size w4 W) => HS.out.siz W (HW4.out.trans (h.mono HW4.out.size))
  have HEND := hide fun (W : World) (h : Below w4.heap.size w4 W) => HS.out.fin W (HW4.out.trans (h.mono HW4.out.size))
  have HBOX := hide fun (W : World) (h : Below w4.heap.size w4 W) => HS.out.box W (HW4.out.trans (h.mono HW4.out.size))
  clear ho3 hb3 HP2 HO2 hr0 hr1 hr2
  rcases ok with _ | _
  · go_wp2_with fail
    refine (HSM.out w4 (Below.refl _ _)).mono ?_
    rintro e w5 ⟨rfl, q5, rfl⟩
    have HB5 := hide (below_drewN (Below.refl w4.heap.size w4) q5)
    go_wp2_with fail
    refine (HSM.out _ HB5.out).mono ?_
    rintro e w6 ⟨rfl, q6, rfl⟩
    have HE := hide (HEND.out _ (below_drewN HB5.out q6))
    have HE2 := hide (HEND.out _ (below_drewN (Below.refl w4.heap.size w4) (q5 + q6)))
    go_wp2
    go_ret
    exact ⟨rfl, by first | exact HE.out | exact HE2.out⟩
  have hm12 : m3 = 12 := HML.out.symm.trans (by rw [← HRS.out]; exact apM_len HOK.out)
  subst hm12
  by_cases hk : kd = 2
  case neg =>
    have hk' : (kd != 2) = true := by simpa using hk
    go_wp2_with fail
    refine (HSM.out w4 (Below.refl _ _)).mono ?_
    rintro e w5 ⟨rfl, q5, rfl⟩
    have HB5 := hide (below_drewN (Below.refl w4.heap.size w4) q5)
    go_wp2_with fail
    refine (HSM.out _ HB5.out).mono ?_
    rintro e w6 ⟨rfl, q6, rfl⟩
    have HE := hide (HEND.out _ (below_drewN HB5.out q6))
    have HE2 := hide (HEND.out _ (below_drewN (Below.refl w4.heap.size w4) (q5 + q6)))
    go_wp2
    go_ret
    exact ⟨rfl, by first | exact HE.out | exact HE2.out⟩
  have HK := hide hk
  subst hk
  have HRI := hide (apI_cold (by omega) HOK.out)
  have HOKP := hide (okC_of (by omega) HOK.out (HF4.out w4 (Below.refl _ _)).1)
  have HG := hide fun (W : World) (h : Below w4.heap.size w4 W) => implGetC F fn fc _ xs W (HF4.out W h) (HZ4.out W h) (by omega) hfnc hfcm
  rw [HOKP.out] at HG
  go_wp2_with fail
  refine (HSM.out w4 (Below.refl _ _)).mono ?_
  rintro e w5 ⟨rfl, q5, rfl⟩
  have HB5 := hide (below_drewN (Below.refl w4.heap.size w4) q5)
  go_wp2_with fail
  refine (HG.out _ HB5.out).mono ?_
  rintro e w6 ⟨A6, N, c6, rfl, ho6, hb6⟩
  rw [if_pos rfl] at ho6
  have HO6 := hide ho6.ints
  have HW6 := hide (HB5.out.trans (hb6.mono HB5.out.size))
  have HNN : Hid (xs.length / 3 = N) := by show _ = _; rw [show xs.length = N * 3 from ho6.1]; omega
  have hN : N ≤ 18 := by have h1 := ho6.1; have h2 := (HF4.out w4 (Below.refl _ _)).1; have h3 := (validF_iff.1 (apOk_iff.1 HOK.out).fr).2.2.1; omega
  have HX6 := hide (HX2.out.below HW6.out HS34.out)
  have HS36 := hide (Nat.le_trans HS34.out HW6.out.size)
  have HEND6 := hide fun (W : World) (h : Below w6.heap.size w6 W) => HEND.out W (HW6.out.trans (h.mono HW6.out.size))
  clear ho6 hb6 HG
  go_wp2
  go_loopw [13] (fun i wr => ∃ k : Nat, k ≤ N ∧ i = .int .i64 k ∧ Hid (Below w6.heap.size w6 wr)) (fun i _ => N - (intOf i).toNat)
  case atStart => exact ⟨0, Nat.zero_le _, rfl, Below.refl _ _⟩
  case round =>
    obtain ⟨k, hk, rfl, HBW⟩ := hrel
    by_cases hlt : k < N
    · have k0 : (0 : Int) ≤ (k : Int) := by omega
      have k1 : (k : Int) < (N : Int) := by omega
      have hlt2 : k < xs.length / 3 := by rw [HNN.out]; exact hlt
      have hb := HRI.out.blk k hlt2
      have hlo := HRI.out.low k hlt2
      have hat := cold_at (by omega) HOK.out hlt2
      rw [HRS.out] at hat
      obtain ⟨J, hJ⟩ : ∃ J, blkAt 3 xs k = J := ⟨_, rfl⟩
      rw [hJ] at hat
      have hx0 : xs.getD (k * 3) 0 = (J : Int) := by rw [← hJ]; unfold blkAt; omega
      obtain ⟨u, hu⟩ : ∃ u, xs.getD (k * 3 + 1) 0 = u := ⟨_, rfl⟩
      obtain ⟨v, hv⟩ : ∃ v, xs.getD (k * 3 + 2) 0 = v := ⟨_, rfl⟩
      have he : coldE z a xs k = (2, z, a + 3 + 3 * (k : Int), u, v) := by unfold coldE; rw [hu, hv]
      rw [he] at hat
      have j0 : (0 : Int) ≤ (J : Int) := by omega
      have j1 : (J : Int) < 12 := by omega
      have wa : IntKind.i64.wrap (a + 3) = a + 3 := IntWalk.i64_in _ (by omega)
      have wk : IntKind.i64.wrap (3 * (k : Int)) = 3 * (k : Int) := IntWalk.i64_in _ (by omega)
      have ws : IntKind.i64.wrap (a + 3 + 3 * (k : Int)) = a + 3 + 3 * (k : Int) := IntWalk.i64_in _ (by omega)
      obtain ⟨ad, p, rfl, hp, hpb, hc0, hc1, hc2⟩ := ints_at3 (HO6.out.below HBW.out (Nat.le_refl _)) hlt
      rw [hx0] at hc0
      rw [hu] at hc1
      rw [hv] at hc2
      obtain ⟨ad2, p2, rfl, hp2, hpb2, g0, g1, g2, g3, g4⟩ := (HX6.out.below HBW.out HS36.out).at_ hat
      dsimp only at g0 g1 g2 g3 g4
      clear hb hlo hu hv hat hJ hx0 he hlt2
      go_wp2_with fail
      go_quiet (fail)
      go_wp2
      go_roundw
      case rel => exact ⟨k + 1, by omega, by go_num, below_drewN HBW.out _⟩
      case measure => simp [intOf]; omega
    · have HE := hide (HEND6.out _ HBW.out)
      obtain rfl : k = N := by omega
      go_wp2
      go_ret
      exact ⟨rfl, HE.out⟩
end Go.Proofs.Ytgkjbickphdeoaa
