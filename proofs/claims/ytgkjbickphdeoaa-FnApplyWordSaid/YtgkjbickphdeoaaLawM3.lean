/-
  The walk of FnApplyWord.
-/
import Derived.Test.YtgkjbickphdeoaaApplyM
namespace Go.Proofs.Ytgkjbickphdeoaa
open Go.RowKit
set_option linter.unusedVariables false
set_option maxRecDepth 100000

set_option maxHeartbeats 12800000 in
theorem applyWord_walk (A : Option Addr) (n c : Nat) (bs : Nat → Int) (w : World) (hb : Bytes w w.heap.size A n bs) (hn : n ≤ c) (hc : c ≤ maxLen) :
    Calls Try.prog 5 #[.slice A n c] w fun e w' => e = .returned (.bool true) ∧ Below w.heap.size w w' := by
  by_cases hbig : 1048576 < n
  · go_enter Try.func5, Try.ntmps5
    go_wp2
    go_ret
    exact ⟨rfl, Below.refl _ _⟩
  go_enter Try.func5, Try.ntmps5
  go_wp2_with fail
  refine (drawMA_any A n c bs _ hb hn hc).mono ?_
  rintro e w1 ⟨A1, m, c1, ms, kd, sq, F, fn, fc, xs, z, a, rfl, hd⟩
  obtain ⟨W2, hW2⟩ : ∃ W2, w1.alloc (.cells #[.int .i64 kd, .int .i64 sq, .slice F fn fc] 26) = W2 := ⟨_, rfl⟩
  have HS := hide (apStart hd hW2)
  have hm := hd.dm.num
  have hmc := hd.dm.nc
  have hfn := hd.fnum
  have hfnc := hd.fnc
  have hfcm : fc ≤ 9223372036854775807 := by have := hd.fcm; unfold maxLen at this; omega
  obtain ⟨z0, z1⟩ := hd.z0
  obtain ⟨a0, a1⟩ := hd.a0
  obtain ⟨hq0, hq1, hq2⟩ := HS.out.box W2 (Below.refl _ _)
  obtain ⟨ok, hok⟩ : ∃ ok, apOk ms kd sq xs z a = ok := ⟨_, rfl⟩
  obtain ⟨rs, hrs⟩ : ∃ rs, apM ms kd sq xs z a = rs := ⟨_, rfl⟩
  have HOK := hide hok
  have HRS := hide hrs
  have HRL := hide (show rs.length ≤ 12 by rw [← hrs]; exact apM_le _ _ _ _ _ _)
  have HP1 := hide (implMA A1 F m c1 fn fc _ _ ms kd sq z a xs W2 (HS.out.mpi W2 (Below.refl _ _)) (HS.out.bod W2 (Below.refl _ _)) (HS.out.siz W2 (Below.refl _ _)) (HS.out.siz W2 (Below.refl _ _)) (by omega) (by omega) hfnc hfcm)
  have HP2 := hide fun (W : World) (h : Below W2.heap.size W2 W) => specMA A1 F m c1 fn fc _ _ ms kd sq z a xs W (HS.out.mpi W h) (HS.out.bod W h) (HS.out.siz W h) (HS.out.siz W h) (by omega) (by omega)
  rw [hok, hrs] at HP1 HP2
  clear hb hd hok hrs
  go_wp2_with fail
  refine HP1.out.mono ?_
  rintro e w3 ⟨A2, m2, c2, rfl, ho2, hb2⟩
  have HO2 := hide ho2
  have HW3 := hide hb2
  have hm2 : m2 ≤ 12 := by rw [← ho2.1]; exact HRL.out
  obtain ⟨hr0, hr1, hr2⟩ := HS.out.box w3 hb2
  clear ho2 hb2 HP1 hq0 hq1 hq2
  go_wp2_with fail
  refine (HP2.out _ HW3.out).mono ?_
  rintro e w4 ⟨A3, m3, c3, rfl, ho3, hb3⟩
  obtain rfl : m3 = m2 := ho3.1.symm.trans HO2.out.1
  have HW4 := hide (HW3.out.trans (hb3.mono HW3.out.size))
  obtain ⟨hs0, hs1, hs2⟩ := HS.out.box w4 HW4.out
  have HX2 := hide (HO2.out.mpi.below hb3 (Nat.le_refl _))
  have HX3 := hide ho3.mpi
  have HS34 := hide hb3.size
  have HML := hide ho3.1
  have HCAP := hide HO2.out.cap
  have HSM := hide fun (W : World) (h : Below w4.heap.size w4 W) => sameMap_yes A2 A3 m3 c2 c3 _ _ rs W (HX2.out.below h HS34.out) (HX3.out.below h (Nat.le_refl _)) (by omega)
  have HM4 := hide fun (W : World) (h : Below w4.heap.size w4 W) => HS.out.mpi W (HW4.out.trans (h.mono HW4.out.size))
  have HF4 := hide fun (W : World) (h : Below w4.heap.size w4 W) => HS.out.bod W (HW4.out.trans (h.mono HW4.out.size))
  have HZ4 := hide fun (W : World) (h : Below w4.heap.size w4 W) => HS.out.siz W (HW4.out.trans (h.mono HW4.out.size))
  have HEND := hide fun (W : World) (h : Below w4.heap.size w4 W) => HS.out.fin W (HW4.out.trans (h.mono HW4.out.size))
  have HBOX := hide fun (W : World) (h : Below w4.heap.size w4 W) => HS.out.box W (HW4.out.trans (h.mono HW4.out.size))
  clear ho3 hb3 HP2 HO2 hr0 hr1 hr2
  rcases ok with _ | _
  · go_wp2_with fail
    refine (HSM.out w4 (Below.refl _ _)).mono ?_
    rintro e w5 ⟨rfl, q5, rfl⟩
    have HB5 := hide (below_drewN (Below.refl w4.heap.size w4) q5)
    go_wp2_with fail
    refine (HSM.out _ HB5.out).mono ?_
    rintro e w6 ⟨rfl, q6, rfl⟩
    have HE := hide (HEND.out _ (below_drewN HB5.out q6))
    have HE2 := hide (HEND.out _ (below_drewN (Below.refl w4.heap.size w4) (q5 + q6)))
    go_wp2
    go_ret
    exact ⟨rfl, by first | exact HE.out | exact HE2.out⟩
  have hm12 : m3 = 12 := HML.out.symm.trans (by rw [← HRS.out]; exact apM_len HOK.out)
  subst hm12
  by_cases hk : kd = 1
  case neg =>
    have hk' : (kd != 1) = true := by simpa using hk
    go_wp2_with fail
    refine (HSM.out w4 (Below.refl _ _)).mono ?_
    rintro e w5 ⟨rfl, q5, rfl⟩
    have HB5 := hide (below_drewN (Below.refl w4.heap.size w4) q5)
    go_wp2_with fail
    refine (HSM.out _ HB5.out).mono ?_
    rintro e w6 ⟨rfl, q6, rfl⟩
    have HE := hide (HEND.out _ (below_drewN HB5.out q6))
    have HE2 := hide (HEND.out _ (below_drewN (Below.refl w4.heap.size w4) (q5 + q6)))
    go_wp2
    go_ret
    exact ⟨rfl, by first | exact HE.out | exact HE2.out⟩
  have HK := hide hk
  subst hk
  have HRI := hide (apI_hot HOK.out)
  have HOKP := hide (okP_of HOK.out (HF4.out w4 (Below.refl _ _)).1)
  have HG := hide fun (W : World) (h : Below w4.heap.size w4 W) => implGetP F fn fc _ xs W (HF4.out W h) (HZ4.out W h) (by omega) hfnc hfcm
  rw [HOKP.out] at HG
  have HWD := hide fun (W : World) (h : Below w4.heap.size w4 W) => implPut 1 sq F fn fc _ xs W (HF4.out W h) (HZ4.out W h) (by unfold maxLen; omega)
  go_wp2_with fail
  refine (HSM.out w4 (Below.refl _ _)).mono ?_
  rintro e w5 ⟨rfl, q5, rfl⟩
  have HB5 := hide (below_drewN (Below.refl w4.heap.size w4) q5)
  obtain ⟨ht0, ht1, ht2⟩ := HBOX.out _ HB5.out
  go_wp2_with fail
  refine (HWD.out _ HB5.out).mono ?_
  rintro e w9 ⟨A9, m9, c9, rfl, ho9, hb9⟩
  have HO9 := hide ho9.ints
  have HB9 := hide (HB5.out.trans (hb9.mono HB5.out.size))
  have HPL := hide (put_len (apOk_iff.1 HOK.out).fr)
  have HL9 := hide ho9.1
  obtain ⟨hu0, hu1, hu2⟩ := HBOX.out _ HB9.out
  clear ho9 hb9 ht0 ht1 ht2
  go_wp2_with fail
  refine (HG.out _ HB9.out).mono ?_
  rintro e w6 ⟨A6, N, c6, rfl, ho6, hb6⟩
  rw [if_pos rfl] at ho6
  have HO6 := hide ho6.ints
  have HW6 := hide (HB9.out.trans (hb6.mono HB9.out.size))
  have HNN : Hid (xs.length / 2 = N) := by show _ = _; rw [show xs.length = N * 2 from ho6.1]; omega
  have hN : N ≤ 18 := by have h1 := ho6.1; have h2 := (HF4.out w4 (Below.refl _ _)).1; have h3 := (validF_iff.1 (apOk_iff.1 HOK.out).fr).2.2.1; omega
  have HX6 := hide (HX2.out.below HW6.out HS34.out)
  have HS36 := hide (Nat.le_trans HS34.out HW6.out.size)
  have HEND6 := hide fun (W : World) (h : Below w6.heap.size w6 W) => HEND.out W (HW6.out.trans (h.mono HW6.out.size))
  have hb69 : Below w9.heap.size w9 w6 := hb6
  have hxl : xs.length = N * 2 := ho6.1
  clear ho6 hb6 HG
  have HO96 := hide (HO9.out.below (show Below w9.heap.size w9 w6 from hb69) (Nat.le_refl _))
  have HS96 := hide hb69.size
  have HL9X := hide (show m9 = 4 + xs.length by rw [← HL9.out]; exact HPL.out)
  have HLX := hide hxl
  have hm9 : m9 ≤ 100 := by have h1 := HL9X.out; have h2 := HLX.out; omega
  clear hb69 hxl
  go_wp2
  go_loopw [14] (fun i wr => ∃ k : Nat, k ≤ N ∧ i = .int .i64 k ∧ Hid (Below w6.heap.size w6 wr)) (fun i _ => N - (intOf i).toNat)
  case atStart => exact ⟨0, Nat.zero_le _, rfl, Below.refl _ _⟩
  case round =>
    obtain ⟨k, hk, rfl, HBW⟩ := hrel
    by_cases hlt : k < N
    · have k0 : (0 : Int) ≤ (k : Int) := by omega
      have k1 : (k : Int) < (N : Int) := by omega
      have hlt2 : k < xs.length / 2 := by rw [HNN.out]; exact hlt
      have hb := HRI.out.blk k hlt2
      have hlo := HRI.out.low k hlt2
      have hfl := fldP_iff (HRI.out.fld k hlt2)
      obtain ⟨v, hv⟩ : ∃ v, xs.getD (k * 2 + 1) 0 = v := ⟨_, rfl⟩
      rw [hv] at hfl
      have hat := hot_at HOK.out hlt2
      rw [HRS.out] at hat
      obtain ⟨J, hJ⟩ : ∃ J, blkAt 2 xs k = J := ⟨_, rfl⟩
      rw [hJ] at hat
      have hx0 : xs.getD (k * 2) 0 = (J : Int) := by rw [← hJ]; unfold blkAt; omega
      have j0 : (0 : Int) ≤ (J : Int) := by omega
      have j1 : (J : Int) < 12 := by omega
      have hwc := (HO96.out.below HBW.out HS96.out)
      obtain ⟨t1, t2, t3, he⟩ : ∃ t1 t2 t3, hotE z a xs k = (t1, t2, t3, 0, 0) := by
        unfold hotE
        split
        · exact ⟨_, _, _, rfl⟩
        · exact ⟨_, _, _, rfl⟩
      have HEE := hide he
      rw [he] at hat
      obtain ⟨ad2, p2, rfl, hp2, hpb2, g0, g1, g2, g3, g4⟩ := (HX6.out.below HBW.out HS36.out).at_ hat
      dsimp only at g0 g1 g2 g3 g4
      obtain ⟨ad0, p0, hA6, hp0, _, hl0, hl1⟩ := ints_at2 (HO6.out.below HBW.out (Nat.le_refl _)) hlt
      subst hA6
      rw [hx0] at hl0
      obtain ⟨WA, hWA⟩ : ∃ WA, wr.alloc (.cells #[.int .i64 t1, .int .i64 t2, .int .i64 t3, .int .i64 0, .int .i64 0] 38) = WA := ⟨_, rfl⟩
      have hbkA : Blk WA wr.heap.size 38 #[.int .i64 t1, .int .i64 t2, .int .i64 t3, .int .i64 0, .int .i64 0] := by rw [← hWA]; exact Blk.new wr _ _
      have HBA := hide (show Below w6.heap.size w6 WA by rw [← hWA]; exact HBW.out.alloc HBW.out.size _)
      have HWS := hide HBW.out.size
      obtain ⟨WB, hWB⟩ : ∃ WB, (WA.setCell ⟨wr.heap.size, 3, none⟩ (.int .i64 0)).setCell ⟨wr.heap.size, 4, none⟩ (.int .i64 0) = WB := ⟨_, rfl⟩
      have hbk : Blk WB wr.heap.size 38 #[.int .i64 t1, .int .i64 t2, .int .i64 t3, .int .i64 0, .int .i64 0] := by
        have h := (hbkA.set_ 3 (.int .i64 0)).set_ 4 (.int .i64 0)
        rw [hWB] at h
        simpa using h
      have HBB := hide (HBA.out.grown (show WA.grownBy WB (some wr.heap.size) by rw [← hWB]; exact set_grown (set_grown (grown_refl WA _) 3 _) 4 _) HBA.out.size (by intro q hq; injection hq with hq; have := HWS.out; omega))
      have fz3 := hbkA.frozen 3
      have fz4 := (hbkA.set_ 3 (.int .i64 0)).frozen 4
      have c3' : WA.cell? ⟨wr.heap.size, 3, none⟩ = some (.int .i64 0) := by rw [hbkA.cell]; rfl
      have c4' : (WA.setCell ⟨wr.heap.size, 3, none⟩ (.int .i64 0)).cell? ⟨wr.heap.size, 4, none⟩ = some (.int .i64 0) := by rw [(hbkA.set_ 3 (.int .i64 0)).cell]; rfl
      clear hbkA HBA
      obtain ⟨ad, p, e9, hp, hpb, hc0, hc1⟩ := ints_at2 (HO6.out.below HBB.out (Nat.le_refl _)) hlt
      cases e9
      obtain rfl := hp0.symm.trans hp
      rw [hx0] at hc0
      rw [hv] at hc1
      have e0 : WB.cell? ⟨wr.heap.size, 0, none⟩ = some (.int .i64 t1) := by rw [hbk.cell]; rfl
      have e2 : WB.cell? ⟨wr.heap.size, 2, none⟩ = some (.int .i64 t3) := by rw [hbk.cell]; rfl
      by_cases hv0 : 0 < v
      · have het : t1 = 1 ∧ t3 = a + 4 + 2 * (k : Int) := by
          have h := HEE.out
          unfold hotE at h
          rw [hv, if_pos hv0] at h
          injection h with h1 h2
          injection h2 with h2 h3
          injection h3 with h3 h4
          exact ⟨h1.symm, h3.symm⟩
        obtain ⟨rfl, ht3⟩ := het
        obtain ⟨Q, hQ⟩ : ∃ Q : Nat, 4 + 2 * k = Q := ⟨_, rfl⟩
        have hQm : Q < m9 := by have h1 := HL9X.out; have h2 := HLX.out; omega
        obtain ⟨ad7, hA9, _, hw7⟩ := (HO96.out.below HBB.out HS96.out).at_ hQm
        subst hA9
        have hwv : (putF 1 sq xs).getD Q 0 = v := by rw [← hQ, put_word (apOk_iff.1 HOK.out).fr (by have h2 := HLX.out; omega)]; exact hv
        rw [hwv] at hw7
        have hTa : decide (t3 < a) = false := by simp; omega
        have hTs : t3 - a = (Q : Int) := by omega
        have wT : IntKind.i64.wrap (t3 - a) = (Q : Int) := by rw [hTs]; exact IntWalk.i64_in _ (by omega)
        have wQ : IntKind.i64.wrap (Q : Int) = (Q : Int) := IntWalk.i64_in _ (by omega)
        have q0 : (0 : Int) ≤ (Q : Int) := by omega
        have q1 : (Q : Int) < (m9 : Int) := by omega
        have q2 : decide ((Q : Int) ≥ (m9 : Int)) = false := by simp; omega
        have q3 : decide (m9 ≤ Q) = false := by simp; omega
        clear hb hlo hfl hv hat hJ hx0 he hbk hlt2 hwc ht3 hQ hwv hp0
        go_wp2_with fail
        go_quiet (fail)
        go_wp2
        go_roundw
        case rel => exact ⟨k + 1, by omega, by go_num, below_drewN HBB.out _⟩
        case measure => simp [intOf]; omega
      · have het : t1 = 0 := by
          have h := HEE.out
          unfold hotE at h
          rw [hv, if_neg hv0] at h
          injection h with h1 h2
          exact h1.symm
        subst het
        clear hb hlo hfl hv hat hJ hx0 he hbk hlt2 hwc hp0
        go_wp2_with fail
        go_quiet (fail)
        go_wp2
        go_roundw
        case rel => exact ⟨k + 1, by omega, by go_num, below_drewN HBB.out _⟩
        case measure => simp [intOf]; omega
    · have HE := hide (HEND6.out _ HBW.out)
      obtain rfl : k = N := by omega
      go_wp2
      go_ret
      exact ⟨rfl, HE.out⟩
end Go.Proofs.Ytgkjbickphdeoaa
