/-
  The walk of FnHeatUse.
-/
import Derived.Test.YtnkflcibbhoedaaLawH0
namespace Go.Proofs.Ytnkflcibbhoedaa
open Go.RowKit
set_option linter.unusedVariables false
set_option maxRecDepth 100000

set_option maxHeartbeats 6400000 in
theorem heatUse_walk (A : Option Addr) (n c : Nat) (bs : Nat → Int) (w : World) (hb : Bytes w w.heap.size A n bs) (hn : n ≤ c) (hc : c ≤ maxLen) :
    Calls Try.prog 3 #[.slice A n c] w fun e w' => e = .returned (.bool true) ∧ Below w.heap.size w w' := by
  by_cases hbig : 1048576 < n
  · go_enter Try.func3, Try.ntmps3
    go_wp2
    go_ret
    exact ⟨rfl, Below.refl _ _⟩
  · go_enter Try.func3, Try.ntmps3
    go_wp2_with fail
    refine (drawHU_any A n c bs _ hb hn hc).mono ?_
    rintro e w1 ⟨A1, m, c1, h, b, rfl, hb0, hb1, hd⟩
    have HB1 := hide hd.below
    have HI := hide hd.ints
    have hm := hd.num
    have hs1 := hd.below.size
    have HP1 := hide (implHU A1 m c1 _ h b w1 hd.ints (Nat.le_refl _) (by omega))
    have HP2 := hide fun (W : World) (hB : Below w1.heap.size w1 W) => specHU A1 m c1 _ h b W (hd.ints.below hB (Nat.le_refl _)) hB.size (by omega)
    have HP3 := hide fun (W : World) (hB : Below w1.heap.size w1 W) => implHV A1 m c1 _ h W (hd.ints.below hB (Nat.le_refl _)) (by omega)
    obtain ⟨L, hL⟩ : ∃ L, useS h b = L := ⟨_, rfl⟩
    obtain ⟨v, hv⟩ : ∃ v, useV h b = v := ⟨_, rfl⟩
    rw [hL, hv] at HP1 HP2
    have HL := hide hL
    have HV := hide hv
    have HL12 := hide (show L.length ≤ 12 by rw [← hL]; exact useS_le h b)
    clear hb hd hL hv
    go_wp2_with fail
    refine HP1.out.mono ?_
    rintro e w2 ⟨A2, m2, c2, rfl, ho2, hb2⟩
    have HO2 := hide ho2.ints
    have HW2 := hide hb2
    have hm2 : m2 ≤ 12 := by rw [← ho2.1]; exact HL12.out
    have HL2 := hide ho2.1
    clear ho2 hb2 HP1
    go_wp2_with fail
    refine (HP2.out _ HW2.out).mono ?_
    rintro e w3 ⟨A3, m3, c3, rfl, ho3, hb3⟩
    obtain rfl : m3 = m2 := ho3.1.symm.trans HL2.out
    have HW3 := hide (HW2.out.trans (hb3.mono HW2.out.size))
    have HX2 := hide (HO2.out.below hb3 (Nat.le_refl _))
    have HX3 := hide ho3.ints
    have HS23 := hide hb3.size
    have HS := hide fun (q : Nat) => sameInts_yes A2 A3 m3 c2 m3 c3 _ _ L L (w3.drewN q) (HX2.out.drewN q) (HX3.out.drewN q) (by unfold maxLen; omega) (by unfold maxLen; omega) rfl
    have HEND := hide fun (q : Nat) => HB1.out.trans ((below_drewN HW3.out q).mono hs1)
    have HD3 := hide fun (q : Nat) => below_drewN HW3.out q
    have HI3 := hide fun (q : Nat) => (HI.out.below HW3.out (Nat.le_refl _)).drewN q
    clear ho3 hb3 HP2 HO2
    rcases v with _ | _
    · go_wp2_with fail
      refine (HS.out 0).mono ?_
      rintro e w4 ⟨rfl, q4, rfl⟩
      rw [drewN0]
      go_wp2_with fail
      refine (HS.out q4).mono ?_
      rintro e w5 ⟨rfl, q5, rfl⟩
      rw [World.drewN_drewN]
      go_wp2
      go_ret
      exact ⟨rfl, HEND.out _⟩
    · have hv := HV.out
      have hL := HL.out
      unfold useV at hv
      rw [Bool.and_eq_true] at hv
      have hin := inB_iff.1 hv.2
      have hlen := hV_len hv.1
      obtain rfl : m = 12 := HI.out.1.symm.trans hlen
      obtain ⟨bn, rfl⟩ := Int.eq_ofNat_of_zero_le hin.1
      unfold useS at hL
      rw [if_pos HV.out, Int.toNat_natCast] at hL
      have hbn : bn < 12 := by omega
      obtain rfl : m3 = 12 := by rw [← HL2.out, ← hL, useH_length]; exact hlen
      have HG := hide fun (k : Nat) (hk : k < 12) => useH_getD h bn k (by rw [hlen]; exact hk)
      rw [hL] at HG
      have HVL := hide (show hV L = true by rw [← hL]; exact useH_valid hv.1 hbn)
      have HRG := hide fun (k : Nat) (hk : k < 12) => hV_at hv.1 hk
      clear hv hL hin hlen
      go_wp2_with fail
      refine (HS.out 0).mono ?_
      rintro e w4 ⟨rfl, q4, rfl⟩
      rw [drewN0]
      go_wp2
      go_loopw [9] (fun i wr => ∃ k : Nat, k ≤ 12 ∧ i = .int .i64 k ∧ w3.drewN q4 = wr) (fun i _ => 12 - (intOf i).toNat)
      case atStart => exact ⟨0, by omega, rfl, rfl⟩
      case round =>
        obtain ⟨k, hk, rfl, rfl⟩ := hrel
        by_cases hlt : k < 12
        · obtain ⟨ad, rfl, _, hc1⟩ := (HI3.out q4).at_ hlt
          obtain ⟨ad2, rfl, _, hc2⟩ := (HX2.out.drewN q4).at_ hlt
          rw [HG.out k hlt] at hc2
          have hr := HRG.out k hlt
          generalize h.getD k 0 = x at hc1 hc2 hr
          have wx : IntKind.i64.wrap (x + 10) = x + 10 := IntWalk.i64_in _ (by omega)
          have k1 : (k : Int) < 12 := by omega
          by_cases he : k = bn
          · subst he
            rw [if_pos rfl] at hc2
            by_cases hx : x + 10 ≤ 100
            · rw [show min (x + 10) 100 = x + 10 by omega] at hc2
              generalize w3.drewN q4 = wz at hc1 hc2 ⊢
              go_wp2
              go_roundw
              case rel => exact ⟨k + 1, by omega, by go_num, by first | rfl | trivial⟩
              case measure => simp [intOf]; omega
            · rw [show min (x + 10) 100 = 100 by omega] at hc2
              generalize w3.drewN q4 = wz at hc1 hc2 ⊢
              go_wp2
              go_roundw
              case rel => exact ⟨k + 1, by omega, by go_num, by first | rfl | trivial⟩
              case measure => simp [intOf]; omega
          · rw [if_neg he] at hc2
            have he' : ((k : Int) == (bn : Int)) = false := by simp; omega
            generalize w3.drewN q4 = wz at hc1 hc2 ⊢
            go_wp2
            go_roundw
            case rel => exact ⟨k + 1, by omega, by go_num, by first | rfl | trivial⟩
            case measure => simp [intOf]; omega
        · obtain rfl : k = 12 := by omega
          have HF := hide (implHV A2 12 c2 _ L _ (HX2.out.drewN q4) (by omega))
          rw [HVL.out] at HF
          have HE := hide (HEND.out q4)
          clear hk hlt
          go_wp2_with fail
          refine HF.out.mono ?_
          rintro e w6 ⟨rfl, rfl⟩
          go_wp2
          go_ret
          exact ⟨rfl, HE.out⟩
end Go.Proofs.Ytnkflcibbhoedaa
