/-
  The walk of FnHeatUseBad.
-/
import Derived.Test.YtnkflcibbhoedaaLawH0
namespace Go.Proofs.Ytnkflcibbhoedaa
open Go.RowKit
set_option linter.unusedVariables false
set_option maxRecDepth 100000

set_option maxHeartbeats 6400000 in
theorem heatUseBad_walk (A : Option Addr) (n c : Nat) (bs : Nat → Int) (w : World) (hb : Bytes w w.heap.size A n bs) (hn : n ≤ c) (hc : c ≤ maxLen) :
    Calls Try.prog 4 #[.slice A n c] w fun e w' => e = .returned (.bool true) ∧ Below w.heap.size w w' := by
  by_cases hbig : 1048576 < n
  · go_enter Try.func4, Try.ntmps4
    go_wp2
    go_ret
    exact ⟨rfl, Below.refl _ _⟩
  · go_enter Try.func4, Try.ntmps4
    go_wp2_with fail
    refine (drawHU_any A n c bs _ hb hn hc).mono ?_
    rintro e w1 ⟨A1, m, c1, h, b, rfl, hb0, hb1, hd⟩
    have HB1 := hide hd.below
    have HI := hide hd.ints
    have hm := hd.num
    have hs1 := hd.below.size
    have HP1 := hide (implHU A1 m c1 _ h b w1 hd.ints (Nat.le_refl _) (by omega))
    have HP2 := hide fun (W : World) (hB : Below w1.heap.size w1 W) => specHU A1 m c1 _ h b W (hd.ints.below hB (Nat.le_refl _)) hB.size (by omega)
    have HP3 := hide fun (W : World) (hB : Below w1.heap.size w1 W) => implHV A1 m c1 _ h W (hd.ints.below hB (Nat.le_refl _)) (by omega)
    obtain ⟨L, hL⟩ : ∃ L, useS h b = L := ⟨_, rfl⟩
    obtain ⟨v, hv⟩ : ∃ v, useV h b = v := ⟨_, rfl⟩
    rw [hL, hv] at HP1 HP2
    have HL := hide hL
    have HV := hide hv
    have HL12 := hide (show L.length ≤ 12 by rw [← hL]; exact useS_le h b)
    clear hb hd hL hv
    go_wp2_with fail
    refine HP1.out.mono ?_
    rintro e w2 ⟨A2, m2, c2, rfl, ho2, hb2⟩
    have HO2 := hide ho2.ints
    have HW2 := hide hb2
    have hm2 : m2 ≤ 12 := by rw [← ho2.1]; exact HL12.out
    have HL2 := hide ho2.1
    clear ho2 hb2 HP1
    go_wp2_with fail
    refine (HP2.out _ HW2.out).mono ?_
    rintro e w3 ⟨A3, m3, c3, rfl, ho3, hb3⟩
    obtain rfl : m3 = m2 := ho3.1.symm.trans HL2.out
    have HW3 := hide (HW2.out.trans (hb3.mono HW2.out.size))
    have HX2 := hide (HO2.out.below hb3 (Nat.le_refl _))
    have HX3 := hide ho3.ints
    have HS23 := hide hb3.size
    have HS := hide fun (q : Nat) => sameInts_yes A2 A3 m3 c2 m3 c3 _ _ L L (w3.drewN q) (HX2.out.drewN q) (HX3.out.drewN q) (by unfold maxLen; omega) (by unfold maxLen; omega) rfl
    have HEND := hide fun (q : Nat) => HB1.out.trans ((below_drewN HW3.out q).mono hs1)
    have HD3 := hide fun (q : Nat) => below_drewN HW3.out q
    have HI3 := hide fun (q : Nat) => (HI.out.below HW3.out (Nat.le_refl _)).drewN q
    have HF := hide fun (q : Nat) => HP3.out (w3.drewN q) (below_drewN HW3.out q)
    clear ho3 hb3 HP2 HO2
    have hv := HV.out
    unfold useV at hv
    have HW : Hid (v = (hV h && (decide (0 ≤ b) && decide (b ≤ 11)))) := hv.symm
    clear hv HP3
    rcases h1 : hV h with _ | _
    · rw [h1] at HF HW
      rw [Bool.false_and] at HW
      have hv := HW.out
      subst hv
      clear h1 HW
      go_wp2_with fail
      refine (HS.out 0).mono ?_
      rintro e w4 ⟨rfl, q4, rfl⟩
      rw [drewN0]
      go_wp2_with fail
      refine (HF.out q4).mono ?_
      rintro e w5 ⟨rfl, rfl⟩
      go_wp2
      go_ret
      exact ⟨rfl, HEND.out _⟩
    · rw [h1] at HF HW
      rw [Bool.true_and] at HW
      clear h1
      by_cases h2 : b < 0
      · have hv : v = false := by rw [HW.out, decide_eq_false (p := 0 ≤ b) (by omega)]; rfl
        subst hv
        have d1 : decide (b ≥ 0) = false := by simp; omega
        have d2 : ¬ (0 ≤ b) := by omega
        clear HW
        go_wp2_with fail
        refine (HS.out 0).mono ?_
        rintro e w4 ⟨rfl, q4, rfl⟩
        rw [drewN0]
        go_wp2_with fail
        refine (HF.out q4).mono ?_
        rintro e w5 ⟨rfl, rfl⟩
        go_wp2
        go_ret
        exact ⟨rfl, HEND.out _⟩
      · by_cases h3 : b ≤ 11
        · have hv : v = true := by rw [HW.out, decide_eq_true (by omega), decide_eq_true h3]; rfl
          subst hv
          have d2 : 0 ≤ b := by omega
          have d3 : b < 12 := by omega
          clear HW
          go_wp2_with fail
          refine (HS.out 0).mono ?_
          rintro e w4 ⟨rfl, q4, rfl⟩
          rw [drewN0]
          go_wp2_with fail
          refine (HF.out q4).mono ?_
          rintro e w5 ⟨rfl, rfl⟩
          go_wp2
          go_ret
          exact ⟨rfl, HEND.out _⟩
        · have hv : v = false := by rw [HW.out, decide_eq_false h3, Bool.and_false]
          subst hv
          have d2 : 0 ≤ b := by omega
          have d3 : ¬ b < 12 := by omega
          have d4 : decide (b < 12) = false := decide_eq_false (by omega)
          clear HW
          go_wp2_with fail
          refine (HS.out 0).mono ?_
          rintro e w4 ⟨rfl, q4, rfl⟩
          rw [drewN0]
          go_wp2_with fail
          refine (HF.out q4).mono ?_
          rintro e w5 ⟨rfl, rfl⟩
          go_wp2
          go_ret
          exact ⟨rfl, HEND.out _⟩
end Go.Proofs.Ytnkflcibbhoedaa
