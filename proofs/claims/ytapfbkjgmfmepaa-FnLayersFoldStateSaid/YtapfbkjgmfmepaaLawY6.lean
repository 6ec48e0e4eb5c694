/-
  The walk of FnLayersFoldState.
-/
import Derived.Test.YtapfbkjgmfmepaaLawY5
import Derived.Test.YtapfbkjgmfmepaaImpL9
import Derived.Test.YtapfbkjgmfmepaaInts
namespace Go.Proofs.Ytapfbkjgmfmepaa
open Go.RowKit
set_option linter.unusedVariables false
set_option maxRecDepth 100000

theorem diffL_len (ls : List Ly) (a b : Int) : (dfL ls a b).length ≤ 12 := by
  unfold dfL
  split
  · exact diffN_le ls _ _ 12
  · exact Nat.zero_le _
theorem fo_diffs {ls : List Ly} {k a b : Nat} (h : foV ls (k : Int) = true) (hk : k + 2 ≤ ls.length) (hlv : laysV ls = true) (ha : a ≠ k + 1) (hb : b ≠ k + 1) (ha1 : a ≤ ls.length) (hb1 : b ≤ ls.length) :
    dfL (foL ls (k : Int)) (foS k a : Int) (foS k b : Int) = dfL ls (a : Int) (b : Int) := by
  obtain ⟨v1, v2⟩ := fo_valid h
  have fa : foS k a ≤ (foL ls (k : Int)).length := by unfold foS; split <;> omega
  have fb : foS k b ≤ (foL ls (k : Int)).length := by unfold foS; split <;> omega
  unfold dfL dfV
  rw [v1, hlv, inB_iff.2 ⟨by omega, by omega⟩, inB_iff.2 ⟨by omega, by omega⟩, inB_iff.2 ⟨by omega, by omega⟩, inB_iff.2 ⟨by omega, by omega⟩]
  simp only [Int.toNat_natCast, Bool.true_and, if_true]
  exact fo_diff h ha hb

set_option maxHeartbeats 12800000 in
theorem layersFoldState_walk (A : Option Addr) (n c : Nat) (bs : Nat → Int) (A' : Option Addr) (n' c' : Nat) (bs' : Nat → Int) (w : World) (hb : Bytes w w.heap.size A n bs) (hn : n ≤ c) (hc : c ≤ maxLen)
    (hb' : Bytes w w.heap.size A' n' bs') (hn1 : n' ≤ c') (hc1 : c' ≤ maxLen) :
    Calls Try.prog 8 #[.slice A n c, .slice A' n' c'] w fun e w' => e = .returned (.bool true) ∧ Below w.heap.size w w' := by
  have hn' : n' ≤ 9223372036854775807 := by unfold maxLen at hc1; omega
  clear hc1 hb'
  by_cases hbig : 1048576 < n
  · go_enter Try.func8, Try.ntmps8
    go_wp2
    go_ret
    exact ⟨rfl, Below.refl _ _⟩
  by_cases hbig' : 1048576 < n'
  · go_enter Try.func8, Try.ntmps8
    go_wp2
    go_ret
    exact ⟨rfl, Below.refl _ _⟩
  · go_enter Try.func8, Try.ntmps8
    go_wp2_with fail
    refine (drawLyF_any A n c bs _ hb hn hc).mono ?_
    rintro e w1 ⟨A1, m, c1, qs, b, rfl, hd⟩
    have HD := hide hd
    have hm := hd.num
    have hl := hd.lyi.1
    have hs1 := hd.below.size
    have HP1 := hide (implFold A1 m c1 _ qs b w1 hd.lyi (Nat.le_refl _) (big_qs hd.len) (by omega))
    have HP2 := hide fun (W : World) (h : Below w1.heap.size w1 W) => specFold A1 m c1 _ qs b W (hd.lyi.below h (Nat.le_refl _)) h.size (big_qs hd.len) (by omega) hd.nc hd.cm
    clear hb hd
    obtain ⟨r1, r0⟩ := fo_result (lys qs) b
    obtain ⟨V, hV⟩ : ∃ V : Bool, foV (lys qs) b = V := ⟨_, rfl⟩
    obtain ⟨L, hL⟩ : ∃ L : List Ly, foL (lys qs) b = L := ⟨_, rfl⟩
    rw [hV, hL] at HP1 HP2
    rw [hV, hL] at r1 r0
    have HV := hide hV
    have HL := hide hL
    have HLEN := hide (lens_of r1 r0)
    have HLC := hide (lens_count r1 r0)
    have HLV := hide r1
    clear hV hL r1 r0
    go_wp2_with fail
    refine HP1.out.mono ?_
    rintro e w2 ⟨A2, m2, c2, qs2, rfl, ho2, he2, hB2⟩
    have HO2 := hide ho2
    have HE2 := hide he2
    have HW2 := hide hB2
    clear ho2 he2 hB2 HP1
    go_wp2_with fail
    refine (HP2.out _ HW2.out).mono ?_
    rintro e w3 ⟨A3, m3, c3, qs3, rfl, ho3, he3, hB3⟩
    have HW3 := hide (HW2.out.trans (hB3.mono HW2.out.size))
    have HPR := hide (pair_sameY HO2.out ho3 HE2.out he3 HLEN.out hB3 HLC.out)
    have HX2 := hide (HO2.out.lyi.below hB3 (Nat.le_refl _))
    have hs23 := hB3.size
    obtain rfl : m3 = m2 := HPR.out.1
    have HM2 := hide HPR.out.2.1
    have hm25 : m3 ≤ 5 := by have h1 := HLC.out; have h2 := HM2.out; omega
    clear ho3 he3 hB3 HP2
    rcases V with _ | _
    all_goals
      go_wp2_with fail
      refine (HPR.out.2.2 _ (Below.refl _ _)).mono ?_
      rintro e w4 ⟨rfl, hB4⟩
      have HW4 := hide (HW3.out.trans (hB4.mono HW3.out.size))
      have HW34 := hide hB4
      have HX4 := hide (HX2.out.below hB4 hs23)
      have hs4 := hB4.size
      have hs14 := HW4.out.size
      have HEND := hide fun (W : World) (h : Below w4.heap.size w4 W) => HD.out.below.trans ((HW4.out.trans (h.mono HW4.out.size)).mono hs1)
      have hs24 : w2.heap.size ≤ w4.heap.size := Nat.le_trans hs23 hs4
      clear hB4
      have HI4 := hide (HD.out.lyi.below HW4.out (Nat.le_refl _))
    · go_wp2_with fail
      refine (HPR.out.2.2 _ HW34.out).mono ?_
      rintro e w5 ⟨rfl, hB5⟩
      have HB5 := hide (HEND.out _ hB5)
      clear hB5
      go_wp2
      go_ret
      exact ⟨rfl, HB5.out⟩
    · obtain ⟨v1, v2⟩ := fo_valid HV.out
      obtain ⟨kb, hkb, hk2, hk5, hlv, _⟩ := fo_parts HV.out
      subst hkb
      have hll : (lys qs).length = m := by rw [lys_length, hl]
      have hml : m3 + 1 = m := by rw [HM2.out, ← HL.out, v2, hll]
      rw [hll] at hk2 hk5
      obtain ⟨a, ha⟩ : ∃ a, n' % (m + 1) = a := ⟨_, rfl⟩
      obtain ⟨b, hb⟩ : ∃ b, n' / 7 % (m + 1) = b := ⟨_, rfl⟩
      have ham : a < m + 1 := by rw [← ha]; exact Nat.mod_lt _ (by omega)
      have hbm : b < m + 1 := by rw [← hb]; exact Nat.mod_lt _ (by omega)
      have e1 : (n' : Int) % ((m : Int) + 1) = (a : Int) := by rw [← ha]; rfl
      have e2 : (n' : Int) / 7 % ((m : Int) + 1) = (b : Int) := by rw [← hb]; rfl
      have e3 : ((n' : Int)).tmod ((m : Int) + 1) = (a : Int) := by rw [← ha]; rfl
      have wm : IntKind.i64.wrap ((m : Int) + 1) = (m : Int) + 1 := IntWalk.i64_in _ (by omega)
      have wk : IntKind.i64.wrap ((kb : Int) + 1) = (kb : Int) + 1 := IntWalk.i64_in _ (by omega)
      have wa : IntKind.i64.wrap ((a : Int) - 1) = (a : Int) - 1 := IntWalk.i64_in _ (by omega)
      have wb : IntKind.i64.wrap ((b : Int) - 1) = (b : Int) - 1 := IntWalk.i64_in _ (by omega)
      have hmz : ((m : Int) + 1 == 0) = false := by simp; omega
      have HX9 := hide (HX4.out)
      have HDX := hide fun (W : World) (h : Below w4.heap.size w4 W) (x y : Int) => implDiff A2 m3 c2 _ qs2 x y W (HX4.out.below h hs24) (Nat.le_trans hs24 h.size) (big_qs (lens_qs HE2.out HLEN.out)) (by omega)
      have HDY := hide fun (W : World) (h : Below w4.heap.size w4 W) => implDiff A1 m c1 _ qs (a : Int) (b : Int) W (HI4.out.below h hs14) (Nat.le_trans hs14 h.size) (big_qs HD.out.len) (by omega)
      have HFO := hide fun (h1 : a ≠ kb + 1) (h2 : b ≠ kb + 1) => (show dfL (lys qs2) (foS kb a : Int) (foS kb b : Int) = dfL (lys qs) (a : Int) (b : Int) from by
        rw [HE2.out, ← HL.out]
        exact fo_diffs HV.out (by rw [hll]; exact hk2) hlv h1 h2 (by rw [hll]; omega) (by rw [hll]; omega))
      clear v1 v2 hll hml hlv hk5 ha hb
      by_cases ha9 : a = kb + 1
      · have hx : ((a : Int) == (kb : Int) + 1) = true := by rw [ha9]; simp
        clear ha9
        go_wp2
        go_ret
        exact ⟨rfl, HEND.out _ (Below.refl _ _)⟩
      have hx : ((a : Int) == (kb : Int) + 1) = false := by simp; omega
      by_cases hb9 : b = kb + 1
      · have hy : ((b : Int) == (kb : Int) + 1) = true := by rw [hb9]; simp
        clear hb9
        go_wp2
        go_ret
        exact ⟨rfl, HEND.out _ (Below.refl _ _)⟩
      have hy : ((b : Int) == (kb : Int) + 1) = false := by simp; omega
      have HFF := hide (HFO.out ha9 hb9)
      have HDL := hide (diffL_len (lys qs) (a : Int) (b : Int))
      obtain ⟨D, hD⟩ : ∃ D, dfL (lys qs) (a : Int) (b : Int) = D := ⟨_, rfl⟩
      have HD2 := HDY
      rw [hD] at HD2 HFF HDL
      clear hD HFO HDY ha9 hb9
      by_cases ka : kb < a
      · have fa : (foS kb a : Int) = (a : Int) - 1 := by unfold foS; rw [if_pos ka]; omega
        rw [fa] at HFF
        have ka' : (kb : Int) < (a : Int) := by omega
        clear fa
        by_cases kc : kb < b
        · have fb : (foS kb b : Int) = (b : Int) - 1 := by unfold foS; rw [if_pos kc]; omega
          rw [fb] at HFF
          have HD1 := hide (HDX.out w4 (Below.refl _ _) ((a : Int) - 1) ((b : Int) - 1))
          rw [HFF.out] at HD1
          have kc' : (kb : Int) < (b : Int) := by omega
          clear fb HDX ka kc
          go_wp2_with fail
          refine HD1.out.mono ?_
          rintro e w5 ⟨A5, m5, c5, rfl, ho5, hB5⟩
          have HW5 := hide hB5
          have HO5 := hide ho5
          clear ho5 hB5
          go_wp2_with fail
          refine (HD2.out _ HW5.out).mono ?_
          rintro e w6 ⟨A6, m6, c6, rfl, ho6, hB6⟩
          have HW6 := hide (HW5.out.trans (hB6.mono HW5.out.size))
          have hm6 : m6 = m5 := by rw [← HO5.out.1, ← ho6.1]
          subst hm6
          have hm12 : m6 ≤ 12 := by have h1 := ho6.1; have h2 := HDL.out; omega
          have HSI := hide (sameInts_yes A5 A6 m6 c5 m6 c6 _ _ D D w6 (HO5.out.ints.below hB6 (Nat.le_refl _)) ho6.ints (by unfold maxLen; omega) (by unfold maxLen; omega) rfl)
          clear ho6 hB6
          go_wp2_with fail
          refine HSI.out.mono ?_
          rintro e w7 ⟨rfl, z7, rfl⟩
          go_wp2
          go_ret
          exact ⟨rfl, HEND.out _ (below_drewN HW6.out z7)⟩
        · have fb : (foS kb b : Int) = (b : Int) := by unfold foS; rw [if_neg kc]
          rw [fb] at HFF
          have HD1 := hide (HDX.out w4 (Below.refl _ _) ((a : Int) - 1) (b : Int))
          rw [HFF.out] at HD1
          have kc' : (b : Int) ≤ (kb : Int) := by omega
          clear fb HDX ka kc
          go_wp2_with fail
          refine HD1.out.mono ?_
          rintro e w5 ⟨A5, m5, c5, rfl, ho5, hB5⟩
          have HW5 := hide hB5
          have HO5 := hide ho5
          clear ho5 hB5
          go_wp2_with fail
          refine (HD2.out _ HW5.out).mono ?_
          rintro e w6 ⟨A6, m6, c6, rfl, ho6, hB6⟩
          have HW6 := hide (HW5.out.trans (hB6.mono HW5.out.size))
          have hm6 : m6 = m5 := by rw [← HO5.out.1, ← ho6.1]
          subst hm6
          have hm12 : m6 ≤ 12 := by have h1 := ho6.1; have h2 := HDL.out; omega
          have HSI := hide (sameInts_yes A5 A6 m6 c5 m6 c6 _ _ D D w6 (HO5.out.ints.below hB6 (Nat.le_refl _)) ho6.ints (by unfold maxLen; omega) (by unfold maxLen; omega) rfl)
          clear ho6 hB6
          go_wp2_with fail
          refine HSI.out.mono ?_
          rintro e w7 ⟨rfl, z7, rfl⟩
          go_wp2
          go_ret
          exact ⟨rfl, HEND.out _ (below_drewN HW6.out z7)⟩
      · have fa : (foS kb a : Int) = (a : Int) := by unfold foS; rw [if_neg ka]
        rw [fa] at HFF
        have ka' : (a : Int) ≤ (kb : Int) := by omega
        clear fa
        by_cases kc : kb < b
        · have fb : (foS kb b : Int) = (b : Int) - 1 := by unfold foS; rw [if_pos kc]; omega
          rw [fb] at HFF
          have HD1 := hide (HDX.out w4 (Below.refl _ _) (a : Int) ((b : Int) - 1))
          rw [HFF.out] at HD1
          have kc' : (kb : Int) < (b : Int) := by omega
          clear fb HDX ka kc
          go_wp2_with fail
          refine HD1.out.mono ?_
          rintro e w5 ⟨A5, m5, c5, rfl, ho5, hB5⟩
          have HW5 := hide hB5
          have HO5 := hide ho5
          clear ho5 hB5
          go_wp2_with fail
          refine (HD2.out _ HW5.out).mono ?_
          rintro e w6 ⟨A6, m6, c6, rfl, ho6, hB6⟩
          have HW6 := hide (HW5.out.trans (hB6.mono HW5.out.size))
          have hm6 : m6 = m5 := by rw [← HO5.out.1, ← ho6.1]
          subst hm6
          have hm12 : m6 ≤ 12 := by have h1 := ho6.1; have h2 := HDL.out; omega
          have HSI := hide (sameInts_yes A5 A6 m6 c5 m6 c6 _ _ D D w6 (HO5.out.ints.below hB6 (Nat.le_refl _)) ho6.ints (by unfold maxLen; omega) (by unfold maxLen; omega) rfl)
          clear ho6 hB6
          go_wp2_with fail
          refine HSI.out.mono ?_
          rintro e w7 ⟨rfl, z7, rfl⟩
          go_wp2
          go_ret
          exact ⟨rfl, HEND.out _ (below_drewN HW6.out z7)⟩
        · have fb : (foS kb b : Int) = (b : Int) := by unfold foS; rw [if_neg kc]
          rw [fb] at HFF
          have HD1 := hide (HDX.out w4 (Below.refl _ _) (a : Int) (b : Int))
          rw [HFF.out] at HD1
          have kc' : (b : Int) ≤ (kb : Int) := by omega
          clear fb HDX ka kc
          go_wp2_with fail
          refine HD1.out.mono ?_
          rintro e w5 ⟨A5, m5, c5, rfl, ho5, hB5⟩
          have HW5 := hide hB5
          have HO5 := hide ho5
          clear ho5 hB5
          go_wp2_with fail
          refine (HD2.out _ HW5.out).mono ?_
          rintro e w6 ⟨A6, m6, c6, rfl, ho6, hB6⟩
          have HW6 := hide (HW5.out.trans (hB6.mono HW5.out.size))
          have hm6 : m6 = m5 := by rw [← HO5.out.1, ← ho6.1]
          subst hm6
          have hm12 : m6 ≤ 12 := by have h1 := ho6.1; have h2 := HDL.out; omega
          have HSI := hide (sameInts_yes A5 A6 m6 c5 m6 c6 _ _ D D w6 (HO5.out.ints.below hB6 (Nat.le_refl _)) ho6.ints (by unfold maxLen; omega) (by unfold maxLen; omega) rfl)
          clear ho6 hB6
          go_wp2_with fail
          refine HSI.out.mono ?_
          rintro e w7 ⟨rfl, z7, rfl⟩
          go_wp2
          go_ret
          exact ⟨rfl, HEND.out _ (below_drewN HW6.out z7)⟩
end Go.Proofs.Ytapfbkjgmfmepaa
