/-
  The walk of FnHeatDecayEnd.
-/
import Derived.Test.YtnkflcibbhoedaaLawH0
namespace Go.Proofs.Ytnkflcibbhoedaa
open Go.RowKit
set_option linter.unusedVariables false
set_option maxRecDepth 100000

set_option maxHeartbeats 6400000 in
theorem heatDecayEnd_walk (A : Option Addr) (n c : Nat) (bs : Nat → Int) (w : World) (hb : Bytes w w.heap.size A n bs) (hn : n ≤ c) (hc : c ≤ maxLen) :
    Calls Try.prog 6 #[.slice A n c] w fun e w' => e = .returned (.bool true) ∧ Below w.heap.size w w' := by
  by_cases hbig : 1048576 < n
  · go_enter Try.func6, Try.ntmps6
    go_wp2
    go_ret
    exact ⟨rfl, Below.refl _ _⟩
  · go_enter Try.func6, Try.ntmps6
    go_wp2_with fail
    refine (drawHD_any A n c bs _ hb hn hc).mono ?_
    rintro e w1 ⟨A1, m, c1, h, rfl, hd⟩
    have HB1 := hide hd.below
    have HI := hide hd.ints
    have hm := hd.num
    have hs1 := hd.below.size
    have HP1 := hide (implHD A1 m c1 _ h w1 hd.ints (Nat.le_refl _) (by omega))
    have HP2 := hide fun (W : World) (hB : Below w1.heap.size w1 W) => specHD A1 m c1 _ h W (hd.ints.below hB (Nat.le_refl _)) hB.size (by omega)
    have HP3 := hide fun (W : World) (hB : Below w1.heap.size w1 W) => specHV A1 m c1 _ h W (hd.ints.below hB (Nat.le_refl _)) (by omega)
    obtain ⟨L, hL⟩ : ∃ L, decS h = L := ⟨_, rfl⟩
    rw [hL] at HP1 HP2
    have HL := hide hL
    have HL12 := hide (show L.length ≤ 12 by rw [← hL]; exact decS_le h)
    clear hb hd hL
    go_wp2_with fail
    refine HP1.out.mono ?_
    rintro e w2 ⟨A2, m2, c2, rfl, ho2, hb2⟩
    have HO2 := hide ho2.ints
    have HW2 := hide hb2
    have hm2 : m2 ≤ 12 := by rw [← ho2.1]; exact HL12.out
    have HL2 := hide ho2.1
    clear ho2 hb2 HP1
    go_wp2_with fail
    refine (HP2.out _ HW2.out).mono ?_
    rintro e w3 ⟨A3, m3, c3, rfl, ho3, hb3⟩
    obtain rfl : m3 = m2 := ho3.1.symm.trans HL2.out
    have HW3 := hide (HW2.out.trans (hb3.mono HW2.out.size))
    have HX2 := hide (HO2.out.below hb3 (Nat.le_refl _))
    have HX3 := hide ho3.ints
    have HS23 := hide hb3.size
    have HS := hide fun (q : Nat) => sameInts_yes A2 A3 m3 c2 m3 c3 _ _ L L (w3.drewN q) (HX2.out.drewN q) (HX3.out.drewN q) (by unfold maxLen; omega) (by unfold maxLen; omega) rfl
    have HEND := hide fun (q : Nat) => HB1.out.trans ((below_drewN HW3.out q).mono hs1)
    have HD3 := hide fun (q : Nat) => below_drewN HW3.out q
    have HI3 := hide fun (q : Nat) => (HI.out.below HW3.out (Nat.le_refl _)).drewN q
    have HF := hide fun (q : Nat) => HP3.out (w3.drewN q) (below_drewN HW3.out q)
    clear ho3 hb3 HP2 HO2
    clear HP3
    rcases hv : hV h with _ | _
    · rw [hv] at HF
      clear hv
      go_wp2_with fail
      refine (HS.out 0).mono ?_
      rintro e w4 ⟨rfl, q4, rfl⟩
      rw [drewN0]
      go_wp2_with fail
      refine (HF.out q4).mono ?_
      rintro e w5 ⟨rfl, rfl⟩
      go_wp2_with fail
      refine (HS.out q4).mono ?_
      rintro e w5 ⟨rfl, q5, rfl⟩
      rw [World.drewN_drewN]
      go_wp2
      go_ret
      exact ⟨rfl, HEND.out _⟩
    · rw [hv] at HF
      have hL := HL.out
      rw [decS_yes hv] at hL
      have hlen := hV_len hv
      obtain rfl : m = 12 := HI.out.1.symm.trans hlen
      obtain rfl : m3 = 12 := by rw [← HL2.out, ← hL, decH_length]; exact hlen
      have HVV := hide hv
      have HLD := hide (show L = decN 1 h from hL.symm)
      clear hv hL hlen
      go_wp2_with fail
      refine (HS.out 0).mono ?_
      rintro e w4 ⟨rfl, q4, rfl⟩
      rw [drewN0]
      go_wp2_with fail
      refine (HF.out q4).mono ?_
      rintro e w5 ⟨rfl, rfl⟩
      go_wp2
      go_loopw [6, 7] (fun x i wr => ∃ (k cx : Nat) (Ax : Option Addr), k ≤ 6 ∧ i = .int .i64 k ∧ x = .slice Ax 12 cx ∧ Hid (Ints wr wr.heap.size Ax 12 (decN (k + 1) h)) ∧ Hid (Below w.heap.size w wr)) (fun _ i _ => 6 - (intOf i).toNat)
      case atStart => exact ⟨0, _, _, by omega, rfl, rfl, by have := HX2.out.drewN q4; rw [HLD.out] at this; exact this.more HS23.out, HEND.out _⟩
      case round =>
        obtain ⟨k, cx, Ax, hk, rfl, rfl, HXX, HB⟩ := hrel
        by_cases hlt : k < 6
        · have k1 : (k : Int) < 6 := by omega
          have HC := hide (implHD Ax 12 cx _ (decN (k + 1) h) wr HXX.out (Nat.le_refl _) (by omega))
          rw [decS_yes (decN_valid HVV.out _)] at HC
          go_wp2_with fail
          refine HC.out.mono ?_
          rintro e w6 ⟨A6, n6, c6, rfl, ho6, hb6⟩
          obtain rfl : n6 = 12 := by rw [← ho6.1, decH_length]; exact hV_len (decN_valid HVV.out _)
          have HX6 := hide ho6.ints
          have HB6 := hide (HB.out.trans (hb6.mono HB.out.size))
          clear ho6 hb6 HC
          go_wp2
          go_roundw
          case rel => exact ⟨k + 1, _, _, by omega, by go_num, rfl, HX6.out, HB6.out⟩
          case measure => simp [intOf]; omega
        · obtain rfl : k = 6 := by omega
          have HZ := hide fun (i : Nat) (hi : i < 12) => dec7 HVV.out hi
          go_wp2
          go_loopw [8] (fun i wz => ∃ j : Nat, j ≤ 12 ∧ i = .int .i64 j ∧ wr = wz) (fun i _ => 12 - (intOf i).toNat)
          case atStart => exact ⟨0, by omega, rfl, rfl⟩
          case round =>
            obtain ⟨j, hj, rfl, rfl⟩ := hrel
            by_cases hlt2 : j < 12
            · obtain ⟨ad, rfl, _, hc1⟩ := HXX.out.at_ hlt2
              rw [HZ.out j hlt2] at hc1
              have j1 : (j : Int) < 12 := by omega
              go_wp2
              go_roundw
              case rel => exact ⟨j + 1, by omega, by go_num, by first | rfl | trivial⟩
              case measure => simp [intOf]; omega
            · obtain rfl : j = 12 := by omega
              go_wp2
              go_ret
              exact ⟨rfl, HB.out⟩
end Go.Proofs.Ytnkflcibbhoedaa
