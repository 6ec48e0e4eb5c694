/-
  The walk of FnHeatDecay.
-/
import Derived.Test.YtnkflcibbhoedaaLawH0
namespace Go.Proofs.Ytnkflcibbhoedaa
open Go.RowKit
set_option linter.unusedVariables false
set_option maxRecDepth 100000

set_option maxHeartbeats 6400000 in
theorem heatDecay_walk (A : Option Addr) (n c : Nat) (bs : Nat → Int) (w : World) (hb : Bytes w w.heap.size A n bs) (hn : n ≤ c) (hc : c ≤ maxLen) :
    Calls Try.prog 5 #[.slice A n c] w fun e w' => e = .returned (.bool true) ∧ Below w.heap.size w w' := by
  by_cases hbig : 1048576 < n
  · go_enter Try.func5, Try.ntmps5
    go_wp2
    go_ret
    exact ⟨rfl, Below.refl _ _⟩
  · go_enter Try.func5, Try.ntmps5
    go_wp2_with fail
    refine (drawHD_any A n c bs _ hb hn hc).mono ?_
    rintro e w1 ⟨A1, m, c1, h, rfl, hd⟩
    have HB1 := hide hd.below
    have HI := hide hd.ints
    have hm := hd.num
    have hs1 := hd.below.size
    have HP1 := hide (implHD A1 m c1 _ h w1 hd.ints (Nat.le_refl _) (by omega))
    have HP2 := hide fun (W : World) (hB : Below w1.heap.size w1 W) => specHD A1 m c1 _ h W (hd.ints.below hB (Nat.le_refl _)) hB.size (by omega)
    have HP3 := hide fun (W : World) (hB : Below w1.heap.size w1 W) => specHV A1 m c1 _ h W (hd.ints.below hB (Nat.le_refl _)) (by omega)
    obtain ⟨L, hL⟩ : ∃ L, decS h = L := ⟨_, rfl⟩
    rw [hL] at HP1 HP2
    have HL := hide hL
    have HL12 := hide (show L.length ≤ 12 by rw [← hL]; exact decS_le h)
    clear hb hd hL
    go_wp2_with fail
    refine HP1.out.mono ?_
    rintro e w2 ⟨A2, m2, c2, rfl, ho2, hb2⟩
    have HO2 := hide ho2.ints
    have HW2 := hide hb2
    have hm2 : m2 ≤ 12 := by rw [← ho2.1]; exact HL12.out
    have HL2 := hide ho2.1
    clear ho2 hb2 HP1
    go_wp2_with fail
    refine (HP2.out _ HW2.out).mono ?_
    rintro e w3 ⟨A3, m3, c3, rfl, ho3, hb3⟩
    obtain rfl : m3 = m2 := ho3.1.symm.trans HL2.out
    have HW3 := hide (HW2.out.trans (hb3.mono HW2.out.size))
    have HX2 := hide (HO2.out.below hb3 (Nat.le_refl _))
    have HX3 := hide ho3.ints
    have HS23 := hide hb3.size
    have HS := hide fun (q : Nat) => sameInts_yes A2 A3 m3 c2 m3 c3 _ _ L L (w3.drewN q) (HX2.out.drewN q) (HX3.out.drewN q) (by unfold maxLen; omega) (by unfold maxLen; omega) rfl
    have HEND := hide fun (q : Nat) => HB1.out.trans ((below_drewN HW3.out q).mono hs1)
    have HD3 := hide fun (q : Nat) => below_drewN HW3.out q
    have HI3 := hide fun (q : Nat) => (HI.out.below HW3.out (Nat.le_refl _)).drewN q
    have HF := hide fun (q : Nat) => HP3.out (w3.drewN q) (below_drewN HW3.out q)
    clear ho3 hb3 HP2 HO2
    clear HP3
    rcases hv : hV h with _ | _
    · rw [hv] at HF
      clear hv
      go_wp2_with fail
      refine (HS.out 0).mono ?_
      rintro e w4 ⟨rfl, q4, rfl⟩
      rw [drewN0]
      go_wp2_with fail
      refine (HF.out q4).mono ?_
      rintro e w5 ⟨rfl, rfl⟩
      go_wp2_with fail
      refine (HS.out q4).mono ?_
      rintro e w5 ⟨rfl, q5, rfl⟩
      rw [World.drewN_drewN]
      go_wp2
      go_ret
      exact ⟨rfl, HEND.out _⟩
    · rw [hv] at HF
      have hL := HL.out
      rw [decS_yes hv] at hL
      have hlen := hV_len hv
      obtain rfl : m = 12 := HI.out.1.symm.trans hlen
      obtain rfl : m3 = 12 := by rw [← HL2.out, ← hL, decH_length]; exact hlen
      have HG := hide fun (k : Nat) => decH_getD h k
      rw [hL] at HG
      have HVL := hide (show hV L = true by rw [← hL]; exact decH_valid hv)
      have HRG := hide fun (k : Nat) (hk : k < 12) => hV_at hv hk
      clear hv hL hlen
      go_wp2_with fail
      refine (HS.out 0).mono ?_
      rintro e w4 ⟨rfl, q4, rfl⟩
      rw [drewN0]
      go_wp2_with fail
      refine (HF.out q4).mono ?_
      rintro e w5 ⟨rfl, rfl⟩
      go_wp2
      go_loopw [6] (fun i wr => ∃ k z : Nat, k ≤ 12 ∧ i = .int .i64 k ∧ wr = w3.drewN z) (fun i _ => 12 - (intOf i).toNat)
      case atStart => exact ⟨0, q4, by omega, rfl, rfl⟩
      case round =>
        obtain ⟨k, z, hk, rfl, rfl⟩ := hrel
        by_cases hlt : k < 12
        · obtain ⟨ad, rfl, _, hc1⟩ := (HI3.out z).at_ hlt
          obtain ⟨ad2, rfl, _, hc2⟩ := (HX2.out.drewN z).at_ hlt
          rw [HG.out k] at hc2
          have hr := HRG.out k hlt
          generalize h.getD k 0 = x at hc1 hc2 hr
          have hx0 : 0 ≤ x := hr.1
          have k1 : (k : Int) < 12 := by omega
          have k0 : (0 : Int) ≤ (k : Int) := by omega
          generalize hwz : w3.drewN z = wz at hc1 hc2 ⊢
          go_wp2_with fail
          go_quiet (fail)
          go_wp2
          go_roundw
          case rel => exact ⟨k + 1, _, by omega, by go_num, by rw [← hwz]; exact World.drewN_drewN _ _ _⟩
          case measure => simp [intOf]; omega
        · obtain rfl : k = 12 := by omega
          have HFF := hide (implHV A2 12 c2 _ L _ (HX2.out.drewN z) (by omega))
          rw [HVL.out] at HFF
          have HE := hide (HEND.out z)
          clear hk hlt
          go_wp2_with fail
          refine HFF.out.mono ?_
          rintro e w6 ⟨rfl, rfl⟩
          go_wp2
          go_ret
          exact ⟨rfl, HE.out⟩
end Go.Proofs.Ytnkflcibbhoedaa
