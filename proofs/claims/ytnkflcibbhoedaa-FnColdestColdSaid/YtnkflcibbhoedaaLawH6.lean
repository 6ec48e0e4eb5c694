/-
  The walk of FnColdestCold.
-/
import Derived.Test.YtnkflcibbhoedaaLawH0
namespace Go.Proofs.Ytnkflcibbhoedaa
open Go.RowKit
set_option linter.unusedVariables false
set_option maxRecDepth 100000

set_option maxHeartbeats 6400000 in
theorem coldestCold_walk (A : Option Addr) (n c : Nat) (bs : Nat → Int) (w : World) (hb : Bytes w w.heap.size A n bs) (hn : n ≤ c) (hc : c ≤ maxLen) :
    Calls Try.prog 8 #[.slice A n c] w fun e w' => e = .returned (.bool true) ∧ Below w.heap.size w w' := by
  by_cases hbig : 1048576 < n
  · go_enter Try.func8, Try.ntmps8
    go_wp2
    go_ret
    exact ⟨rfl, Below.refl _ _⟩
  · go_enter Try.func8, Try.ntmps8
    go_wp2_with fail
    refine (drawHC_any A n c bs _ hb hn hc).mono ?_
    rintro e w1 ⟨A1, m, c1, h, A0, q, c0, ls, b, rfl, hb0, hb1, hd, hdl⟩
    have HB1 := hide hd.below
    have HI := hide hd.ints
    have HJ := hide hdl.ints
    have hm := hd.num
    have hq := hdl.num
    have hs1 := hd.below.size
    have HP1 := hide (implHC A1 A0 m c1 q c0 _ _ h ls b w1 hd.ints (Nat.le_refl _) (by omega) hdl.ints (Nat.le_refl _) (by omega) (by omega))
    have HP2 := hide fun (W : World) (hB : Below w1.heap.size w1 W) => specHC A1 A0 m c1 q c0 _ _ h ls b W (hd.ints.below hB (Nat.le_refl _)) hB.size (by omega) (hdl.ints.below hB (Nat.le_refl _)) hB.size (by omega)
    have HP3 := hide fun (W : World) (hB : Below w1.heap.size w1 W) => implHC A1 A0 m c1 q c0 _ _ h ls (b + 1) W (hd.ints.below hB (Nat.le_refl _)) hB.size (by omega) (hdl.ints.below hB (Nat.le_refl _)) hB.size (by omega) (by omega)
    obtain ⟨L, hL⟩ : ∃ L, coldS h ls b = L := ⟨_, rfl⟩
    rw [hL] at HP1 HP2
    have HL := hide hL
    have HL12 := hide (show L.length ≤ 12 by rw [← hL]; exact coldS_le h ls b)
    clear hb hd hdl hL
    go_wp2_with fail
    refine HP1.out.mono ?_
    rintro e w2 ⟨A2, m2, c2, rfl, ho2, hb2⟩
    have HO2 := hide ho2.ints
    have HW2 := hide hb2
    have hm2 : m2 ≤ 12 := by rw [← ho2.1]; exact HL12.out
    have HL2 := hide ho2.1
    clear ho2 hb2 HP1
    go_wp2_with fail
    refine (HP2.out _ HW2.out).mono ?_
    rintro e w3 ⟨A3, m3, c3, rfl, ho3, hb3⟩
    obtain rfl : m3 = m2 := ho3.1.symm.trans HL2.out
    have HW3 := hide (HW2.out.trans (hb3.mono HW2.out.size))
    have HX2 := hide (HO2.out.below hb3 (Nat.le_refl _))
    have HX3 := hide ho3.ints
    have HS23 := hide hb3.size
    have HS := hide fun (q : Nat) => sameInts_yes A2 A3 m3 c2 m3 c3 _ _ L L (w3.drewN q) (HX2.out.drewN q) (HX3.out.drewN q) (by unfold maxLen; omega) (by unfold maxLen; omega) rfl
    have HEND := hide fun (q : Nat) => HB1.out.trans ((below_drewN HW3.out q).mono hs1)
    have HD3 := hide fun (q : Nat) => below_drewN HW3.out q
    have HI3 := hide fun (q : Nat) => (HI.out.below HW3.out (Nat.le_refl _)).drewN q
    have HJ3 := hide fun (q : Nat) => (HJ.out.below HW3.out (Nat.le_refl _)).drewN q
    have HLQ := hide HJ.out.1
    clear ho3 hb3 HP2 HO2
    by_cases h0 : m3 = 0
    · subst h0
      go_wp2_with fail
      refine (HS.out 0).mono ?_
      rintro e w4 ⟨rfl, q4, rfl⟩
      rw [drewN0]
      go_wp2_with fail
      refine (HS.out q4).mono ?_
      rintro e w5 ⟨rfl, q5, rfl⟩
      rw [World.drewN_drewN]
      go_wp2
      go_ret
      exact ⟨rfl, HEND.out _⟩
    · have hne : L ≠ [] := fun e => h0 (by rw [← HL2.out, e]; rfl)
      obtain ⟨y0, hy0⟩ := List.exists_mem_of_ne_nil L hne
      rw [← HL.out] at hy0
      obtain ⟨hv, ha, _, _⟩ := coldS_sub hy0
      have hL := HL.out
      rw [coldS_yes b hv ha] at hL
      have hb2 : 0 < b := by
        rcases Int.lt_or_le 0 b with h5 | h5
        · exact h5
        · exact absurd (HL.out.symm.trans (coldS_low h ls h5)) hne
      have hm0 : ((m3 : Int) == 0) = false := by simp; omega
      obtain rfl : m = 12 := HI.out.1.symm.trans (hV_len hv)
      have HRNG := hide (ascB_all ha).2
      have HMEM := hide fun (k : Nat) (hk : k < m3) => (by
        have h5 : L.getD k 0 ∈ L := getD_mem (by rw [HL2.out]; exact hk)
        rw [← hL] at h5 ⊢
        exact List.mem_filter.1 h5 : L.getD k 0 ∈ ls ∧ keepH h ls b (L.getD k 0) = true)
      have HNOT := hide fun (x y : Int) (hx : x ∈ ls) (hn : decide (x ∈ L) = false) (hy : keepH h ls b y = true) => (by
        rcases h5 : ltH h x y with _ | _
        · rfl
        · have h6 := keep_colder hx h5 hy
          have h7 : x ∈ L := by rw [← hL]; exact List.mem_filter.2 ⟨hx, h6⟩
          rw [decide_eq_true h7] at hn
          exact absurd hn (by simp) : ltH h x y = false)
      clear hv ha hL hy0 hne
      go_wp2_with fail
      refine (HS.out 0).mono ?_
      rintro e w4 ⟨rfl, q4, rfl⟩
      rw [drewN0]
      go_wp2
      go_loopw [8] (fun i wr => ∃ k z : Nat, k ≤ q ∧ i = .int .i64 k ∧ wr = w3.drewN z) (fun i _ => q - (intOf i).toNat)
      case atStart => exact ⟨0, q4, by omega, rfl, rfl⟩
      case round =>
        obtain ⟨k, z, hk, rfl, rfl⟩ := hrel
        by_cases hlt : k < q
        · obtain ⟨ad0, rfl, _, hc0⟩ := (HJ3.out z).at_ hlt
          have hxm : ls.getD k 0 ∈ ls := getD_mem (by rw [HLQ.out]; exact hlt)
          have hxr := HRNG.out _ hxm
          have k1 : (k : Int) < (q : Int) := by omega
          have k0 : (0 : Int) ≤ (k : Int) := by omega
          obtain ⟨x, hxe⟩ : ∃ x, ls.getD k 0 = x := ⟨_, rfl⟩
          rw [hxe] at hc0 hxm hxr
          obtain ⟨X, rfl⟩ := Int.eq_ofNat_of_zero_le hxr.1
          have HXE := hide hxe
          have hX : X < 12 := by omega
          clear hxe
          have HXM := hide hxm
          have m3p : (0 : Int) < (m3 : Int) := by omega
          have m3pn : 0 < m3 := by omega
          clear hxm hxr
          rcases hin : decide ((X : Int) ∈ L) with _ | _
          · have HIN := hide hin
            clear hin
            go_wp2
            go_loopw [9] (fun i wr => ∃ j z2 : Nat, j ≤ m3 ∧ i = .int .i64 j ∧ wr = w3.drewN z2) (fun i _ => m3 - (intOf i).toNat)
            case atStart => exact ⟨0, z, by omega, rfl, rfl⟩
            case round =>
              clear hc0
              obtain ⟨j, z2, hj, rfl, rfl⟩ := hrel
              by_cases hlt2 : j < m3
              · obtain ⟨_, e1, _, hcx⟩ := (HJ3.out z2).at_ hlt
                cases e1
                rw [HXE.out] at hcx
                obtain ⟨adh, eA1, _, hchx⟩ := (HI3.out z2).at_ hX
                obtain ⟨ad2, eA2, _, hcy⟩ := (HX2.out.drewN z2).at_ hlt2
                obtain ⟨hym, hyk⟩ := HMEM.out j hlt2
                have hyr := HRNG.out _ hym
                generalize L.getD j 0 = y at hcy hym hyk hyr
                obtain ⟨Y, rfl⟩ := Int.eq_ofNat_of_zero_le hyr.1
                obtain ⟨_, eA3, _, hchy⟩ := (HI3.out z2).at_ (show Y < 12 by omega)
                rw [eA1] at eA3
                cases eA3
                have hno := ltH_no.1 (HNOT.out _ _ HXM.out HIN.out hyk)
                rw [hAt_nat, hAt_nat] at hno
                generalize h.getD X 0 = hx at hchx hno
                generalize h.getD Y 0 = hy at hchy hno
                have HH := hide (hasInt_any A2 m3 c2 _ (X : Int) L (w3.drewN z2) (HX2.out.drewN z2) (by unfold maxLen; omega))
                rw [HIN.out] at HH
                rw [eA1, eA2] at *
                have j1 : (j : Int) < (m3 : Int) := by omega
                have j0 : (0 : Int) ≤ (j : Int) := by omega
                have X0 : (0 : Int) ≤ (X : Int) := by omega
                have X1 : (X : Int) < 12 := by omega
                have Y0 : (0 : Int) ≤ (Y : Int) := by omega
                have Y1 : (Y : Int) < 12 := by omega
                have d1 : decide (hx < hy) = false := decide_eq_false (by omega)
                clear hym hyk hyr eA1 eA2
                generalize hwz : w3.drewN z2 = wz at hcx hchx hcy hchy HH ⊢
                by_cases h2 : hx = hy
                · have d3 : decide ((X : Int) < (Y : Int)) = false := decide_eq_false (by omega)
                  have d4 : ¬ X < Y := by omega
                  have d5 : decide (X < Y) = false := decide_eq_false d4
                  subst h2
                  clear hno
                  go_wp2_with fail
                  refine HH.out.mono ?_
                  rintro e w6 ⟨rfl, rfl⟩
                  go_wp2_with fail
                  go_quiet (fail)
                  go_wp2
                  go_roundw
                  case rel => exact ⟨j + 1, _, by omega, by go_num, by rw [← hwz]; exact World.drewN_drewN _ _ _⟩
                  case measure => simp [intOf]; omega
                · have d2 : (hx == hy) = false := by simpa using h2
                  clear hno h2
                  go_wp2_with fail
                  refine HH.out.mono ?_
                  rintro e w6 ⟨rfl, rfl⟩
                  go_wp2_with fail
                  go_quiet (fail)
                  go_wp2
                  go_roundw
                  case rel => exact ⟨j + 1, _, by omega, by go_num, by rw [← hwz]; exact World.drewN_drewN _ _ _⟩
                  case measure => simp [intOf]; omega
              · obtain rfl : j = m3 := by omega
                go_wp2
                go_roundw
                case rel => exact ⟨k + 1, _, by omega, by go_num, by first | rfl | trivial⟩
                case measure => simp [intOf]; omega
          · have HIN := hide hin
            clear hin
            have HH := hide (hasInt_any A2 m3 c2 _ (X : Int) L (w3.drewN z) (HX2.out.drewN z) (by unfold maxLen; omega))
            rw [HIN.out] at HH
            go_wp2
            go_loopw [9] (fun i wr => i = .int .i64 0 ∧ w3.drewN z = wr) (fun _ _ => 0)
            case atStart => exact ⟨rfl, rfl⟩
            case round =>
              obtain ⟨rfl, rfl⟩ := hrel
              generalize hwz : w3.drewN z = wz at hc0 HH ⊢
              go_wp2_with fail
              refine HH.out.mono ?_
              rintro e w6 ⟨rfl, rfl⟩
              go_wp2
              go_roundw
              case rel => exact ⟨k + 1, _, by omega, by go_num, hwz.symm⟩
              case measure => simp [intOf]; omega
        · obtain rfl : k = q := by omega
          have HE := hide (HEND.out z)
          go_wp2
          go_ret
          exact ⟨rfl, HE.out⟩
end Go.Proofs.Ytnkflcibbhoedaa
