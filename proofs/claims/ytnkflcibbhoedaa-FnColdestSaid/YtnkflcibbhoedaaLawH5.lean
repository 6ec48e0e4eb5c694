/-
  The walk of FnColdest.
-/
import Derived.Test.YtnkflcibbhoedaaLawH0
namespace Go.Proofs.Ytnkflcibbhoedaa
open Go.RowKit
set_option linter.unusedVariables false
set_option maxRecDepth 100000

set_option maxHeartbeats 6400000 in
theorem coldest_walk (A : Option Addr) (n c : Nat) (bs : Nat → Int) (w : World) (hb : Bytes w w.heap.size A n bs) (hn : n ≤ c) (hc : c ≤ maxLen) :
    Calls Try.prog 7 #[.slice A n c] w fun e w' => e = .returned (.bool true) ∧ Below w.heap.size w w' := by
  by_cases hbig : 1048576 < n
  · go_enter Try.func7, Try.ntmps7
    go_wp2
    go_ret
    exact ⟨rfl, Below.refl _ _⟩
  · go_enter Try.func7, Try.ntmps7
    go_wp2_with fail
    refine (drawHC_any A n c bs _ hb hn hc).mono ?_
    rintro e w1 ⟨A1, m, c1, h, A0, q, c0, ls, b, rfl, hb0, hb1, hd, hdl⟩
    have HB1 := hide hd.below
    have HI := hide hd.ints
    have HJ := hide hdl.ints
    have hm := hd.num
    have hq := hdl.num
    have hs1 := hd.below.size
    have HP1 := hide (implHC A1 A0 m c1 q c0 _ _ h ls b w1 hd.ints (Nat.le_refl _) (by omega) hdl.ints (Nat.le_refl _) (by omega) (by omega))
    have HP2 := hide fun (W : World) (hB : Below w1.heap.size w1 W) => specHC A1 A0 m c1 q c0 _ _ h ls b W (hd.ints.below hB (Nat.le_refl _)) hB.size (by omega) (hdl.ints.below hB (Nat.le_refl _)) hB.size (by omega)
    have HP3 := hide fun (W : World) (hB : Below w1.heap.size w1 W) => implHC A1 A0 m c1 q c0 _ _ h ls (b + 1) W (hd.ints.below hB (Nat.le_refl _)) hB.size (by omega) (hdl.ints.below hB (Nat.le_refl _)) hB.size (by omega) (by omega)
    obtain ⟨L, hL⟩ : ∃ L, coldS h ls b = L := ⟨_, rfl⟩
    rw [hL] at HP1 HP2
    have HL := hide hL
    have HL12 := hide (show L.length ≤ 12 by rw [← hL]; exact coldS_le h ls b)
    clear hb hd hdl hL
    go_wp2_with fail
    refine HP1.out.mono ?_
    rintro e w2 ⟨A2, m2, c2, rfl, ho2, hb2⟩
    have HO2 := hide ho2.ints
    have HW2 := hide hb2
    have hm2 : m2 ≤ 12 := by rw [← ho2.1]; exact HL12.out
    have HL2 := hide ho2.1
    clear ho2 hb2 HP1
    go_wp2_with fail
    refine (HP2.out _ HW2.out).mono ?_
    rintro e w3 ⟨A3, m3, c3, rfl, ho3, hb3⟩
    obtain rfl : m3 = m2 := ho3.1.symm.trans HL2.out
    have HW3 := hide (HW2.out.trans (hb3.mono HW2.out.size))
    have HX2 := hide (HO2.out.below hb3 (Nat.le_refl _))
    have HX3 := hide ho3.ints
    have HS23 := hide hb3.size
    have HS := hide fun (q : Nat) => sameInts_yes A2 A3 m3 c2 m3 c3 _ _ L L (w3.drewN q) (HX2.out.drewN q) (HX3.out.drewN q) (by unfold maxLen; omega) (by unfold maxLen; omega) rfl
    have HEND := hide fun (q : Nat) => HB1.out.trans ((below_drewN HW3.out q).mono hs1)
    have HD3 := hide fun (q : Nat) => below_drewN HW3.out q
    have HI3 := hide fun (q : Nat) => (HI.out.below HW3.out (Nat.le_refl _)).drewN q
    have HJ3 := hide fun (q : Nat) => (HJ.out.below HW3.out (Nat.le_refl _)).drewN q
    have HLQ := hide HJ.out.1
    clear ho3 hb3 HP2 HO2
    by_cases h0 : m3 = 0
    · subst h0
      go_wp2_with fail
      refine (HS.out 0).mono ?_
      rintro e w4 ⟨rfl, q4, rfl⟩
      rw [drewN0]
      go_wp2_with fail
      refine (HS.out q4).mono ?_
      rintro e w5 ⟨rfl, q5, rfl⟩
      rw [World.drewN_drewN]
      go_wp2
      go_ret
      exact ⟨rfl, HEND.out _⟩
    · have hne : L ≠ [] := fun e => h0 (by rw [← HL2.out, e]; rfl)
      obtain ⟨y0, hy0⟩ := List.exists_mem_of_ne_nil L hne
      rw [← HL.out] at hy0
      obtain ⟨hv, ha, _, _⟩ := coldS_sub hy0
      have hL := HL.out
      rw [coldS_yes b hv ha] at hL
      have hb2 : 0 < b := by
        rcases Int.lt_or_le 0 b with h5 | h5
        · exact h5
        · exact absurd (HL.out.symm.trans (coldS_low h ls h5)) hne
      have hm0 : ((m3 : Int) == 0) = false := by simp; omega
      obtain rfl : m = 12 := HI.out.1.symm.trans (hV_len hv)
      obtain ⟨B, rfl⟩ := Int.eq_ofNat_of_zero_le (show 0 ≤ b by omega)
      have HNUM := hide (show (m3 : Int) = min (B : Int) (q : Int) by
        have h5 := cold_length (h := h) (ls := ls) B ha
        rw [hL, HL2.out, HLQ.out] at h5
        omega)
      have HMEM := hide fun (k : Nat) (hk : k < m3) => (by
        have h5 : L.getD k 0 ∈ L := getD_mem (by rw [HL2.out]; exact hk)
        have h6 : L.getD k 0 ∈ ls := by rw [← hL] at h5 ⊢; exact (List.mem_filter.1 h5).1
        exact decide_eq_true h6 : decide (L.getD k 0 ∈ ls) = true)
      have HASC := hide fun (k : Nat) (hk : k + 1 < m3) => (by
        have hp : L.Pairwise (· < ·) := by rw [← hL]; exact (ascB_all ha).1.filter _
        have h5 := List.pairwise_iff_getElem.1 hp k (k + 1) (by rw [HL2.out]; omega) (by rw [HL2.out]; exact hk) (by omega)
        have e1 : L.getD k 0 = L[k]'(by rw [HL2.out]; omega) := by simp [List.getD, show k < L.length by rw [HL2.out]; omega]
        have e2 : L.getD (k + 1) 0 = L[k + 1]'(by rw [HL2.out]; exact hk) := by simp [List.getD, show k + 1 < L.length by rw [HL2.out]; exact hk]
        rw [e1, e2]
        exact h5 : L.getD k 0 < L.getD (k + 1) 0)
      clear hv ha hL hy0 hne
      go_wp2_with fail
      refine (HS.out 0).mono ?_
      rintro e w4 ⟨rfl, q4, rfl⟩
      rw [drewN0]
      go_wp2
      go_loopw [8] (fun i wr => ∃ k z : Nat, k ≤ m3 ∧ i = .int .i64 k ∧ wr = w3.drewN z) (fun i _ => m3 - (intOf i).toNat)
      case atStart => exact ⟨0, q4, by omega, rfl, rfl⟩
      case round =>
        obtain ⟨k, z, hk, rfl, rfl⟩ := hrel
        by_cases hlt : k < m3
        · obtain ⟨ad2, rfl, _, hc2⟩ := (HX2.out.drewN z).at_ hlt
          have hmm := HMEM.out k hlt
          have k1 : (k : Int) < (m3 : Int) := by omega
          have k0 : (0 : Int) ≤ (k : Int) := by omega
          by_cases hk0 : k = 0
          · have z1 : ¬ (0 : Int) < (k : Int) := by omega
            have z2 : ¬ 0 < k := by omega
            have z3 : decide ((0 : Int) < (k : Int)) = false := decide_eq_false z1
            clear hk0
            generalize L.getD k 0 = x at hc2 hmm
            have HH := hide fun (j : Nat) => hasInt_any A0 q c0 _ x ls ((w3.drewN z).drewN j) ((HJ3.out z).drewN j) (by unfold maxLen; omega)
            rw [hmm] at HH
            clear hmm
            generalize hwz : w3.drewN z = wz at hc2 HH ⊢
            go_wp2_with fail
            go_quiet ((go_at_call 26; exact quiet_h (HH.out _)))
            go_wp2
            go_roundw
            case rel => exact ⟨k + 1, _, by omega, by go_num, by rw [← hwz]; exact World.drewN_drewN _ _ _⟩
            case measure => simp [intOf]; omega
          · obtain ⟨K, rfl⟩ : ∃ K, k = K + 1 := ⟨k - 1, by omega⟩
            obtain ⟨_, e7, _, hc7⟩ := (HX2.out.drewN z).at_ (show K < m3 by omega)
            cases e7
            have has := HASC.out K hlt
            generalize L.getD (K + 1) 0 = x at hc2 hmm has
            generalize L.getD K 0 = x7 at hc7 has
            have HH := hide fun (j : Nat) => hasInt_any A0 q c0 _ x ls ((w3.drewN z).drewN j) ((HJ3.out z).drewN j) (by unfold maxLen; omega)
            rw [hmm] at HH
            have hlt7 : decide (x7 ≥ x) = false := by simp; omega
            obtain ⟨Q, hQ⟩ : ∃ Q, K + 1 = Q := ⟨_, rfl⟩
            have hQi : (Q : Int) - 1 = (K : Int) := by omega
            have q0 : (0 : Int) < (Q : Int) := by omega
            have q0n : 0 < Q := by omega
            have q1 : (0 : Int) ≤ (Q : Int) := by omega
            have wK : IntKind.i64.wrap (K : Int) = (K : Int) := IntWalk.i64_in _ (by omega)
            have wQ : IntKind.i64.wrap ((Q : Int) - 1) = (K : Int) := by rw [hQi]; exact wK
            have K0 : (0 : Int) ≤ (K : Int) := by omega
            have K1 : (K : Int) < (m3 : Int) := by omega
            rw [hQ] at k0 k1 hlt hk hc2 ⊢
            have HQ := hide hQ
            clear hmm has hk0 hQ
            generalize hwz : w3.drewN z = wz at hc2 hc7 HH ⊢
            go_wp2_with fail
            go_quiet ((go_at_call 26; exact quiet_h (HH.out _)))
            go_wp2
            go_roundw
            case rel => exact ⟨Q + 1, _, by have := HQ.out; omega, by go_num, by rw [← hwz]; exact World.drewN_drewN _ _ _⟩
            case measure => simp [intOf]; have := HQ.out; omega
        · obtain rfl : k = m3 := by omega
          have HE := hide (HEND.out z)
          have hnum := HNUM.out
          have hmin : min (B : Int) (q : Int) = (k : Int) := hnum.symm
          clear hnum hk hlt
          go_wp2
          go_ret
          exact ⟨rfl, HE.out⟩
end Go.Proofs.Ytnkflcibbhoedaa
