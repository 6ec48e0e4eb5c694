/-
  The walk of FnColdestMore.
-/
import Derived.Test.YtnkflcibbhoedaaLawH0
namespace Go.Proofs.Ytnkflcibbhoedaa
open Go.RowKit
set_option linter.unusedVariables false
set_option maxRecDepth 100000

theorem cold_more {h ls : List Int} {b x : Int} (hx : x ∈ coldS h ls b) : x ∈ coldS h ls (b + 1) := by
  obtain ⟨h1, h2, h3, h4⟩ := coldS_sub hx
  rw [coldS_yes _ h1 h2]
  exact List.mem_filter.2 ⟨h3, keep_more h4⟩
theorem cold_more_len (h ls : List Int) {b : Int} (hb : -1 ≤ b) : (coldS h ls (b + 1)).length ≤ (coldS h ls b).length + 1 := by
  by_cases hok : hV h = true ∧ ascB ls = true
  · by_cases h0 : b < 0
    · rw [coldS_low h ls (show b + 1 ≤ 0 by omega)]; simp
    · obtain ⟨B, rfl⟩ := Int.eq_ofNat_of_zero_le (show 0 ≤ b by omega)
      rw [coldS_yes _ hok.1 hok.2, coldS_yes _ hok.1 hok.2]
      have h1 := cold_length (h := h) (ls := ls) B hok.2
      have h2 := cold_length (h := h) (ls := ls) (B + 1) hok.2
      rw [show ((B + 1 : Nat) : Int) = (B : Int) + 1 by omega] at h2
      omega
  · have e1 : coldS h ls (b + 1) = [] := by unfold coldS; rw [if_neg hok]
    rw [e1]; simp

set_option maxHeartbeats 6400000 in
theorem coldestMore_walk (A : Option Addr) (n c : Nat) (bs : Nat → Int) (w : World) (hb : Bytes w w.heap.size A n bs) (hn : n ≤ c) (hc : c ≤ maxLen) :
    Calls Try.prog 9 #[.slice A n c] w fun e w' => e = .returned (.bool true) ∧ Below w.heap.size w w' := by
  by_cases hbig : 1048576 < n
  · go_enter Try.func9, Try.ntmps9
    go_wp2
    go_ret
    exact ⟨rfl, Below.refl _ _⟩
  · go_enter Try.func9, Try.ntmps9
    go_wp2_with fail
    refine (drawHC_any A n c bs _ hb hn hc).mono ?_
    rintro e w1 ⟨A1, m, c1, h, A0, q, c0, ls, b, rfl, hb0, hb1, hd, hdl⟩
    have HB1 := hide hd.below
    have HI := hide hd.ints
    have HJ := hide hdl.ints
    have hm := hd.num
    have hq := hdl.num
    have hs1 := hd.below.size
    have HP1 := hide (implHC A1 A0 m c1 q c0 _ _ h ls b w1 hd.ints (Nat.le_refl _) (by omega) hdl.ints (Nat.le_refl _) (by omega) (by omega))
    have HP2 := hide fun (W : World) (hB : Below w1.heap.size w1 W) => specHC A1 A0 m c1 q c0 _ _ h ls b W (hd.ints.below hB (Nat.le_refl _)) hB.size (by omega) (hdl.ints.below hB (Nat.le_refl _)) hB.size (by omega)
    have HP3 := hide fun (W : World) (hB : Below w1.heap.size w1 W) => implHC A1 A0 m c1 q c0 _ _ h ls (b + 1) W (hd.ints.below hB (Nat.le_refl _)) hB.size (by omega) (hdl.ints.below hB (Nat.le_refl _)) hB.size (by omega) (by omega)
    obtain ⟨L, hL⟩ : ∃ L, coldS h ls b = L := ⟨_, rfl⟩
    rw [hL] at HP1 HP2
    have HL := hide hL
    have HL12 := hide (show L.length ≤ 12 by rw [← hL]; exact coldS_le h ls b)
    clear hb hd hdl hL
    go_wp2_with fail
    refine HP1.out.mono ?_
    rintro e w2 ⟨A2, m2, c2, rfl, ho2, hb2⟩
    have HO2 := hide ho2.ints
    have HW2 := hide hb2
    have hm2 : m2 ≤ 12 := by rw [← ho2.1]; exact HL12.out
    have HL2 := hide ho2.1
    clear ho2 hb2 HP1
    go_wp2_with fail
    refine (HP2.out _ HW2.out).mono ?_
    rintro e w3 ⟨A3, m3, c3, rfl, ho3, hb3⟩
    obtain rfl : m3 = m2 := ho3.1.symm.trans HL2.out
    have HW3 := hide (HW2.out.trans (hb3.mono HW2.out.size))
    have HX2 := hide (HO2.out.below hb3 (Nat.le_refl _))
    have HX3 := hide ho3.ints
    have HS23 := hide hb3.size
    have HS := hide fun (q : Nat) => sameInts_yes A2 A3 m3 c2 m3 c3 _ _ L L (w3.drewN q) (HX2.out.drewN q) (HX3.out.drewN q) (by unfold maxLen; omega) (by unfold maxLen; omega) rfl
    have HEND := hide fun (q : Nat) => HB1.out.trans ((below_drewN HW3.out q).mono hs1)
    have HD3 := hide fun (q : Nat) => below_drewN HW3.out q
    have HI3 := hide fun (q : Nat) => (HI.out.below HW3.out (Nat.le_refl _)).drewN q
    have HJ3 := hide fun (q : Nat) => (HJ.out.below HW3.out (Nat.le_refl _)).drewN q
    have HLQ := hide HJ.out.1
    have HF := hide fun (q : Nat) => HP3.out _ (below_drewN HW3.out q)
    clear ho3 hb3 HP2 HO2
    obtain ⟨M, hM⟩ : ∃ M, coldS h ls (b + 1) = M := ⟨_, rfl⟩
    rw [hM] at HF
    have HLM := hide (show M.length ≤ L.length + 1 by rw [← hM, ← HL.out]; exact cold_more_len h ls hb0)
    have HMEM := hide fun (k : Nat) (hk : k < m3) => (by
      have h5 : L.getD k 0 ∈ L := getD_mem (by rw [HL2.out]; exact hk)
      have h6 : L.getD k 0 ∈ M := by rw [← hM]; rw [← HL.out] at h5 ⊢; exact cold_more h5
      exact decide_eq_true h6 : decide (L.getD k 0 ∈ M) = true)
    have wb : IntKind.i64.wrap (b + 1) = b + 1 := IntWalk.i64_in _ (by omega)
    clear hM HP3
    go_wp2_with fail
    refine (HS.out 0).mono ?_
    rintro e w4 ⟨rfl, q4, rfl⟩
    rw [drewN0]
    go_wp2_with fail
    refine (HF.out q4).mono ?_
    rintro e w8 ⟨A8, m8, c8, rfl, ho8, hb8⟩
    have hm8 : m8 ≤ m3 + 1 := by rw [← ho8.1, ← HL2.out]; exact HLM.out
    have HO8 := hide ho8.ints
    have HX8 := hide ((HX2.out.drewN q4).below hb8 (show w2.heap.size ≤ (w3.drewN q4).heap.size from HS23.out))
    have HE := hide ((HEND.out q4).trans (hb8.mono (HEND.out q4).size))
    clear ho8 hb8 HF
    have wm : IntKind.i64.wrap ((m3 : Int) + 1) = (m3 : Int) + 1 := IntWalk.i64_in _ (by omega)
    go_wp2
    go_loopw [9] (fun i wr => ∃ k : Nat, k ≤ m3 ∧ i = .int .i64 k ∧ w8 = wr) (fun i _ => m3 - (intOf i).toNat)
    case atStart => exact ⟨0, by omega, rfl, rfl⟩
    case round =>
      obtain ⟨k, hk, rfl, rfl⟩ := hrel
      by_cases hlt : k < m3
      · obtain ⟨ad2, rfl, _, hc2⟩ := HX8.out.at_ hlt
        have hmm := HMEM.out k hlt
        generalize L.getD k 0 = x at hc2 hmm
        have HH := hide (hasInt_any A8 m8 c8 _ x M w8 HO8.out (by unfold maxLen; omega))
        rw [hmm] at HH
        have k1 : (k : Int) < (m3 : Int) := by omega
        have k0 : (0 : Int) ≤ (k : Int) := by omega
        clear hmm
        go_wp2_with fail
        refine HH.out.mono ?_
        rintro e w9 ⟨rfl, rfl⟩
        go_wp2
        go_roundw
        case rel => exact ⟨k + 1, by omega, by go_num, by first | rfl | trivial⟩
        case measure => simp [intOf]; omega
      · obtain rfl : k = m3 := by omega
        have hle : (m8 : Int) ≤ (k : Int) + 1 := by omega
        have d1 : decide ((m8 : Int) ≤ (k : Int) + 1) = true := decide_eq_true hle
        clear hk hlt hm8
        go_wp2
        go_ret
        exact ⟨rfl, HE.out⟩
end Go.Proofs.Ytnkflcibbhoedaa
