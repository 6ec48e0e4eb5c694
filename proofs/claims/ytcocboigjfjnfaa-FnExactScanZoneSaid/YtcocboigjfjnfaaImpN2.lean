/-
  The program's ScanZone.
-/
import Derived.Test.YtcocboigjfjnfaaImpN1
namespace Go.Proofs.Ytcocboigjfjnfaa
open Go.RowKit
set_option linter.unusedVariables false
set_option maxRecDepth 100000

set_option maxHeartbeats 6400000 in
theorem implScanZ (A : Option Addr) (n c B : Nat) (z : Int) (qs : List Zq) (w : World) (hr : Zns w B A n qs) (hB : B ≤ w.heap.size) (hn : n ≤ 1000000000000) (hz0 : -9223372036854775808 ≤ z) (hz1 : z ≤ 9223372036854775807) :
    Calls Try.prog 8 #[.slice A n c, .int .i64 z] w (ScanPost w (scanZ (zns qs) z)) := by
  have HV := hide (implDV A n c B qs w hr hB hn)
  by_cases hz : 0 ≤ z ∧ z ≤ 3
  · obtain ⟨k, rfl⟩ := Int.eq_ofNat_of_zero_le hz.1
    have k1 : ¬ (k : Int) < 0 := by omega
    have k2 : ¬ (4 : Int) ≤ (k : Int) := by omega
    rcases hv : devV (zns qs) with _ | _
    · have HE := hide (scanZ_no (d := zns qs) (z := (k : Int)) (by rw [hv]; rfl))
      rw [hv] at HV
      clear hv hr
      go_enter Try.func8, Try.ntmps8
      go_wp2_with fail
      refine HV.out.mono ?_
      rintro e w1 ⟨rfl, hb1⟩
      have HB1 := hide hb1
      clear hb1
      go_wp2
      try simp only [Exit.inBlock, Exit.then]
      refine bodyPost_ret (results_tmp2 rfl _ _ _) rfl ?_
      exact ⟨none, 0, 0, [], by rw [HE.out]; rfl, OwnF.nil_ _ _, by rw [HE.out]; rfl, HB1.out⟩
    · obtain rfl : n = 4 := by
        have h2 := hr.1
        unfold devV at hv
        simp [zns] at hv
        omega
      obtain ⟨q, hq⟩ : ∃ q, qs[k]? = some q := ⟨_, List.getElem?_eq_getElem (by rw [hr.1]; omega)⟩
      have HE := hide (scanZ_yes hv (by omega) hq)
      rw [hv] at HV
      obtain ⟨hl64⟩ : Nonempty (q.words.length ≤ 64) := ⟨devV_words hv hq⟩
      have HQ := hide hq
      have HR := hide hr
      clear hv hr hq
      have k3 : (0 : Int) ≤ (k : Int) := by omega
      have k4 : (k : Int) < ((4 : Nat) : Int) := by omega
      go_enter Try.func8, Try.ntmps8
      go_wp2_with fail
      refine HV.out.mono ?_
      rintro e w1 ⟨rfl, hb1⟩
      have HB1 := hide hb1
      have hR := HR.out.below hb1 hB
      obtain ⟨ad, p, rfl, hp, hb, hc0, hc1, hc2⟩ := hR.at_ HQ.out
      obtain ⟨hi, hle, hcm⟩ := hR.words HQ.out
      unfold maxLen at hcm
      have HC := hide (implScanL q.addr q.words.length q.cap (k : Int) q.words w1 (hi.more (Nat.le_trans hB hb1.size)) hle (by omega) (by omega))
      clear hR hi hb1 hc1 hc2
      unfold Zq.sl at hc0
      go_wp2_with fail
      refine HC.out.mono ?_
      rintro e w2 ⟨A2, c2, m, rs, rfl, ho, hf, hb2⟩
      go_wp2
      try simp only [Exit.inBlock, Exit.then]
      refine bodyPost_ret (results_tmp2 rfl _ _ _) rfl ?_
      exact ⟨A2, c2, m, rs, by rw [HE.out]; rfl, ho.mono HB1.out.size, by rw [HE.out]; exact hf, HB1.out.trans (hb2.mono HB1.out.size)⟩
  · have HE := hide (scanZ_no (d := zns qs) (z := z) (by rw [show inB z 0 3 = false from by rcases h : inB z 0 3 with _ | _; rfl; exact absurd (inB_iff.1 h) hz]; simp))
    have hzz : z < 0 ∨ 4 ≤ z := by omega
    clear hr hz HV
    go_enter Try.func8, Try.ntmps8
    rcases hzz with h | h
    · go_wp2
      try simp only [Exit.inBlock, Exit.then]
      refine bodyPost_ret (results_tmp2 rfl _ _ _) rfl ?_
      exact ⟨none, 0, 0, [], by rw [HE.out]; rfl, OwnF.nil_ _ _, by rw [HE.out]; rfl, Below.refl _ _⟩
    · have h0 : ¬ z < 0 := by omega
      go_wp2
      try simp only [Exit.inBlock, Exit.then]
      refine bodyPost_ret (results_tmp2 rfl _ _ _) rfl ?_
      exact ⟨none, 0, 0, [], by rw [HE.out]; rfl, OwnF.nil_ _ _, by rw [HE.out]; rfl, Below.refl _ _⟩
end Go.Proofs.Ytcocboigjfjnfaa
