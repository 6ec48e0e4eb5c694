/-
  The walk of FnMapTier.
-/
import Derived.Test.YtgkjbickphdeoaaDrawM2
import Derived.Test.YtgkjbickphdeoaaSameM
import Derived.Test.YtgkjbickphdeoaaImpM2
import Derived.Test.YtgkjbickphdeoaaSpecM4
import Derived.Test.YtgkjbickphdeoaaImpM6
namespace Go.Proofs.Ytgkjbickphdeoaa
open Go.RowKit
set_option linter.unusedVariables false
set_option maxRecDepth 100000

def tsum (ms : List Wh) : Nat → Nat
  | 0 => 0
  | t + 1 => tsum ms t + (tierM ms t).length
theorem tsum_all {ms : List Wh} (h : mpV ms = true) : tsum ms 3 = 12 := by
  have := tier_all h
  show 0 + (tierM ms ((0 : Nat) : Int)).length + (tierM ms ((1 : Nat) : Int)).length + (tierM ms ((2 : Nat) : Int)).length = 12
  have e0 : ((0 : Nat) : Int) = 0 := rfl
  have e1 : ((1 : Nat) : Int) = 1 := rfl
  have e2 : ((2 : Nat) : Int) = 2 := rfl
  rw [e0, e1, e2]
  omega
theorem tsum_le (ms : List Wh) : ∀ t, tsum ms t ≤ 12 * t
  | 0 => Nat.le_refl _
  | t + 1 => by have := tsum_le ms t; have := tierM_le ms (t : Int); show tsum ms t + (tierM ms t).length ≤ _; omega

set_option maxHeartbeats 6400000 in
theorem mapTier_walk (A : Option Addr) (n c : Nat) (bs : Nat → Int) (w : World) (hb : Bytes w w.heap.size A n bs) (hn : n ≤ c) (hc : c ≤ maxLen) :
    Calls Try.prog 11 #[.slice A n c] w fun e w' => e = .returned (.bool true) ∧ Below w.heap.size w w' := by
  by_cases hbig : 1048576 < n
  · go_enter Try.func11, Try.ntmps11
    go_wp2
    go_ret
    exact ⟨rfl, Below.refl _ _⟩
  · go_enter Try.func11, Try.ntmps11
    go_wp2_with fail
    refine (drawMT_any A n c bs _ hb hn hc).mono ?_
    rintro e w1 ⟨A1, m, c1, ms, z, rfl, hd⟩
    have HB1 := hide hd.below
    have HI := hide hd.mpi
    have hm := hd.num
    have hmc := hd.nc
    have hs1 := hd.below.size
    have HP1 := hide (implMT A1 m c1 _ ms z w1 hd.mpi (Nat.le_refl _) (by omega))
    have HP2 := hide fun (W : World) (h : Below w1.heap.size w1 W) => specMT A1 m c1 _ ms z W (hd.mpi.below h (Nat.le_refl _)) h.size (by omega)
    have HP3 := hide fun (W : World) (h : Below w1.heap.size w1 W) => specMV A1 m c1 _ ms W (hd.mpi.below h (Nat.le_refl _)) h.size (by omega)
    have HLM := hide hd.mpi.1
    obtain ⟨L, hL⟩ : ∃ L, tierM ms z = L := ⟨_, rfl⟩
    rw [hL] at HP1 HP2
    have HL := hide hL
    have HL12 := hide (show L.length ≤ 1000 by rw [← hL]; exact Nat.le_trans (tierM_le ms z) (by omega))
    clear hb hd hL
    go_wp2_with fail
    refine HP1.out.mono ?_
    rintro e w2 ⟨A2, m2, c2, rfl, ho2, hb2⟩
    have HO2 := hide ho2.ints
    have HW2 := hide hb2
    have hm2 : m2 ≤ 1000 := by rw [← ho2.1]; exact HL12.out
    have HL2 := hide ho2.1
    clear ho2 hb2 HP1
    go_wp2_with fail
    refine (HP2.out _ HW2.out).mono ?_
    rintro e w3 ⟨A3, m3, c3, rfl, ho3, hb3⟩
    obtain rfl : m3 = m2 := ho3.1.symm.trans HL2.out
    have HW3 := hide (HW2.out.trans (hb3.mono HW2.out.size))
    have HX2 := hide (HO2.out.below hb3 (Nat.le_refl _))
    have HX3 := hide ho3.ints
    have HS23 := hide hb3.size
    clear ho3 hb3 HP2 HO2
    go_wp2_with fail
    refine (sameInts_yes A2 A3 m3 c2 m3 c3 _ _ L L _ HX2.out HX3.out (by unfold maxLen; omega) (by unfold maxLen; omega) rfl).mono ?_
    rintro e w4 ⟨rfl, q4, rfl⟩
    rcases hv : mpV ms with _ | _
    · rw [hv] at HP3
      clear hv
      go_wp2_with fail
      refine (HP3.out _ (below_drewN HW3.out q4)).mono ?_
      rintro e w5 ⟨rfl, hb5⟩
      have HW5 := hide ((below_drewN HW3.out q4).trans (hb5.mono (show w1.heap.size ≤ (w3.drewN q4).heap.size from HW3.out.size)))
      have HX25 := hide ((HX2.out.drewN q4).below hb5 (show w2.heap.size ≤ (w3.drewN q4).heap.size from HS23.out))
      have HX35 := hide ((HX3.out.drewN q4).below hb5 (Nat.le_refl _))
      clear hb5 HP3
      go_wp2_with fail
      refine (sameInts_yes A2 A3 m3 c2 m3 c3 _ _ L L _ HX25.out HX35.out (by unfold maxLen; omega) (by unfold maxLen; omega) rfl).mono ?_
      rintro e w6 ⟨rfl, q6, rfl⟩
      have HE := hide (HB1.out.trans ((below_drewN HW5.out q6).mono hs1))
      go_wp2
      go_ret
      exact ⟨rfl, HE.out⟩
    · rw [hv] at HP3
      have HV := hide hv
      have hm12 : m = 12 := HLM.out.symm.trans (mpV_iff.1 hv).2
      subst hm12
      clear hv
      go_wp2_with fail
      refine (HP3.out _ (below_drewN HW3.out q4)).mono ?_
      rintro e w5 ⟨rfl, hb5⟩
      have HW5 := hide ((below_drewN HW3.out q4).trans (hb5.mono (show w1.heap.size ≤ (w3.drewN q4).heap.size from HW3.out.size)))
      have HX5 := hide ((HX2.out.drewN q4).below hb5 (show w2.heap.size ≤ (w3.drewN q4).heap.size from HS23.out))
      have HS25 := hide (Nat.le_trans HS23.out hb5.size)
      have HI5 := hide (HI.out.below HW5.out (Nat.le_refl _))
      have HS15 := hide HW5.out.size
      have HEND := hide fun (W : World) (h : Below w5.heap.size w5 W) => HB1.out.trans ((HW5.out.trans (h.mono HW5.out.size)).mono hs1)
      clear hb5 HP3 HX2 HX3
      have HIM := hide fun (t : Int) (W : World) (h : Below w5.heap.size w5 W) => implMT A1 12 c1 _ ms t W (HI5.out.below h HS15.out) (Nat.le_trans HS15.out h.size) (by omega)
      go_wp2
      go_loopw [7, 8] (fun s i wr => ∃ (t u : Nat), t ≤ 3 ∧ u ≤ 36 ∧ i = .int .i64 t ∧ s = .int .i64 u ∧ Hid (tsum ms t = u) ∧ Hid (Below w5.heap.size w5 wr)) (fun _ i _ => 3 - (intOf i).toNat)
      case atStart => exact ⟨0, 0, by omega, by omega, rfl, rfl, rfl, Below.refl _ _⟩
      case round =>
        obtain ⟨t, u, ht3, hu36, rfl, rfl, HT, HB⟩ := hrel
        by_cases hlt : t < 3
        · have t0 : (t : Int) ≤ 2 := by omega
          have HTS := hide (tsum_le ms t)
          have hu12 : u ≤ 24 := by have h1 := HTS.out; have h2 := HT.out; omega
          go_wp2_with fail
          refine (HIM.out (t : Int) _ HB.out).mono ?_
          rintro e w6 ⟨A6, m6, c6, rfl, ho6, hb6⟩
          have HB6 := hide (HB.out.trans (hb6.mono HB.out.size))
          have HO6 := hide ho6.ints
          have HL6 := hide ho6.1
          have hm6 : m6 ≤ 12 := by rw [← ho6.1]; exact tierM_le ms _
          have HT2 : Hid (tsum ms (t + 1) = u + m6) := by show tsum ms t + (tierM ms t).length = _; rw [HT.out, HL6.out]
          obtain ⟨V, hV⟩ : ∃ V, u + m6 = V := ⟨_, rfl⟩
          have hVi : (u : Int) + (m6 : Int) = (V : Int) := by omega
          have wV : IntKind.i64.wrap (V : Int) = (V : Int) := IntWalk.i64_in _ (by omega)
          have hV36 : V ≤ 36 := by omega
          rw [hV] at HT2
          clear ho6 hb6 HB hV
          go_wp2
          go_loopw [10] (fun i W => ∃ k : Nat, k ≤ m6 ∧ i = .int .i64 k ∧ w6 = W) (fun i _ => m6 - (intOf i).toNat)
          case atStart => exact ⟨0, Nat.zero_le _, rfl, rfl⟩
          case round =>
            obtain ⟨k, hk, rfl, rfl⟩ := hrel
            by_cases hlt2 : k < m6
            · have hl : k < (tierM ms (t : Int)).length := by rw [HL6.out]; exact hlt2
              have hmem : (tierM ms (t : Int)).getD k 0 ∈ tierM ms (t : Int) := by rw [List.getD, List.getElem?_eq_getElem hl]; exact List.getElem_mem hl
              obtain ⟨b, x, hbx, hb12, hx, hxt⟩ := tier_mem HV.out hmem
              obtain ⟨ad6, rfl, _, hc6⟩ := HO6.out.at_ hlt2
              rw [hbx] at hc6
              obtain ⟨ad, p, rfl, hp, hpb, h0, h1, h2, h3, h4⟩ := (HI5.out.below HB6.out HS15.out).at_ hx
              rw [hxt] at h0
              have b0 : (0 : Int) ≤ (b : Int) := by omega
              have b1 : (b : Int) < 12 := by omega
              have b1' : decide ((b : Int) ≥ 12) = false := by simp; omega
              have k0 : (0 : Int) ≤ (k : Int) := by omega
              have k1 : (k : Int) < (m6 : Int) := by omega
              clear hl hmem hbx hx hxt h1 h2 h3 h4
              go_wp2
              go_roundw
              case rel => exact ⟨k + 1, by omega, by go_num, by first | trivial | rfl⟩
              case measure => simp [intOf]; omega
            · obtain rfl : k = m6 := by omega
              go_wp2
              go_roundw
              case rel => exact ⟨t + 1, V, by omega, hV36, by go_num, by first | rfl | (rw [← hVi]), HT2.out, HB6.out⟩
              case measure => simp [intOf]; omega
        · obtain rfl : t = 3 := by omega
          have hu : u = 12 := HT.out.symm.trans (tsum_all HV.out)
          subst hu
          have HE := hide (HEND.out _ HB.out)
          go_wp2
          go_ret
          exact ⟨rfl, HE.out⟩
end Go.Proofs.Ytgkjbickphdeoaa
