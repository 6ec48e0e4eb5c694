/-
  The walk of FnLayersWrite.
-/
import Derived.Test.YtapfbkjgmfmepaaLawY0
import Derived.Deep.RegionHeld3
namespace Go.Proofs.Ytapfbkjgmfmepaa
open Go.RowKit
set_option linter.unusedVariables false
set_option maxRecDepth 100000

theorem wr_result (ls : List Ly) (ps : Ly) : (wrV ls ps = true → laysV (wrL ls ps) = true) ∧ (wrV ls ps = false → wrL ls ps = []) :=
  ⟨wr_valid, fun h => by unfold wrL; rw [h]; rfl⟩
theorem wr_parts {ls : List Ly} {ps : Ly} (h : wrV ls ps = true) : laysV ls = true ∧ layV ps = true := by
  unfold wrV at h
  rwa [Bool.and_eq_true] at h

set_option maxHeartbeats 6400000 in
theorem layersWrite_walk (A : Option Addr) (n c : Nat) (bs : Nat → Int) (w : World) (hb : Bytes w w.heap.size A n bs) (hn : n ≤ c) (hc : c ≤ maxLen) :
    Calls Try.prog 4 #[.slice A n c] w fun e w' => e = .returned (.bool true) ∧ Below w.heap.size w w' := by
  by_cases hbig : 1048576 < n
  · go_enter Try.func4, Try.ntmps4
    go_wp2
    go_ret
    exact ⟨rfl, Below.refl _ _⟩
  · go_enter Try.func4, Try.ntmps4
    go_wp2_with fail
    refine (drawLyW_any A n c bs _ hb hn hc).mono ?_
    rintro e w1 ⟨A1, m, c1, qs, AP, N, cP, ps, rfl, hd, hpp, hN⟩
    have HD := hide hd
    have HPP := hide hpp
    have hm := hd.num
    have hl := hd.lyi.1
    have hs1 := hd.below.size
    have HP1 := hide (implWrite A1 AP m c1 N cP _ qs ps w1 hd.lyi hpp (Nat.le_refl _) (big_qs hd.len) (by omega) (by omega))
    have HP2 := hide fun (W : World) (h : Below w1.heap.size w1 W) => specWrite A1 AP m c1 N cP _ qs ps W (hd.lyi.below h (Nat.le_refl _)) (hpp.below h (Nat.le_refl _)) h.size (big_qs hd.len) (by omega) (by omega)
    clear hb hd hpp
    obtain ⟨r1, r0⟩ := wr_result (lys qs) ps
    obtain ⟨V, hV⟩ : ∃ V : Bool, wrV (lys qs) ps = V := ⟨_, rfl⟩
    obtain ⟨L, hL⟩ : ∃ L : List Ly, wrL (lys qs) ps = L := ⟨_, rfl⟩
    rw [hV, hL] at HP1 HP2
    rw [hV, hL] at r1 r0
    have HV := hide hV
    have HL := hide hL
    have HLEN := hide (lens_of r1 r0)
    have HLC := hide (lens_count r1 r0)
    have HLV := hide r1
    clear hV hL r1 r0
    go_wp2_with fail
    refine HP1.out.mono ?_
    rintro e w2 ⟨A2, m2, c2, qs2, rfl, ho2, he2, hB2⟩
    have HO2 := hide ho2
    have HE2 := hide he2
    have HW2 := hide hB2
    clear ho2 he2 hB2 HP1
    go_wp2_with fail
    refine (HP2.out _ HW2.out).mono ?_
    rintro e w3 ⟨A3, m3, c3, qs3, rfl, ho3, he3, hB3⟩
    have HW3 := hide (HW2.out.trans (hB3.mono HW2.out.size))
    have HPR := hide (pair_sameY HO2.out ho3 HE2.out he3 HLEN.out hB3 HLC.out)
    have HX2 := hide (HO2.out.lyi.below hB3 (Nat.le_refl _))
    have hs23 := hB3.size
    obtain rfl : m3 = m2 := HPR.out.1
    have HM2 := hide HPR.out.2.1
    have hm25 : m3 ≤ 5 := by have h1 := HLC.out; have h2 := HM2.out; omega
    clear ho3 he3 hB3 HP2
    rcases V with _ | _
    all_goals
      go_wp2_with fail
      refine (HPR.out.2.2 _ (Below.refl _ _)).mono ?_
      rintro e w4 ⟨rfl, hB4⟩
      have HW4 := hide (HW3.out.trans (hB4.mono HW3.out.size))
      have HW34 := hide hB4
      have HX4 := hide (HX2.out.below hB4 hs23)
      have hs4 := hB4.size
      have hs14 := HW4.out.size
      have HEND := hide fun (W : World) (h : Below w4.heap.size w4 W) => HD.out.below.trans ((HW4.out.trans (h.mono HW4.out.size)).mono hs1)
      have hs24 : w2.heap.size ≤ w4.heap.size := Nat.le_trans hs23 hs4
      clear hB4
      have HI4 := hide (HD.out.lyi.below HW4.out (Nat.le_refl _))
    · go_wp2_with fail
      refine (HPR.out.2.2 _ HW34.out).mono ?_
      rintro e w5 ⟨rfl, hB5⟩
      have HB5 := hide (HEND.out _ hB5)
      clear hB5
      go_wp2
      go_ret
      exact ⟨rfl, HB5.out⟩
    · obtain ⟨v1, v2⟩ := wr_parts HV.out
      have hll : (lys qs).length = m := by rw [lys_length, hl]
      have hml : m3 = m := by rw [HM2.out, ← HL.out, wr_length HV.out, hll]
      have h15 := (laysV_iff.1 v1).2.1
      rw [hll] at h15
      subst hml
      have HR1 := hide fun (W : World) (h : Below w4.heap.size w4 W) (k : Nat) => implRead A2 m3 c2 _ qs2 (k : Int) W (HX4.out.below h hs24) (Nat.le_trans hs24 h.size) (big_qs (lens_qs HE2.out HLEN.out)) (by omega)
      have HR2 := hide fun (W : World) (h : Below w4.heap.size w4 W) (k : Nat) => implRead A1 m3 c1 _ qs (k : Int) W (HI4.out.below h hs14) (Nat.le_trans hs14 h.size) (big_qs HD.out.len) (by omega)
      have HRR := hide fun (k : Nat) (hk : k < 12) => (show rdL (lys qs2) k = seen ps k (rdL (lys qs) k) N from by
        rw [← HPP.out.1, seen_all, HE2.out, rdL_at (HLV.out (by trivial)) hk, rdL_at v1 hk, ← HL.out, wr_length HV.out]
        exact wr_read HV.out hk)
      obtain ⟨K, hK⟩ : ∃ K, m3 = K + 1 := ⟨m3 - 1, by omega⟩
      have HSM := hide fun (W : World) (h : Below w4.heap.size w4 W) => same_layers (d := c1) (c := c2) ((HX4.out.below h hs24).firsts (m := K) (by omega)) ((HI4.out.below h hs14).firsts (m := K) (by omega)) (fun q hq => big_qs (lens_qs HE2.out HLEN.out) q (List.mem_of_mem_take hq)) (by omega) (by
        rw [lys_take, lys_take, HE2.out, ← HL.out]
        have h := wr_take HV.out
        rwa [hll, show m3 - 1 = K by omega] at h)
      have HVL := hide fun (W : World) (h : Below w4.heap.size w4 W) => implLayers A2 m3 c2 _ qs2 W (HX4.out.below h hs24) (Nat.le_trans hs24 h.size) (big_qs (lens_qs HE2.out HLEN.out)) (by omega)
      rw [HE2.out, HLV.out (by trivial)] at HVL
      have wm : IntKind.i64.wrap ((m3 : Int) - 1) = (K : Int) := by rw [hK, show ((K + 1 : Nat) : Int) - 1 = (K : Int) by omega]; exact IntWalk.i64_in _ (by omega)
      have hcap2 := HO2.out.cap.1
      have hnc := HD.out.nc
      have q0 : (0 : Int) ≤ (K : Int) := by omega
      have q1 : (K : Int) ≤ (c2 : Int) := by omega
      have q2 : (K : Int) ≤ (c1 : Int) := by omega
      have HP4 := hide (HPP.out.below HW4.out (Nat.le_refl _))
      have HPV := hide v2
      clear v1 v2 hll hK
      go_wp2
      go_loopw [9, 10, 11] (fun i _ _ wr => ∃ k : Nat, k ≤ 12 ∧ i = .int .i64 k ∧ Hid (Below w4.heap.size w4 wr)) (fun i _ _ _ => 12 - (intOf i).toNat)
      case atStart => exact ⟨0, by omega, rfl, Below.refl _ _⟩
      case round =>
        obtain ⟨k, hk, rfl, HB⟩ := hrel
        by_cases hlt : k < 12
        · have k1 : (k : Int) < 12 := by omega
          have hrr := HRR.out k hlt
          have HC1 := hide fun (W : World) (h : Below w4.heap.size w4 W) => HR1.out W h k
          have HC2 := hide (HR2.out wr HB.out k)
          rw [hrr] at HC1
          generalize rdL (lys qs) k = v at HC1 HC2
          clear hrr
          go_wp2_with fail
          refine HC2.out.mono ?_
          rintro e u1 ⟨rfl, hu1⟩
          have HU1 := hide (HB.out.trans (hu1.mono HB.out.size))
          have HP5 := hide (HP4.out.below HU1.out hs14)
          clear hu1
          go_wp2
          go_loop [10, 11] (fun o j => ∃ (i : Nat), i ≤ N ∧ j = .int .i64 i ∧ o = .int .i64 (seen ps k v i)) (fun _ j => N - (intOf j).toNat)
          case atStart => exact ⟨0, Nat.zero_le _, rfl, by rw [seen_zero]⟩
          case round =>
            obtain ⟨i, hi, rfl, rfl⟩ := hrel
            by_cases hlt2 : i < N
            · obtain ⟨e, he⟩ : ∃ e, ps[i]? = some e := ⟨_, List.getElem?_eq_getElem (by rw [HPP.out.1]; exact hlt2)⟩
              obtain ⟨ad2, p2, rfl, hp2, hb2, hd0, hd1⟩ := HP5.out.at_ he
              have HST := hide (seen_step HPV.out he (k : Int) v)
              obtain ⟨f, y⟩ := e
              simp only at hd0 hd1 HST
              clear he
              by_cases hf : f = (k : Int)
              · rw [if_pos hf] at HST
                have hf' : (f == (k : Int)) = true := by simpa using hf
                go_wp2
                go_round
                case rel => exact ⟨i + 1, by omega, by go_num, by rw [HST.out]⟩
                case measure => simp [intOf]; omega
              · rw [if_neg hf] at HST
                have hf' : (f == (k : Int)) = false := by simpa using hf
                go_wp2
                go_round
                case rel => exact ⟨i + 1, by omega, by go_num, by rw [HST.out]⟩
                case measure => simp [intOf]; omega
            · obtain rfl : i = N := by omega
              have HCC := hide (HC1.out _ HU1.out)
              generalize seen ps (k : Int) v i = v2 at HCC ⊢
              go_wp2_with fail
              refine HCC.out.mono ?_
              rintro e u2 ⟨rfl, hu2⟩
              have HU2 := hide (HU1.out.trans (hu2.mono HU1.out.size))
              clear hu2
              go_wp2
              go_roundw
              case rel => exact ⟨k + 1, by omega, by go_num, HU2.out⟩
              case measure => simp [intOf]; omega
        · obtain rfl : k = 12 := by omega
          have HSM1 := hide (HSM.out _ (below_drewN HB.out 1)).2
          go_wp2_with fail
          go_region_held3 (fun _ => True) (trivial)
            ((first
              | (go_at_call 21; refine HSM1.out.mono ?_; rintro e u1 ⟨rfl, z, rfl⟩; have HB1 := hide (below_drewN HB.out (1 + z)); have HVV := hide (HVL.out _ HB1.out))
              | (go_at_call 22; refine HVV.out.mono ?_; rintro e u2 ⟨rfl, hu2⟩; have HBF := hide (HEND.out _ (HB1.out.trans (hu2.mono HB1.out.size))))))
          all_goals
            go_wp2
            go_ret
            exact ⟨rfl, HBF.out⟩
end Go.Proofs.Ytapfbkjgmfmepaa
