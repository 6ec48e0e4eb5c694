/-
  The walk of FnCutRange.
-/
import Derived.Test.YtddedafjcgohpaaSameZ
import Derived.Test.YtddedafjcgohpaaDrawZ4
import Derived.Test.YtddedafjcgohpaaImpZ7
import Derived.Test.YtddedafjcgohpaaQz
namespace Go.Proofs.Ytddedafjcgohpaa
open Go.RowKit
set_option linter.unusedVariables false
set_option maxRecDepth 100000

set_option maxHeartbeats 6400000 in
theorem cutRange_walk (A : Option Addr) (n c : Nat) (bs : Nat → Int) (w : World) (hb : Bytes w w.heap.size A n bs) (hn : n ≤ c) (hc : c ≤ maxLen) :
    Calls Try.prog 3 #[.slice A n c] w fun e w' => e = .returned (.bool true) ∧ Below w.heap.size w w' := by
  by_cases hbig : 1048576 < n
  · go_enter Try.func3, Try.ntmps3
    go_wp2
    go_ret
    exact ⟨rfl, Below.refl _ _⟩
  · go_enter Try.func3, Try.ntmps3
    go_wp2_with fail
    refine (drawCut_any A n c bs _ hb hn hc).mono ?_
    rintro e w1 ⟨A1, m, c1, qs, z, x, rfl, ⟨hz1, hm, hmc, hcm, hl1, hB1⟩, hzz0, hzz1, hx0, hx1⟩
    have HB1 := hide hB1
    have HZ1 := hide hz1
    have hs1 := hB1.size
    have HP1 := hide (implCut A1 m c1 _ z x qs w1 hz1 (Nat.le_refl _) (by omega))
    have HP2 := hide fun (W : World) (h : Below w1.heap.size w1 W) => specCut A1 m c1 _ z x qs W (hz1.below h (Nat.le_refl _)) h.size (by omega)
    clear hb hB1 hz1 hl1
    obtain ⟨v, hv⟩ : ∃ v, cutOk (zns qs) z x = v := ⟨_, rfl⟩
    rw [hv] at HP1 HP2
    obtain ⟨D, hD⟩ : ∃ D : Dev, cutD (zns qs) z x = D := ⟨_, rfl⟩
    rw [hD] at HP1 HP2
    have HV := hide hv
    have HD := hide (show (if v then modD (zns qs) z (cutZ x) else []) = D by rw [← hD, ← hv]; rfl)
    clear hD hv
    go_wp2_with fail
    refine HP1.out.mono ?_
    rintro e w2 ⟨A2, m2, c2, qs2, rfl, ho2, hz2, hB2⟩
    have HO2 := hide ho2
    have HZ2 := hide hz2
    have HW2 := hide hB2
    clear ho2 hz2 hB2 HP1
    go_wp2_with fail
    refine (HP2.out _ HW2.out).mono ?_
    rintro e w3 ⟨A3, m3, c3, qs3, rfl, ho3, hz3, hB3⟩
    have HW3 := hide (HW2.out.trans (hB3.mono HW2.out.size))
    have HPR := hide (pair_same HO2.out ho3 HZ2.out hz3 hB3)
    have HX2 := hide (HO2.out.zns.below hB3 (Nat.le_refl _))
    have HB23 := hide hB3
    have hs23 := hB3.size
    obtain rfl : m3 = m2 := HPR.out.1
    clear ho3 hz3 hB3 HP2
    go_wp2_with fail
    refine (HPR.out.2.2 _ (Below.refl _ _)).mono ?_
    rintro e w4 ⟨rfl, hB4⟩
    have HW4 := hide (HW3.out.trans (hB4.mono HW3.out.size))
    have HW34 := hide hB4
    have HX4 := hide (HX2.out.below hB4 hs23)
    have hs4 := hB4.size
    have HEND := hide fun (W : World) (h : Below w4.heap.size w4 W) => HB1.out.trans ((HW4.out.trans (h.mono HW4.out.size)).mono hs1)
    clear hB4
    have HZ4 := hide (HZ1.out.below HW4.out (Nat.le_refl _))
    have hs14 := HW4.out.size
    have HDVs := hide fun (W : World) (h : Below w4.heap.size w4 W) => specDV A1 m c1 _ qs W (HZ4.out.below h hs14) (by omega)
    rcases hdv : devV (zns qs) with _ | _
    · rw [hdv] at HDVs
      clear hdv
      go_wp2_with fail
      refine (HDVs.out _ (Below.refl _ _)).mono ?_
      rintro e w5 ⟨rfl, q5, rfl⟩
      go_wp2_with fail
      refine (HPR.out.2.2 _ (below_drewN HW34.out q5)).mono ?_
      rintro e w6 ⟨rfl, hB6⟩
      have HE6 := hide (HEND.out _ (below_undrew hB6))
      clear hB6
      go_wp2
      go_ret
      exact ⟨rfl, HE6.out⟩
    · rw [hdv] at HDVs
      have HDV := hide hdv
      clear hdv
      by_cases hzin : 0 ≤ z ∧ z ≤ 3
      · obtain ⟨hza, hzb⟩ := hzin
        have hzv : zoneV (zns qs) z = true := by unfold zoneV; rw [HDV.out, inB_true hza hzb]; rfl
        obtain ⟨k, q, rfl, hk4, h4, hq, hl⟩ := zone_parts HZ1.out hzv
        subst h4
        have hql := hl q (List.mem_of_getElem? hq)
        have HVX := hide (show inB x 0 q.words.length = v by rw [← HV.out, cutOk_at hzv (zns_get hq)]; rfl)
        have hcok : cutOk (zns qs) k q.words.length = true := by rw [cutOk_at hzv (zns_get hq)]; exact inB_true (by omega) (Int.le_refl _)
        have hzk := (devV_iff.1 HDV.out).1 q.zn (List.mem_map_of_mem (List.mem_of_getElem? hq))
        have hsyl : q.synced ≤ (q.words.length : Int) := by
          unfold zoneOk at hzk
          rw [Bool.and_eq_true] at hzk
          exact (inB_iff.1 hzk.2).2
        have hcd : cutD (zns qs) k q.words.length = zns qs := by
          unfold cutD
          rw [if_pos hcok, modD_at (zns_get hq)]
          have e : cutZ (q.words.length : Int) q.zn = q.zn := by
            unfold cutZ Zq.zn
            simp only [Int.toNat_natCast]
            rw [List.take_of_length_le (Nat.le_refl _), Int.min_eq_left hsyl]
          rw [e]
          apply List.ext_getElem?
          intro i
          rw [List.getElem?_set]
          by_cases e2 : k = i
          · subst e2
            rw [if_pos rfl, zns_get hq]
            rw [if_pos (by unfold zns; rw [List.length_map, HZ1.out.1]; exact hk4)]
          · rw [if_neg e2]
        have HCU := hide fun (W : World) (h : Below w4.heap.size w4 W) => implCut A1 4 c1 _ k q.words.length qs W (HZ4.out.below h hs14) (by have := h.size; omega) (by omega)
        rw [hcok, hcd] at HCU
        have HQ := hide hq
        have k0 : (0 : Int) ≤ (k : Int) := by omega
        have k1 : (k : Int) < ((4 : Nat) : Int) := by omega
        have k2 : (k : Int) < 4 := by omega
        clear hzv hq hl hcok hzk hsyl hcd
        go_wp2_with fail
        refine (HDVs.out _ (Below.refl _ _)).mono ?_
        rintro e w5 ⟨rfl, q5, rfl⟩
        have HY := hide (HZ4.out.drewN q5)
        obtain ⟨ad, p, rfl, hp, hb5, hc0, hc1, hc2⟩ := HY.out.at_ HQ.out
        have HW5 := hide (below_drewN (Below.refl w4.heap.size w4) q5)
        have HP := hide (HCU.out _ HW5.out)
        simp only [Zq.sl] at hc0
        generalize q.words.length = l at hc0 hql HVX HP
        clear hc1 hc2 HCU
        go_wp2_with fail
        refine HP.out.mono ?_
        rintro e w6 ⟨A6, m6, c6, qs6, rfl, ho6, hz6, hB6⟩
        have HW46 := hide (below_undrew hB6)
        have HZ6 := hide (HZ4.out.below HW46.out hs14)
        have HRD := hide (pair_read (w3 := w6) (c := c1) ho6 (HZ6.out.more (by have := HW46.out.size; omega)) hz6 (Below.refl _ _))
        obtain rfl : m6 = 4 := HRD.out.1
        obtain ⟨ad6, p6, e6, hp6, hb6, hd0, hd1, hd2⟩ := HZ6.out.at_ HQ.out
        injection e6 with e6
        subst e6
        obtain rfl : p6 = p := hp6.symm.trans hp
        have hd0' := (HW46.out.cell (p := p6) (by omega)).trans (show w4.cell? p6 = some (.slice q.addr l q.cap) from hc0)
        clear ho6 hz6 hB6 hd0 hd1 hd2 hp6 hc0
        by_cases hx0' : 0 ≤ x
        · by_cases hx1' : x ≤ (l : Int)
          · obtain rfl : true = v := by rw [← HVX.out, inB_true hx0' hx1']
            go_wp2_with fail
            refine (HRD.out.2 _ (Below.refl _ _)).mono ?_
            rintro e w7 ⟨rfl, hB7⟩
            have HE7 := hide (HEND.out _ (HW46.out.trans (hB7.mono HW46.out.size)))
            clear hB7
            go_wp2
            go_ret
            exact ⟨rfl, HE7.out⟩
          · obtain rfl : false = v := by rw [← HVX.out]; unfold inB; simp; omega
            have hx1'' : decide (x ≤ (l : Int)) = false := decide_eq_false hx1'
            go_wp2_with fail
            refine (HRD.out.2 _ (Below.refl _ _)).mono ?_
            rintro e w7 ⟨rfl, hB7⟩
            have HE7 := hide (HEND.out _ (HW46.out.trans (hB7.mono HW46.out.size)))
            clear hB7
            go_wp2
            go_ret
            exact ⟨rfl, HE7.out⟩
        · obtain rfl : false = v := by rw [← HVX.out]; unfold inB; simp; omega
          have hx0'' : decide (0 ≤ x) = false := decide_eq_false hx0'
          go_wp2_with fail
          refine (HRD.out.2 _ (Below.refl _ _)).mono ?_
          rintro e w7 ⟨rfl, hB7⟩
          have HE7 := hide (HEND.out _ (HW46.out.trans (hB7.mono HW46.out.size)))
          clear hB7
          go_wp2
          go_ret
          exact ⟨rfl, HE7.out⟩
      · rcases (show z < 0 ∨ (0 ≤ z ∧ 4 ≤ z) by omega) with hza | ⟨hza, hzb⟩
        all_goals
          clear hzin
          go_wp2_with fail
          refine (HDVs.out _ (Below.refl _ _)).mono ?_
          rintro e w5 ⟨rfl, q5, rfl⟩
          go_wp2_with fail
          refine (HPR.out.2.2 _ (below_drewN HW34.out q5)).mono ?_
          rintro e w6 ⟨rfl, hB6⟩
          have HE6 := hide (HEND.out _ (below_undrew hB6))
          clear hB6
          go_wp2
          go_ret
          exact ⟨rfl, HE6.out⟩
end Go.Proofs.Ytddedafjcgohpaa
