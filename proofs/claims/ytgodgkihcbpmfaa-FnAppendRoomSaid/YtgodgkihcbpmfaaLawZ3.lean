/-
  The walk of FnAppendRoom.
-/
import Derived.Test.YtgodgkihcbpmfaaSameZ
import Derived.Test.YtgodgkihcbpmfaaDrawZ4
import Derived.Test.YtgodgkihcbpmfaaImpZ6
import Derived.Test.YtgodgkihcbpmfaaQz
namespace Go.Proofs.Ytgodgkihcbpmfaa
open Go.RowKit
set_option linter.unusedVariables false
set_option maxRecDepth 100000

set_option maxHeartbeats 6400000 in
theorem appendRoom_walk (A : Option Addr) (n c : Nat) (bs : Nat → Int) (w : World) (hb : Bytes w w.heap.size A n bs) (hn : n ≤ c) (hc : c ≤ maxLen) :
    Calls Try.prog 5 #[.slice A n c] w fun e w' => e = .returned (.bool true) ∧ Below w.heap.size w w' := by
  by_cases hbig : 1048576 < n
  · go_enter Try.func5, Try.ntmps5
    go_wp2
    go_ret
    exact ⟨rfl, Below.refl _ _⟩
  · go_enter Try.func5, Try.ntmps5
    go_wp2_with fail
    refine (drawAppend_any A n c bs _ hb hn hc).mono ?_
    rintro e w1 ⟨A1, m, c1, qs, z, X, kx, dx, xs, rfl, ⟨hz1, hm, hmc, hcm, hl1, hB1⟩, hzz0, hzz1, hx1, hkx, hkdx, hdx⟩
    have HB1 := hide hB1
    have HZ1 := hide hz1
    have hs1 := hB1.size
    have HX1 := hide hx1
    have HP1 := hide (implAppend A1 X m c1 _ _ kx dx z qs xs w1 hz1 (Nat.le_refl _) (by omega) hx1 (Nat.le_refl _) (by omega))
    have HP2 := hide fun (W : World) (h : Below w1.heap.size w1 W) => specAppend A1 X m c1 _ _ kx dx z qs xs W (hz1.below h (Nat.le_refl _)) h.size (by omega) (hx1.below h (Nat.le_refl _)) h.size (by omega)
    clear hb hB1 hz1 hx1
    have hdx' : dx ≤ 9223372036854775807 := by unfold maxLen at hdx; omega
    obtain ⟨N, hN⟩ : ∃ N : Int, appendN (zns qs) z xs = N := ⟨_, rfl⟩
    obtain ⟨D, hD⟩ : ∃ D : Dev, appendD (zns qs) z xs = D := ⟨_, rfl⟩
    rw [hN, hD] at HP1 HP2
    have HN := hide hN
    have HD := hide hD
    have HL := hide hl1
    clear hD hN hl1
    go_wp2_with fail
    refine HP1.out.mono ?_
    rintro e w2 ⟨A2, m2, c2, qs2, rfl, ho2, hz2, hB2⟩
    have HO2 := hide ho2
    have HZ2 := hide hz2
    have HW2 := hide hB2
    clear ho2 hz2 hB2 HP1
    go_wp2_with fail
    refine (HP2.out _ HW2.out).mono ?_
    rintro e w3 ⟨A3, m3, c3, qs3, rfl, ho3, hz3, hB3⟩
    have HW3 := hide (HW2.out.trans (hB3.mono HW2.out.size))
    have HPR := hide (pair_same HO2.out ho3 HZ2.out hz3 hB3)
    have HX2 := hide (HO2.out.zns.below hB3 (Nat.le_refl _))
    have HB23 := hide hB3
    have hs23 := hB3.size
    obtain rfl : m3 = m2 := HPR.out.1
    clear ho3 hz3 hB3 HP2
    go_wp2_with fail
    refine (HPR.out.2.2 _ (Below.refl _ _)).mono ?_
    rintro e w4 ⟨rfl, hB4⟩
    have HW4 := hide (HW3.out.trans (hB4.mono HW3.out.size))
    have HW34 := hide hB4
    have HX4 := hide (HX2.out.below hB4 hs23)
    have hs4 := hB4.size
    have HEND := hide fun (W : World) (h : Below w4.heap.size w4 W) => HB1.out.trans ((HW4.out.trans (h.mono HW4.out.size)).mono hs1)
    have hW24 := HB23.out.trans (hB4.mono hs23)
    clear hB4
    rcases hok : (devV (zns qs) && inB z 0 3 && allW xs) with _ | _
    · obtain rfl : 2 = N := by rw [← HN.out, appendN_no hok]
      clear hok
      go_wp2_with fail
      refine (HPR.out.2.2 _ HW34.out).mono ?_
      rintro e w5 ⟨rfl, hB5⟩
      have HB5 := hide (HEND.out _ hB5)
      clear hB5
      go_wp2
      go_ret
      exact ⟨rfl, HB5.out⟩
    · have hzv : zoneV (zns qs) z = true := by rw [Bool.and_eq_true] at hok; exact hok.1
      obtain ⟨k, q, rfl, hk4, h4, hq, hl⟩ := zone_parts HZ1.out hzv
      subst h4
      have hN2 := HN.out
      have hD2 := HD.out
      rw [appendN_yes hok (zns_get hq)] at hN2
      rw [appendD_yes hok (zns_get hq)] at hD2
      have hql := hl q (List.mem_of_getElem? hq)
      have hxl := HX1.out.1
      have HZ4 := hide (HZ1.out.below HW4.out (Nat.le_refl _))
      obtain ⟨ad, p, rfl, hp, hb5, hc0, hc1, hc2⟩ := HZ4.out.at_ hq
      have hk0 : (0 : Int) ≤ (k : Int) := by omega
      have k1 : (k : Int) < ((4 : Nat) : Int) := by omega
      have k2 : (k : Int) < 4 := by omega
      clear hok hq hl hzv hc1
      obtain ⟨ws, sy, fu, qa, qc⟩ := q
      rw [hxl] at hN2 hD2
      simp only [Zq.sl] at hc0 hc2 hql
      replace hN2 : (if (!fu && decide (ws.length + kx ≤ 64)) = true then (0 : Int) else 1) = N := hN2
      replace hD2 : (if (!fu && decide (ws.length + kx ≤ 64)) = true then (zns qs).set k (ws ++ xs, sy, fu) else zns qs) = D := hD2
      by_cases hroom : (!fu && decide (ws.length + kx ≤ 64)) = true
      · rw [if_pos hroom] at hN2
        subst hN2
        simp only [Bool.and_eq_true, Bool.not_eq_true', decide_eq_true_eq] at hroom
        obtain ⟨rfl, hlen⟩ := hroom
        clear hD2
        generalize ws.length = l at hc0 hql hlen
        go_wp2
        go_ret
        exact ⟨rfl, HEND.out _ (Below.refl _ _)⟩
      · rw [if_neg hroom] at hN2 hD2
        subst hN2
        have HRD := hide (pair_read (w3 := w4) (c := c1) HO2.out (HZ4.out.more HW4.out.size) (HZ2.out.trans hD2.symm) hW24)
        obtain rfl : m3 = 4 := HRD.out.1
        clear hD2 hxl
        rcases fu with _ | _
        · have hlen : 64 < (ws.length : Int) + (kx : Int) := by
            have h : ¬ ws.length + kx ≤ 64 := by simpa using hroom
            omega
          clear hroom
          generalize ws.length = l at hc0 hql hlen
          go_wp2_with fail
          refine (HRD.out.2 _ (Below.refl _ _)).mono ?_
          rintro e w5 ⟨rfl, hB5⟩
          have HB5 := hide (HEND.out _ hB5)
          clear hB5
          go_wp2
          go_ret
          exact ⟨rfl, HB5.out⟩
        · clear hroom
          generalize ws.length = l at hc0 hql
          go_wp2_with fail
          refine (HRD.out.2 _ (Below.refl _ _)).mono ?_
          rintro e w5 ⟨rfl, hB5⟩
          have HB5 := hide (HEND.out _ hB5)
          clear hB5
          go_wp2
          go_ret
          exact ⟨rfl, HB5.out⟩
end Go.Proofs.Ytgodgkihcbpmfaa
