/-
  The walk of FnCrash.
-/
import Derived.Test.YtddedafjcgohpaaSameZ
import Derived.Test.YtddedafjcgohpaaDrawZ5
import Derived.Test.YtddedafjcgohpaaImpZ8
import Derived.Test.YtddedafjcgohpaaCrashM
import Derived.Test.YtddedafjcgohpaaQz
import Derived.Deep.DeepCutAuto
import Derived.Deep.CutBlock
namespace Go.Proofs.Ytddedafjcgohpaa
open Go.RowKit
set_option linter.unusedVariables false
set_option maxRecDepth 100000

set_option maxHeartbeats 6400000 in
theorem crash_walk (A : Option Addr) (n c : Nat) (bs : Nat → Int) (w : World) (hb : Bytes w w.heap.size A n bs) (hn : n ≤ c) (hc : c ≤ maxLen) :
    Calls Try.prog 4 #[.slice A n c] w fun e w' => e = .returned (.bool true) ∧ Below w.heap.size w w' := by
  by_cases hbig : 1048576 < n
  · go_enter Try.func4, Try.ntmps4
    go_wp2
    go_ret
    exact ⟨rfl, Below.refl _ _⟩
  · go_enter Try.func4, Try.ntmps4
    go_wp2_with fail
    refine (drawCrash_any A n c bs _ hb hn hc).mono ?_
    rintro e w1 ⟨A1, m, c1, qs, X, kx, dx, xs, rfl, ⟨hz1, hm, hmc, hcm, hl1, hB1⟩, hx1, hkx, hkdx, hdx⟩
    have HB1 := hide hB1
    have HZ1 := hide hz1
    have hs1 := hB1.size
    have HX1 := hide hx1
    have hkm : kx ≤ maxLen := by omega
    have HP1 := hide (implCrash A1 X m c1 _ _ kx dx qs xs w1 hz1 (Nat.le_refl _) (by omega) hx1 (Nat.le_refl _) hkm)
    have HP2 := hide fun (W : World) (h : Below w1.heap.size w1 W) => specCrash A1 X m c1 _ _ kx dx qs xs W (hz1.below h (Nat.le_refl _)) h.size (by omega) (hx1.below h (Nat.le_refl _)) h.size hkm
    clear hb hB1 hz1 hl1
    obtain ⟨v, hv⟩ : ∃ v, crashOk (zns qs) xs = v := ⟨_, rfl⟩
    rw [hv] at HP1 HP2
    obtain ⟨D, hD⟩ : ∃ D : Dev, crashD (zns qs) xs = D := ⟨_, rfl⟩
    rw [hD] at HP1 HP2
    have HV := hide hv
    have HD := hide (show (if v then crashD (zns qs) xs else []) = D by rw [← hD]; cases v <;> simp [crashD, hv])
    clear hD hv
    go_wp2_with fail
    refine HP1.out.mono ?_
    rintro e w2 ⟨A2, m2, c2, qs2, rfl, ho2, hz2, hB2⟩
    have HO2 := hide ho2
    have HZ2 := hide hz2
    have HW2 := hide hB2
    clear ho2 hz2 hB2 HP1
    go_wp2_with fail
    refine (HP2.out _ HW2.out).mono ?_
    rintro e w3 ⟨A3, m3, c3, qs3, rfl, ho3, hz3, hB3⟩
    have HW3 := hide (HW2.out.trans (hB3.mono HW2.out.size))
    have HPR := hide (pair_same HO2.out ho3 HZ2.out hz3 hB3)
    have HX2 := hide (HO2.out.zns.below hB3 (Nat.le_refl _))
    have HB23 := hide hB3
    have hs23 := hB3.size
    obtain rfl : m3 = m2 := HPR.out.1
    clear ho3 hz3 hB3 HP2
    go_wp2_with fail
    refine (HPR.out.2.2 _ (Below.refl _ _)).mono ?_
    rintro e w4 ⟨rfl, hB4⟩
    have HW4 := hide (HW3.out.trans (hB4.mono HW3.out.size))
    have HW34 := hide hB4
    have HX4 := hide (HX2.out.below hB4 hs23)
    have hs4 := hB4.size
    have HEND := hide fun (W : World) (h : Below w4.heap.size w4 W) => HB1.out.trans ((HW4.out.trans (h.mono HW4.out.size)).mono hs1)
    have hW24 := HB23.out.trans (hB4.mono hs23)
    clear hB4
    rcases v with _ | _
    · go_wp2_with fail
      refine (HPR.out.2.2 _ HW34.out).mono ?_
      rintro e w5 ⟨rfl, hB5⟩
      have HB5 := hide (HEND.out _ hB5)
      clear hB5
      go_wp2
      go_ret
      exact ⟨rfl, HB5.out⟩
    · have hok := HV.out
      have hv4 := (crashOk_iff.1 hok).1
      obtain rfl : m = 4 := by rw [← HZ1.out.1]; exact devV_four hv4
      have HDD := hide (show zns qs2 = crashD (zns qs) xs by rw [HZ2.out, ← HD.out]; rfl)
      obtain rfl : m3 = 4 := by
        have h := congrArg List.length HDD.out
        rw [crashD_len hok] at h
        unfold zns at h
        rw [List.length_map, HO2.out.len] at h
        exact h
      have HZ4 := hide (HZ1.out.below HW4.out (Nat.le_refl _))
      have HX4i := hide (HX1.out.below HW4.out (Nat.le_refl _))
      have hs14 := HW4.out.size
      have HOK := hide hok
      clear hok hv4
      go_wp2
      go_loopw [9] (fun i wr => ∃ (j : Nat), j ≤ 4 ∧ i = .int .i64 j ∧ Hid (Below w4.heap.size w4 wr)) (fun i _ => 4 - (intOf i).toNat)
      case atStart => exact ⟨0, Nat.zero_le _, rfl, Below.refl _ _⟩
      case round =>
        obtain ⟨j, hj, rfl, HB⟩ := hrel
        have hs := HB.out.size
        by_cases hlt : j < 4
        · obtain ⟨qz, hqz, hok, hn0, hcz⟩ := crashD_get HOK.out hlt
          obtain ⟨q, hq, heq⟩ := zns_get_inv hqz
          subst heq
          obtain ⟨r, hr, her⟩ := zns_get_inv (by rw [HDD.out]; exact hcz : (zns qs2)[j]? = some (crashZ q.zn (xs.getD j 0)))
          have hkr := keep_rng hok hn0
          have hX := HX4.out.below HB.out (by omega)
          have hY := HZ4.out.below HB.out (by omega)
          obtain ⟨ad', p', rfl, hp', hb', hd0, hd1, hd2⟩ := hX.at_ hr
          obtain ⟨ad, p, rfl, hp, hb5, hc0, hc1, hc2⟩ := hY.at_ hq
          obtain ⟨hi', hle', hcm'⟩ := hX.words hr
          obtain ⟨hi, hle, hcm5⟩ := hY.words hq
          clear hq hr hX hY hqz hcz
          obtain ⟨ws, sy, fu, qa, qc⟩ := q
          obtain ⟨ws', sy', fu', ra, rc⟩ := r
          unfold Zq.zn crashZ at her
          replace hkr : 0 ≤ sy ∧ sy ≤ (ws.length : Int) ∧ ws.length ≤ 64 ∧ sy ≤ keepN (ws, sy, fu) (xs.getD j 0) ∧ keepN (ws, sy, fu) (xs.getD j 0) ≤ (ws.length : Int) := hkr
          injection her with h1 h2
          injection h2 with h2 h3
          simp only at h1 h2 h3
          obtain ⟨y, hy⟩ : ∃ y : Nat, keepN (ws, sy, fu) (xs.getD j 0) = (y : Int) := ⟨(keepN (ws, sy, fu) (xs.getD j 0)).toNat, by omega⟩
          rw [hy] at hkr h1 h2
          rw [Int.toNat_natCast] at h1
          subst h1
          subst h2
          subst h3
          clear hy hok hn0
          simp only [Zq.sl] at hc0 hc1 hc2 hi hle hcm5 hd0 hd1 hd2 hi' hle' hcm'
          obtain ⟨g0, g1, g2, g3, g4⟩ := hkr
          try simp only at g0 g1 g2 g3 g4
          have hyl : y ≤ ws.length := by omega
          have hty : (ws.take y).length = y := by rw [List.length_take]; omega
          rw [hty] at hd0 hi' hle'
          have hi2 := hi.firsts hyl
          generalize ws.length = l at hc0 hi hle hyl g1 g2 g4
          have hqc2 : qc ≤ 9223372036854775807 := by unfold maxLen at hcm5; omega
          have hyq : (y : Int) ≤ (qc : Int) := by omega
          have n1 : decide ((y : Int) < sy) = false := decide_eq_false (by omega)
          have n2 : decide ((l : Int) < (y : Int)) = false := decide_eq_false (by omega)
          have n3 : decide (l < y) = false := decide_eq_false (by omega)
          have HSI := hide fun (i : Nat) => sameInts_yes ra qa y rc y qc _ _ (ws.take y) (ws.take y) (wr.drewN i) (hi'.drewN i) (hi2.drewN i) (by omega) (by omega) rfl
          have j0 : (0 : Int) ≤ (j : Int) := by omega
          have j1 : (j : Int) < ((4 : Nat) : Int) := by omega
          have j2 : (j : Int) < 4 := by omega
          clear hi hle hcm5 hi' hle' hcm' hi2 hty
          go_upto_region 12 with (fail)
          go_quiet ((go_at_call 17; exact quiet_on3 (HSI.out _)))
          go_wp2
          go_roundw
          case rel => exact ⟨j + 1, by omega, by go_num, by first | exact below_drewN HB.out _ | exact HB.out⟩
          case measure => simp [intOf]; omega
        · obtain rfl : j = 4 := by omega
          have HE5 := hide (HEND.out _ HB.out)
          go_wp2
          go_ret
          exact ⟨rfl, HE5.out⟩
end Go.Proofs.Ytddedafjcgohpaa
