/-
  The walk of FnCrashAll.
-/
import Derived.Test.YtddedafjcgohpaaSameZ
import Derived.Test.YtddedafjcgohpaaDrawZ5
import Derived.Test.YtddedafjcgohpaaImpZ8
import Derived.Test.YtddedafjcgohpaaImpZ5
import Derived.Test.YtddedafjcgohpaaCrashM
import Derived.Test.YtddedafjcgohpaaQz
import Derived.Deep.DeepCutAuto
import Derived.Deep.CutBlock
namespace Go.Proofs.Ytddedafjcgohpaa
open Go.RowKit
set_option linter.unusedVariables false
set_option maxRecDepth 100000

theorem Ints.four (w : World) (a b c d : Int) : Ints (w.alloc (.cells #[.int .i64 a, .int .i64 b, .int .i64 c, .int .i64 d] 3)) (w.heap.size + 1) (some ⟨w.heap.size, 0, none⟩) 4 [a, b, c, d] := by
  refine ⟨rfl, fun _ => ⟨_, rfl, by simp, fun j hj => ?_⟩⟩
  rw [add_plain', (Blk.new w 3 #[.int .i64 a, .int .i64 b, .int .i64 c, .int .i64 d]).cell]
  rcases j with _ | _ | _ | _ | j
  · rfl
  · rfl
  · rfl
  · rfl
  · omega

set_option maxHeartbeats 6400000 in
theorem crashAll_walk (A : Option Addr) (n c : Nat) (bs : Nat → Int) (w : World) (hb : Bytes w w.heap.size A n bs) (hn : n ≤ c) (hc : c ≤ maxLen) :
    Calls Try.prog 5 #[.slice A n c] w fun e w' => e = .returned (.bool true) ∧ Below w.heap.size w w' := by
  by_cases hbig : 1048576 < n
  · go_enter Try.func5, Try.ntmps5
    go_wp2
    go_ret
    exact ⟨rfl, Below.refl _ _⟩
  · go_enter Try.func5, Try.ntmps5
    go_wp2_with fail
    refine (drawCrash_any A n c bs _ hb hn hc).mono ?_
    rintro e w1 ⟨A1, m, c1, qs, X, kx, dx, xs, rfl, ⟨hz1, hm, hmc, hcm, hl1, hB1⟩, hx1, hkx, hkdx, hdx⟩
    have HB1 := hide hB1
    have HZ1 := hide hz1
    have hs1 := hB1.size
    have HX1 := hide hx1
    have hkm : kx ≤ maxLen := by omega
    have HP1 := hide (implCrash A1 X m c1 _ _ kx dx qs xs w1 hz1 (Nat.le_refl _) (by omega) hx1 (Nat.le_refl _) hkm)
    have HP2 := hide fun (W : World) (h : Below w1.heap.size w1 W) => specCrash A1 X m c1 _ _ kx dx qs xs W (hz1.below h (Nat.le_refl _)) h.size (by omega) (hx1.below h (Nat.le_refl _)) h.size hkm
    clear hb hB1 hz1 hl1
    obtain ⟨v, hv⟩ : ∃ v, crashOk (zns qs) xs = v := ⟨_, rfl⟩
    rw [hv] at HP1 HP2
    obtain ⟨D, hD⟩ : ∃ D : Dev, crashD (zns qs) xs = D := ⟨_, rfl⟩
    rw [hD] at HP1 HP2
    have HV := hide hv
    have HD := hide (show (if v then crashD (zns qs) xs else []) = D by rw [← hD]; cases v <;> simp [crashD, hv])
    clear hD hv
    go_wp2_with fail
    refine HP1.out.mono ?_
    rintro e w2 ⟨A2, m2, c2, qs2, rfl, ho2, hz2, hB2⟩
    have HO2 := hide ho2
    have HZ2 := hide hz2
    have HW2 := hide hB2
    clear ho2 hz2 hB2 HP1
    go_wp2_with fail
    refine (HP2.out _ HW2.out).mono ?_
    rintro e w3 ⟨A3, m3, c3, qs3, rfl, ho3, hz3, hB3⟩
    have HW3 := hide (HW2.out.trans (hB3.mono HW2.out.size))
    have HPR := hide (pair_same HO2.out ho3 HZ2.out hz3 hB3)
    have HX2 := hide (HO2.out.zns.below hB3 (Nat.le_refl _))
    have HB23 := hide hB3
    have hs23 := hB3.size
    obtain rfl : m3 = m2 := HPR.out.1
    clear ho3 hz3 hB3 HP2
    go_wp2_with fail
    refine (HPR.out.2.2 _ (Below.refl _ _)).mono ?_
    rintro e w4 ⟨rfl, hB4⟩
    have HW4 := hide (HW3.out.trans (hB4.mono HW3.out.size))
    have HW34 := hide hB4
    have HX4 := hide (HX2.out.below hB4 hs23)
    have hs4 := hB4.size
    have HEND := hide fun (W : World) (h : Below w4.heap.size w4 W) => HB1.out.trans ((HW4.out.trans (h.mono HW4.out.size)).mono hs1)
    have hW24 := HB23.out.trans (hB4.mono hs23)
    clear hB4
    rcases v with _ | _
    · go_wp2_with fail
      refine (HPR.out.2.2 _ HW34.out).mono ?_
      rintro e w5 ⟨rfl, hB5⟩
      have HB5 := hide (HEND.out _ hB5)
      clear hB5
      go_wp2
      go_ret
      exact ⟨rfl, HB5.out⟩
    · have hok := HV.out
      have hv4 := (crashOk_iff.1 hok).1
      obtain rfl : m = 4 := by rw [← HZ1.out.1]; exact devV_four hv4
      have HDD := hide (show zns qs2 = crashD (zns qs) xs by rw [HZ2.out, ← HD.out]; rfl)
      obtain rfl : m3 = 4 := by
        have h := congrArg List.length HDD.out
        rw [crashD_len hok] at h
        unfold zns at h
        rw [List.length_map, HO2.out.len] at h
        exact h
      have HZ4 := hide (HZ1.out.below HW4.out (Nat.le_refl _))
      have HX4i := hide (HX1.out.below HW4.out (Nat.le_refl _))
      have hs14 := HW4.out.size
      have HOK := hide hok
      clear hok hv4
      have hv4 := (crashOk_iff.1 HOK.out).1
      have HVV := hide hv4
      have hk64 : crashOk (zns qs) [64, 64, 64, 64] = true := crashOk_iff.2 ⟨hv4, rfl, by decide⟩
      have hk0 : crashOk (zns qs) [0, 0, 0, 0] = true := crashOk_iff.2 ⟨hv4, rfl, by decide⟩
      have hd64 : crashD (zns qs) [64, 64, 64, 64] = syncD (zns qs) := crash_all hk64 (fun k hk => by
        rcases k with _ | _ | _ | _ | k
        · decide
        · decide
        · decide
        · decide
        · omega)
      have HK0 := hide hk0
      have HCR := hide fun (W : World) (h : Below w4.heap.size w4 W) (a b c d : Int) => implCrash A1 (some ⟨W.heap.size, 0, none⟩) 4 c1 _ _ 4 4 qs [a, b, c, d] (W.alloc (.cells #[.int .i64 a, .int .i64 b, .int .i64 c, .int .i64 d] 3)) ((HZ4.out.below h hs14).alloc (by have := h.size; omega) _) (by have := h.size; simp; omega) (by omega) (Ints.four W a b c d) (by simp) (by unfold maxLen; omega)
      have HC1 := hide fun (W : World) (h : Below w4.heap.size w4 W) => HCR.out W h 64 64 64 64
      have HC2 := hide fun (W : World) (h : Below w4.heap.size w4 W) => HCR.out W h 0 0 0 0
      rw [hk64, hd64] at HC1
      rw [hk0] at HC2
      have HSY := hide fun (W : World) (h : Below w4.heap.size w4 W) => implSync A1 4 c1 _ qs W (HZ4.out.below h hs14) (by have := h.size; omega) (by omega)
      rw [hv4, show syncF (zns qs) = syncD (zns qs) by unfold syncF; rw [if_pos hv4]] at HSY
      clear hv4 hk64 hk0 hd64 HCR
      go_wp2_with fail
      refine (HC1.out _ (Below.refl _ _)).mono ?_
      rintro e w5 ⟨A5, m5, c5, qs5, rfl, ho5, hz5, hB5⟩
      have HW5 := hide ((below_box w4 _).trans (hB5.mono (by simp)))
      have HO5 := hide (ho5.mono (show w4.heap.size ≤ _ by simp))
      have HZ5 := hide hz5
      clear ho5 hz5 hB5
      go_wp2_with fail
      refine (HSY.out _ HW5.out).mono ?_
      rintro e w6 ⟨A6, m6, c6, qs6, rfl, ho6, hz6, hB6⟩
      have HW6 := hide (HW5.out.trans (hB6.mono HW5.out.size))
      have HPR2 := hide (pair_same HO5.out ho6 HZ5.out hz6 hB6)
      obtain rfl : m6 = m5 := HPR2.out.1
      clear ho6 hz6 hB6
      go_wp2_with fail
      refine (HC2.out _ HW6.out).mono ?_
      rintro e w7 ⟨A7, m7, c7, qs7, rfl, ho7, hz7, hB7⟩
      have HW67 := hide ((below_box w6 _).trans (hB7.mono (by simp)))
      have HW7 := hide (HW6.out.trans (HW67.out.mono HW6.out.size))
      have HX7 := hide ho7.zns
      have HZ7 := hide hz7
      obtain rfl : m7 = 4 := by
        have h := congrArg List.length hz7
        rw [crashD_len HK0.out] at h
        unfold zns at h
        rw [List.length_map, ho7.len] at h
        exact h
      have hs7 := HW7.out.size
      clear ho7 hz7 hB7
      go_wp2
      go_loopw [15] (fun i wr => ∃ (j : Nat), j ≤ 4 ∧ i = .int .i64 j ∧ Hid (Below w7.heap.size w7 wr)) (fun i _ => 4 - (intOf i).toNat)
      case atStart => exact ⟨0, Nat.zero_le _, rfl, Below.refl _ _⟩
      case round =>
        obtain ⟨j, hj, rfl, HB⟩ := hrel
        have hs := HB.out.size
        by_cases hlt : j < 4
        · obtain ⟨qz, hqz, hok, hn0, hcz⟩ := crashD_get HK0.out hlt
          obtain ⟨q, hq, heq⟩ := zns_get_inv hqz
          subst heq
          obtain ⟨r, hr, her⟩ := zns_get_inv (by rw [HZ7.out]; exact hcz : (zns qs7)[j]? = some (crashZ q.zn (([0, 0, 0, 0] : List Int).getD j 0)))
          have hkr := keep_rng hok hn0
          have hgz : ([0, 0, 0, 0] : List Int).getD j 0 = 0 := by
            rcases j with _ | _ | _ | _ | j
            · rfl
            · rfl
            · rfl
            · rfl
            · omega
          have hX := HX7.out.below HB.out (Nat.le_refl _)
          have hY := (HZ4.out.below HW7.out hs14).below HB.out (by omega)
          obtain ⟨ad', p', rfl, hp', hb', hd0, hd1, hd2⟩ := hX.at_ hr
          obtain ⟨ad, p, rfl, hp, hb5, hc0, hc1, hc2⟩ := hY.at_ hq
          rw [hgz] at her hkr
          have hrl : (r.words.length : Int) = q.synced := by
            have h1 := crashZ_len hok (n := 0) (by decide)
            rw [← her] at h1
            have e : r.zn.1.length = r.words.length := rfl
            rw [e] at h1
            rw [h1]
            have e1 : q.zn.2.1 = q.synced := rfl
            have e2 : q.zn.1 = q.words := rfl
            rw [e1, e2] at hkr
            unfold keepN
            rw [e1, e2]
            omega
          clear hq hr hX hY hqz hcz her hkr hgz hok hn0 hc0 hc2 hd1 hd2
          simp only [Zq.sl] at hd0
          rw [← hrl] at hc1
          generalize r.words.length = l at hd0 hc1 hrl
          clear hrl
          have j0 : (0 : Int) ≤ (j : Int) := by omega
          have j1 : (j : Int) < ((4 : Nat) : Int) := by omega
          have j2 : (j : Int) < 4 := by omega
          go_upto_region 16 with (fail)
          go_quiet (fail)
          go_wp2
          go_roundw
          case rel => exact ⟨j + 1, by omega, by go_num, by first | exact below_drewN HB.out _ | exact HB.out⟩
          case measure => simp [intOf]; omega
        · obtain rfl : j = 4 := by omega
          go_wp2_with fail
          refine (HPR2.out.2.2 _ (HW67.out.trans (HB.out.mono HW67.out.size))).mono ?_
          rintro e w8 ⟨rfl, hB8⟩
          have HE8 := hide (HEND.out _ (HW7.out.trans ((HB.out.trans (hB8.mono hs)).mono hs7)))
          clear hB8
          go_wp2
          go_ret
          exact ⟨rfl, HE8.out⟩
end Go.Proofs.Ytddedafjcgohpaa
