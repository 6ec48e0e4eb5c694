/-
  The walk of FnCrashTwice.
-/
import Derived.Test.YtddedafjcgohpaaSameZ
import Derived.Test.YtddedafjcgohpaaDrawZ5
import Derived.Test.YtddedafjcgohpaaImpZ8
import Derived.Test.YtddedafjcgohpaaCrashM
import Derived.Test.YtddedafjcgohpaaQz
namespace Go.Proofs.Ytddedafjcgohpaa
open Go.RowKit
set_option linter.unusedVariables false
set_option maxRecDepth 100000

set_option maxHeartbeats 6400000 in
theorem crashTwice_walk (A : Option Addr) (n c : Nat) (bs : Nat → Int) (w : World) (hb : Bytes w w.heap.size A n bs) (hn : n ≤ c) (hc : c ≤ maxLen) :
    Calls Try.prog 7 #[.slice A n c] w fun e w' => e = .returned (.bool true) ∧ Below w.heap.size w w' := by
  by_cases hbig : 1048576 < n
  · go_enter Try.func7, Try.ntmps7
    go_wp2
    go_ret
    exact ⟨rfl, Below.refl _ _⟩
  · go_enter Try.func7, Try.ntmps7
    go_wp2_with fail
    refine (drawCrash_any A n c bs _ hb hn hc).mono ?_
    rintro e w1 ⟨A1, m, c1, qs, X, kx, dx, xs, rfl, ⟨hz1, hm, hmc, hcm, hl1, hB1⟩, hx1, hkx, hkdx, hdx⟩
    have HB1 := hide hB1
    have HZ1 := hide hz1
    have hs1 := hB1.size
    have HX1 := hide hx1
    have hkm : kx ≤ maxLen := by omega
    have HP1 := hide (implCrash A1 X m c1 _ _ kx dx qs xs w1 hz1 (Nat.le_refl _) (by omega) hx1 (Nat.le_refl _) hkm)
    have HP2 := hide fun (W : World) (h : Below w1.heap.size w1 W) => specCrash A1 X m c1 _ _ kx dx qs xs W (hz1.below h (Nat.le_refl _)) h.size (by omega) (hx1.below h (Nat.le_refl _)) h.size hkm
    clear hb hB1 hz1 hl1
    obtain ⟨v, hv⟩ : ∃ v, crashOk (zns qs) xs = v := ⟨_, rfl⟩
    rw [hv] at HP1 HP2
    obtain ⟨D, hD⟩ : ∃ D : Dev, crashD (zns qs) xs = D := ⟨_, rfl⟩
    rw [hD] at HP1 HP2
    have HV := hide hv
    have HD := hide (show (if v then crashD (zns qs) xs else []) = D by rw [← hD]; cases v <;> simp [crashD, hv])
    clear hD hv
    go_wp2_with fail
    refine HP1.out.mono ?_
    rintro e w2 ⟨A2, m2, c2, qs2, rfl, ho2, hz2, hB2⟩
    have HO2 := hide ho2
    have HZ2 := hide hz2
    have HW2 := hide hB2
    clear ho2 hz2 hB2 HP1
    go_wp2_with fail
    refine (HP2.out _ HW2.out).mono ?_
    rintro e w3 ⟨A3, m3, c3, qs3, rfl, ho3, hz3, hB3⟩
    have HW3 := hide (HW2.out.trans (hB3.mono HW2.out.size))
    have HPR := hide (pair_same HO2.out ho3 HZ2.out hz3 hB3)
    have HX2 := hide (HO2.out.zns.below hB3 (Nat.le_refl _))
    have HB23 := hide hB3
    have hs23 := hB3.size
    obtain rfl : m3 = m2 := HPR.out.1
    clear ho3 hz3 hB3 HP2
    go_wp2_with fail
    refine (HPR.out.2.2 _ (Below.refl _ _)).mono ?_
    rintro e w4 ⟨rfl, hB4⟩
    have HW4 := hide (HW3.out.trans (hB4.mono HW3.out.size))
    have HW34 := hide hB4
    have HX4 := hide (HX2.out.below hB4 hs23)
    have hs4 := hB4.size
    have HEND := hide fun (W : World) (h : Below w4.heap.size w4 W) => HB1.out.trans ((HW4.out.trans (h.mono HW4.out.size)).mono hs1)
    have hW24 := HB23.out.trans (hB4.mono hs23)
    clear hB4
    rcases v with _ | _
    · go_wp2_with fail
      refine (HPR.out.2.2 _ HW34.out).mono ?_
      rintro e w5 ⟨rfl, hB5⟩
      have HB5 := hide (HEND.out _ hB5)
      clear hB5
      go_wp2
      go_ret
      exact ⟨rfl, HB5.out⟩
    · have hok := HV.out
      have hv4 := (crashOk_iff.1 hok).1
      obtain rfl : m = 4 := by rw [← HZ1.out.1]; exact devV_four hv4
      have HDD := hide (show zns qs2 = crashD (zns qs) xs by rw [HZ2.out, ← HD.out]; rfl)
      obtain rfl : m3 = 4 := by
        have h := congrArg List.length HDD.out
        rw [crashD_len hok] at h
        unfold zns at h
        rw [List.length_map, HO2.out.len] at h
        exact h
      have HZ4 := hide (HZ1.out.below HW4.out (Nat.le_refl _))
      have HX4i := hide (HX1.out.below HW4.out (Nat.le_refl _))
      have hs14 := HW4.out.size
      have HOK := hide hok
      clear hok hv4
      have HCR := hide fun (W : World) (h : Below w4.heap.size w4 W) => implCrash A2 X 4 c2 _ _ kx dx qs2 xs W (HX4.out.below h (Nat.le_trans hs23 hs4)) (by have := h.size; omega) (by omega) (HX4i.out.below h hs14) (by have := h.size; omega) hkm
      have hk2 : crashOk (zns qs2) xs = true := by rw [HDD.out]; exact crashOk_iff.2 ⟨crashD_valid HOK.out, (crashOk_iff.1 HOK.out).2⟩
      have hk3 : crashD (zns qs2) xs = zns qs2 := by rw [HDD.out] at hk2 ⊢; exact crashD_again HOK.out hk2
      rw [hk2, hk3] at HCR
      clear hk2 hk3
      go_wp2_with fail
      refine (HCR.out _ (Below.refl _ _)).mono ?_
      rintro e w5 ⟨A5, m5, c5, qs5, rfl, ho5, hz5, hB5⟩
      have HW5 := hide hB5
      have HRD := hide (pair_read (w3 := w5) (c := c2) ho5 (((HX4.out.below hB5 (Nat.le_trans hs23 hs4))).more (by have := hB5.size; omega)) hz5 (Below.refl _ _))
      obtain rfl : m5 = 4 := HRD.out.1
      clear ho5 hz5 hB5
      go_wp2_with fail
      refine (HRD.out.2 _ (Below.refl _ _)).mono ?_
      rintro e w6 ⟨rfl, hB6⟩
      have HE6 := hide (HEND.out _ (HW5.out.trans (hB6.mono HW5.out.size)))
      clear hB6
      go_wp2
      go_ret
      exact ⟨rfl, HE6.out⟩
end Go.Proofs.Ytddedafjcgohpaa
