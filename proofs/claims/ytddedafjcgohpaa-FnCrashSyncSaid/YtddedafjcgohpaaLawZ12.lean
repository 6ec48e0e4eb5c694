/-
  The walk of FnCrashSync.
-/
import Derived.Test.YtddedafjcgohpaaSameZ
import Derived.Test.YtddedafjcgohpaaDrawZ5
import Derived.Test.YtddedafjcgohpaaImpZ8
import Derived.Test.YtddedafjcgohpaaImpZ5
import Derived.Test.YtddedafjcgohpaaCrashM
import Derived.Test.YtddedafjcgohpaaQz
namespace Go.Proofs.Ytddedafjcgohpaa
open Go.RowKit
set_option linter.unusedVariables false
set_option maxRecDepth 100000

theorem Ints.four' (w : World) (a b c d : Int) : Ints (w.alloc (.cells #[.int .i64 a, .int .i64 b, .int .i64 c, .int .i64 d] 3)) (w.heap.size + 1) (some ⟨w.heap.size, 0, none⟩) 4 [a, b, c, d] := by
  refine ⟨rfl, fun _ => ⟨_, rfl, by simp, fun j hj => ?_⟩⟩
  rw [add_plain', (Blk.new w 3 #[.int .i64 a, .int .i64 b, .int .i64 c, .int .i64 d]).cell]
  rcases j with _ | _ | _ | _ | j
  · rfl
  · rfl
  · rfl
  · rfl
  · omega

set_option maxHeartbeats 6400000 in
theorem crashSync_walk (A : Option Addr) (n c : Nat) (bs : Nat → Int) (A' : Option Addr) (n' c' : Nat) (bs' : Nat → Int) (w : World) (hb : Bytes w w.heap.size A n bs) (hn : n ≤ c) (hc : c ≤ maxLen)
    (hb' : Bytes w w.heap.size A' n' bs') (hn1 : n' ≤ c') (hc1 : c' ≤ maxLen) :
    Calls Try.prog 6 #[.slice A n c, .slice A' n' c'] w fun e w' => e = .returned (.bool true) ∧ Below w.heap.size w w' := by
  have hn' : n' ≤ 9223372036854775807 := by unfold maxLen at hc1; omega
  clear hc1 hb'
  by_cases hbig : 1048576 < n
  · go_enter Try.func6, Try.ntmps6
    go_wp2
    go_ret
    exact ⟨rfl, Below.refl _ _⟩
  by_cases hbig' : 1048576 < n'
  · go_enter Try.func6, Try.ntmps6
    go_wp2
    go_ret
    exact ⟨rfl, Below.refl _ _⟩
  · go_enter Try.func6, Try.ntmps6
    go_wp2_with fail
    refine (drawSync_any A n c bs _ hb hn hc).mono ?_
    rintro e w1 ⟨A1, m, c1, qs, rfl, hz1, hm, hmc, hcm, hl1, hB1⟩
    have HB1 := hide hB1
    have HZ1 := hide hz1
    have hs1 := hB1.size
    have HP1 := hide (implSync A1 m c1 _ qs w1 hz1 (Nat.le_refl _) (by omega))
    have HP2 := hide fun (W : World) (h : Below w1.heap.size w1 W) => specSyncD A1 m c1 _ qs W (hz1.below h (Nat.le_refl _)) h.size (by omega)
    clear hb hB1 hz1 hl1
    obtain ⟨v, hv⟩ : ∃ v, devV (zns qs) = v := ⟨_, rfl⟩
    rw [hv] at HP1 HP2
    obtain ⟨D, hD⟩ : ∃ D : Dev, syncF (zns qs) = D := ⟨_, rfl⟩
    rw [hD] at HP1 HP2
    have HV := hide hv
    have HD := hide (show (if v then syncD (zns qs) else []) = D by rw [← hD, ← hv]; rfl)
    clear hD hv
    go_wp2_with fail
    refine HP1.out.mono ?_
    rintro e w2 ⟨A2, m2, c2, qs2, rfl, ho2, hz2, hB2⟩
    have HO2 := hide ho2
    have HZ2 := hide hz2
    have HW2 := hide hB2
    clear ho2 hz2 hB2 HP1
    go_wp2_with fail
    refine (HP2.out _ HW2.out).mono ?_
    rintro e w3 ⟨A3, m3, c3, qs3, rfl, ho3, hz3, hB3⟩
    have HW3 := hide (HW2.out.trans (hB3.mono HW2.out.size))
    have HPR := hide (pair_same HO2.out ho3 HZ2.out hz3 hB3)
    have HX2 := hide (HO2.out.zns.below hB3 (Nat.le_refl _))
    have HB23 := hide hB3
    have hs23 := hB3.size
    obtain rfl : m3 = m2 := HPR.out.1
    clear ho3 hz3 hB3 HP2
    go_wp2_with fail
    refine (HPR.out.2.2 _ (Below.refl _ _)).mono ?_
    rintro e w4 ⟨rfl, hB4⟩
    have HW4 := hide (HW3.out.trans (hB4.mono HW3.out.size))
    have HW34 := hide hB4
    have HX4 := hide (HX2.out.below hB4 hs23)
    have hs4 := hB4.size
    have HEND := hide fun (W : World) (h : Below w4.heap.size w4 W) => HB1.out.trans ((HW4.out.trans (h.mono HW4.out.size)).mono hs1)
    have hW24 := HB23.out.trans (hB4.mono hs23)
    clear hB4
    rcases v with _ | _
    · go_wp2_with fail
      refine (HPR.out.2.2 _ HW34.out).mono ?_
      rintro e w5 ⟨rfl, hB5⟩
      have HB5 := hide (HEND.out _ hB5)
      clear hB5
      go_wp2
      go_ret
      exact ⟨rfl, HB5.out⟩
    · have hv4 := HV.out
      obtain rfl : m = 4 := by rw [← HZ1.out.1]; exact devV_four hv4
      have HDD := hide (show zns qs2 = syncD (zns qs) by rw [HZ2.out, ← HD.out]; rfl)
      have hsv : devV (zns qs2) = true := by rw [HDD.out]; exact syncD_valid hv4
      obtain rfl : m3 = 4 := by rw [← HO2.out.len]; exact devV_four hsv
      have HCR := hide fun (W : World) (h : Below w4.heap.size w4 W) (a b c d : Int) (ha : 0 ≤ a) (hb : 0 ≤ b) (hc : 0 ≤ c) (hd : 0 ≤ d) => (show Calls Try.prog 15 #[.slice A2 4 c2, .slice (some ⟨W.heap.size, 0, none⟩) 4 4] (W.alloc (.cells #[.int .i64 a, .int .i64 b, .int .i64 c, .int .i64 d] 3)) (DevPost (W.alloc (.cells #[.int .i64 a, .int .i64 b, .int .i64 c, .int .i64 d] 3)) true (zns qs2)) by
        have h0 := implCrash A2 (some ⟨W.heap.size, 0, none⟩) 4 c2 _ _ 4 4 qs2 [a, b, c, d] (W.alloc (.cells #[.int .i64 a, .int .i64 b, .int .i64 c, .int .i64 d] 3)) ((HX4.out.below h (Nat.le_trans hs23 hs4)).alloc (by have := h.size; omega) _) (by have := h.size; simp; omega) (by omega) (Ints.four' W a b c d) (by simp) (by unfold maxLen; omega)
        have hk : crashOk (zns qs2) [a, b, c, d] = true := crashOk_iff.2 ⟨hsv, rfl, by simp; omega⟩
        have hk3 : crashD (zns qs2) [a, b, c, d] = zns qs2 := by rw [HDD.out] at hk ⊢; exact crash_sync hk
        rw [hk, hk3] at h0
        exact h0)
      have hn3 : n' ≤ 1048576 := by omega
      clear hv4 hsv
      go_wp2_with fail
      refine (HCR.out _ (Below.refl _ _) _ _ _ _ ?_ ?_ ?_ ?_).mono ?_
      · omega
      · omega
      · omega
      · omega
      rintro e w5 ⟨A5, m5, c5, qs5, rfl, ho5, hz5, hB5⟩
      have HW5 := hide ((below_box w4 _).trans (hB5.mono (by simp)))
      have HRD := hide (pair_read (w3 := w5) (c := c2) ho5 (((HX4.out.below HW5.out (Nat.le_trans hs23 hs4))).more (by have := HW5.out.size; omega)) hz5 (Below.refl _ _))
      obtain rfl : m5 = 4 := HRD.out.1
      clear ho5 hz5 hB5
      go_wp2_with fail
      refine (HRD.out.2 _ (Below.refl _ _)).mono ?_
      rintro e w6 ⟨rfl, hB6⟩
      have HE6 := hide (HEND.out _ (HW5.out.trans (hB6.mono HW5.out.size)))
      clear hB6
      go_wp2
      go_ret
      exact ⟨rfl, HE6.out⟩
end Go.Proofs.Ytddedafjcgohpaa
