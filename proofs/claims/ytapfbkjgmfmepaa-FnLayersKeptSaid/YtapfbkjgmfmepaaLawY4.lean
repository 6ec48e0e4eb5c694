/-
  The walk of FnLayersKept.
-/
import Derived.Test.YtapfbkjgmfmepaaLawY3
import Derived.Test.YtapfbkjgmfmepaaInts
namespace Go.Proofs.Ytapfbkjgmfmepaa
open Go.RowKit
set_option linter.unusedVariables false
set_option maxRecDepth 100000

set_option maxHeartbeats 6400000 in
theorem layersKept_walk (A : Option Addr) (n c : Nat) (bs : Nat → Int) (A' : Option Addr) (n' c' : Nat) (bs' : Nat → Int) (w : World) (hb : Bytes w w.heap.size A n bs) (hn : n ≤ c) (hc : c ≤ maxLen)
    (hb' : Bytes w w.heap.size A' n' bs') (hn1 : n' ≤ c') (hc1 : c' ≤ maxLen) :
    Calls Try.prog 6 #[.slice A n c, .slice A' n' c'] w fun e w' => e = .returned (.bool true) ∧ Below w.heap.size w w' := by
  have hn' : n' ≤ 9223372036854775807 := by unfold maxLen at hc1; omega
  clear hc1 hb'
  by_cases hbig : 1048576 < n
  · go_enter Try.func6, Try.ntmps6
    go_wp2
    go_ret
    exact ⟨rfl, Below.refl _ _⟩
  by_cases hbig' : 1048576 < n'
  · go_enter Try.func6, Try.ntmps6
    go_wp2
    go_ret
    exact ⟨rfl, Below.refl _ _⟩
  · go_enter Try.func6, Try.ntmps6
    go_wp2_with fail
    refine (drawLyS_any A n c bs _ hb hn hc).mono ?_
    rintro e w1 ⟨A1, m, c1, qs, rfl, hd⟩
    have HD := hide hd
    have hm := hd.num
    have hl := hd.lyi.1
    have hs1 := hd.below.size
    have HP1 := hide (implSnap A1 m c1 _ qs w1 hd.lyi (Nat.le_refl _) (big_qs hd.len) (by omega))
    have HP2 := hide fun (W : World) (h : Below w1.heap.size w1 W) => specSnap A1 m c1 _ qs W (hd.lyi.below h (Nat.le_refl _)) h.size (big_qs hd.len) (by omega)
    clear hb hd
    obtain ⟨r1, r0⟩ := sn_result (lys qs)
    obtain ⟨V, hV⟩ : ∃ V : Bool, snV (lys qs) = V := ⟨_, rfl⟩
    obtain ⟨L, hL⟩ : ∃ L : List Ly, snL (lys qs) = L := ⟨_, rfl⟩
    rw [hV, hL] at HP1 HP2
    rw [hV, hL] at r1 r0
    have HV := hide hV
    have HL := hide hL
    have HLEN := hide (lens_of r1 r0)
    have HLC := hide (lens_count r1 r0)
    have HLV := hide r1
    clear hV hL r1 r0
    go_wp2_with fail
    refine HP1.out.mono ?_
    rintro e w2 ⟨A2, m2, c2, qs2, rfl, ho2, he2, hB2⟩
    have HO2 := hide ho2
    have HE2 := hide he2
    have HW2 := hide hB2
    clear ho2 he2 hB2 HP1
    go_wp2_with fail
    refine (HP2.out _ HW2.out).mono ?_
    rintro e w3 ⟨A3, m3, c3, qs3, rfl, ho3, he3, hB3⟩
    have HW3 := hide (HW2.out.trans (hB3.mono HW2.out.size))
    have HPR := hide (pair_sameY HO2.out ho3 HE2.out he3 HLEN.out hB3 HLC.out)
    have HX2 := hide (HO2.out.lyi.below hB3 (Nat.le_refl _))
    have hs23 := hB3.size
    obtain rfl : m3 = m2 := HPR.out.1
    have HM2 := hide HPR.out.2.1
    have hm25 : m3 ≤ 5 := by have h1 := HLC.out; have h2 := HM2.out; omega
    clear ho3 he3 hB3 HP2
    rcases V with _ | _
    all_goals
      go_wp2_with fail
      refine (HPR.out.2.2 _ (Below.refl _ _)).mono ?_
      rintro e w4 ⟨rfl, hB4⟩
      have HW4 := hide (HW3.out.trans (hB4.mono HW3.out.size))
      have HW34 := hide hB4
      have HX4 := hide (HX2.out.below hB4 hs23)
      have hs4 := hB4.size
      have hs14 := HW4.out.size
      have HEND := hide fun (W : World) (h : Below w4.heap.size w4 W) => HD.out.below.trans ((HW4.out.trans (h.mono HW4.out.size)).mono hs1)
      have hs24 : w2.heap.size ≤ w4.heap.size := Nat.le_trans hs23 hs4
      clear hB4
      have HI4 := hide (HD.out.lyi.below HW4.out (Nat.le_refl _))
    · go_wp2_with fail
      refine (HPR.out.2.2 _ HW34.out).mono ?_
      rintro e w5 ⟨rfl, hB5⟩
      have HB5 := hide (HEND.out _ hB5)
      clear hB5
      go_wp2
      go_ret
      exact ⟨rfl, HB5.out⟩
    · obtain ⟨v1, v2, v3⟩ := sn_valid HV.out
      have hLq : L = lys qs ++ [[]] := by rw [← HL.out]; unfold snL; rw [HV.out]; rfl
      have hll : (lys qs).length = m := by rw [lys_length, hl]
      have hml : m3 = m + 1 := by rw [HM2.out, hLq, List.length_append, hll]; rfl
      obtain ⟨B, hB⟩ : ∃ B, n' % 12 = B := ⟨_, rfl⟩
      obtain ⟨Y, hY⟩ : ∃ Y, n' / 7 % 100 = Y := ⟨_, rfl⟩
      have hB12 : B < 12 := by omega
      have hY100 : Y < 100 := by omega
      have e1 : ((n' : Int)).tmod 12 = (B : Int) := by rw [← hB]; rfl
      have e4 : (n' : Int) / 7 % 100 = (Y : Int) := by omega
      have e5 : (n' : Int) % 12 = (B : Int) := by omega
      have hwv : wrV L [((B : Nat), (Y : Int))] = true := by rw [hLq]; exact kept_valid HV.out hB12 (by omega) (by omega)
      have hwl := wr_length hwv
      have hwval := wr_valid hwv
      have htk : (wrL L [((B : Nat), (Y : Int))]).take m = lys qs := by
        rw [hLq] at hwv ⊢
        have h := kept_take HV.out hwv
        rwa [hll] at h
      have HDD := hide (show dfL (wrL L [((B : Nat), (Y : Int))]) (m : Int) (m3 : Int) = [] ∨ dfL (wrL L [((B : Nat), (Y : Int))]) (m : Int) (m3 : Int) = [(B : Int)] from by
        unfold dfL
        split
        · rw [hml, Int.toNat_natCast, Int.toNat_natCast, ← hll]
          rw [hLq] at hwv ⊢
          exact kept_diff HV.out hB12 hwv
        · exact .inl rfl)
      have hIm : PrI (w4.alloc (.cells #[.int .i64 (B : Int), .int .i64 (Y : Int)] 29)) (w4.alloc (.cells #[.int .i64 (B : Int), .int .i64 (Y : Int)] 29)).heap.size (some ⟨w4.heap.size, 0, none⟩) 1 [((B : Int), (Y : Int))] := by
        have h := PrI.one w4 (B : Int) (Y : Int)
        rw [show (w4.alloc (.cells #[.int .i64 (B : Int), .int .i64 (Y : Int)] 29)).heap.size = w4.heap.size + 1 by simp]
        exact h
      have HWR := hide (implWrite A2 (some ⟨w4.heap.size, 0, none⟩) m3 c2 1 1 _ qs2 [((B : Int), (Y : Int))] (w4.alloc (.cells #[.int .i64 (B : Int), .int .i64 (Y : Int)] 29)) ((HX4.out.alloc hs24 _).more (by simp; omega)) hIm (Nat.le_refl _) (big_qs (lens_qs HE2.out HLEN.out)) (by omega) (by omega))
      rw [HE2.out, hwv] at HWR
      have HWB := hide (below_new w4 (.cells #[.int .i64 (B : Int), .int .i64 (Y : Int)] 29))
      have HTK := hide htk
      have HWL := hide (lens_of (fun _ => hwval) (v := true) (by intro h; cases h))
      have HML := hide hml
      have hwc : (wrL L [((B : Nat), (Y : Int))]).length = m3 := by rw [hwl, ← HM2.out]
      generalize wrL L [((B : Nat), (Y : Int))] = LX at HWR HTK HWL HDD hwc
      have HWC := hide hwc
      have m0 : (0 : Int) ≤ (m : Int) := by omega
      clear v1 v2 v3 hLq hll hml hB hY hwv hwl hwval htk hwc hIm
      go_wp2_with fail
      refine HWR.out.mono ?_
      rintro e w5 ⟨A5, m5, c5, qs5, rfl, ho5, he5, hB5⟩
      have hm5 : m5 = m3 := by rw [← ho5.len, ← lys_length, he5, HWC.out]
      subst hm5
      have HW5 := hide (HWB.out.trans (hB5.mono HWB.out.size))
      have hs5 := HW5.out.size
      have hcap5 := ho5.cap.1
      have hm5c : (m : Int) ≤ (c5 : Int) := by have := HML.out; omega
      have HL5 := hide (lens_qs he5 HWL.out)
      have HDF := hide (implDiff A5 m5 c5 _ qs5 (m : Int) (m5 : Int) w5 ho5.lyi (Nat.le_refl _) (big_qs HL5.out) (by omega))
      rw [he5] at HDF
      have HO5 := hide ho5.lyi
      have HE5 := hide he5
      clear ho5 he5 hB5 HWR
      obtain ⟨D, hD⟩ : ∃ D, dfL LX (m : Int) (m5 : Int) = D := ⟨_, rfl⟩
      rw [hD] at HDF HDD
      clear hD
      go_wp2_with fail
      refine HDF.out.mono ?_
      rintro e w6 ⟨A6, m6, c6, rfl, ho6, hB6⟩
      have HW6 := hide (HW5.out.trans (hB6.mono hs5))
      have HSL := hide (same_layers (d := c1) (c := c5) ((HO5.out.below hB6 (Nat.le_refl _)).firsts (m := m) (by have := HML.out; omega)) (HI4.out.below HW6.out hs14) (fun q hq => big_qs HL5.out q (List.mem_of_mem_take hq)) (by omega) (by
        rw [lys_take, HE5.out]; exact HTK.out)).2
      have HO6 := hide ho6.ints
      have HM6 := hide ho6.1
      clear ho6 hB6 HDF
      go_wp2_with fail
      refine HSL.out.mono ?_
      rintro e w7 ⟨rfl, z7, rfl⟩
      have HW7 := hide (below_drewN HW6.out z7)
      have HO7 := hide (HO6.out.drewN z7)
      clear HSL
      rcases HDD.out with hD | hD
      · subst hD
        obtain rfl : m6 = 0 := by have := HM6.out; simpa using this.symm
        go_wp2
        go_ret
        exact ⟨rfl, HEND.out _ HW7.out⟩
      · subst hD
        obtain rfl : m6 = 1 := by have := HM6.out; simpa using this.symm
        have HSI := hide (sameInts_yes A6 (some ⟨w6.heap.size, 0, none⟩) 1 c6 1 1 _ _ [(B : Int)] [(B : Int)] ((w6.drewN z7).alloc (.cells #[.int .i64 (B : Int)] 3)) (HO7.out.alloc (Nat.le_refl _) _) (Ints.one (w6.drewN z7) (B : Int)) (by unfold maxLen; omega) (by unfold maxLen; omega) rfl)
        have HW8 := hide (HW7.out.alloc HW7.out.size (.cells #[.int .i64 (B : Int)] 3))
        go_wp2_with fail
        refine HSI.out.mono ?_
        rintro e w8 ⟨rfl, z8, rfl⟩
        go_wp2
        go_ret
        exact ⟨rfl, HEND.out _ (below_drewN HW8.out z8)⟩
end Go.Proofs.Ytapfbkjgmfmepaa
