/-
  The walk of FnExtents.
-/
import Derived.Test.YtphnckknhlmgaaaSameE
import Derived.Test.YtphnckknhlmgaaaDrawE2
import Derived.Test.YtphnckknhlmgaaaImpE
import Derived.Test.YtphnckknhlmgaaaHasE
import Derived.Test.YtphnckknhlmgaaaInts
namespace Go.Proofs.Ytphnckknhlmgaaa
open Go.RowKit
set_option linter.unusedVariables false
set_option maxRecDepth 100000

set_option maxHeartbeats 6400000 in
theorem extents_walk (A : Option Addr) (n c : Nat) (bs : Nat → Int) (w : World) (hb : Bytes w w.heap.size A n bs) (hn : n ≤ c) (hc : c ≤ maxLen) :
    Calls Try.prog 3 #[.slice A n c] w fun e w' => e = .returned (.bool true) ∧ Below w.heap.size w w' := by
  by_cases hbig : 1048576 < n
  · go_enter Try.func3, Try.ntmps3
    go_wp2
    go_ret
    exact ⟨rfl, Below.refl _ _⟩
  · go_enter Try.func3, Try.ntmps3
    go_wp2_with fail
    refine (drawEO_any A n c bs _ hb hn hc).mono ?_
    rintro e w1 ⟨A1, m, c1, xs, rfl, hi, hm, hmc, hcm, hb1⟩
    have HB1 := hide hb1
    have hs1 := hb1.size
    have HP1 := hide (implOf A1 m c1 _ xs w1 hi (Nat.le_refl _) (by omega))
    have HP2 := hide fun (W : World) (h : Below w1.heap.size w1 W) => specOf A1 m c1 _ xs W (hi.below h (Nat.le_refl _)) h.size (by omega)
    have HI := hide hi
    clear hb hi hb1
    obtain ⟨V, hV⟩ : ∃ V : Bool, okB xs = V := ⟨_, rfl⟩
    obtain ⟨D, hD⟩ : ∃ D : Exs, ofB xs = D := ⟨_, rfl⟩
    rw [hV, hD] at HP1 HP2
    have HV := hide hV
    have HD := hide hD
    have HDL := hide (show D.length ≤ 12 by rw [← hD]; exact ofB_len xs)
    clear hV hD
    go_wp2_with fail
    refine HP1.out.mono ?_
    rintro e w2 ⟨A2, m2, c2, rfl, ho2, hB2⟩
    have HO2 := hide ho2
    have HW2 := hide hB2
    have hm2 : m2 ≤ 12 := by have h1 := ho2.1; have h2 := HDL.out; omega
    clear ho2 hB2 HP1
    go_wp2_with fail
    refine (HP2.out _ HW2.out).mono ?_
    rintro e w3 ⟨A3, m3, c3, rfl, ho3, hB3⟩
    have HW3 := hide (HW2.out.trans (hB3.mono HW2.out.size))
    have HPR := hide (pair_sameE HO2.out ho3 hB3 (by omega))
    have HX2 := hide (HO2.out.exi.below hB3 (Nat.le_refl _))
    have hs23 := hB3.size
    obtain rfl : m3 = m2 := HPR.out.1
    clear ho3 hB3 HP2
    rcases V with _ | _
    all_goals
      go_wp2_with fail
      refine (HPR.out.2 _ (Below.refl _ _)).mono ?_
      rintro e w4 ⟨rfl, hB4⟩
      have HW4 := hide (HW3.out.trans (hB4.mono HW3.out.size))
      have HW34 := hide hB4
      have HX4 := hide (HX2.out.below hB4 hs23)
      have hs4 := hB4.size
      have hs14 := HW4.out.size
      have HEND := hide fun (W : World) (h : Below w4.heap.size w4 W) => HB1.out.trans ((HW4.out.trans (h.mono HW4.out.size)).mono hs1)
      have hs24 : w2.heap.size ≤ w4.heap.size := Nat.le_trans hs23 hs4
      clear hB4
      have HI4 := hide (HI.out.below HW4.out (Nat.le_refl _))
    · go_wp2_with fail
      refine (HPR.out.2 _ HW34.out).mono ?_
      rintro e w5 ⟨rfl, hB5⟩
      have HB5 := hide (HEND.out _ hB5)
      clear hB5
      go_wp2
      go_ret
      exact ⟨rfl, HB5.out⟩
    · obtain ⟨v1, v2⟩ := of_valid HV.out
      rw [HD.out] at v1 v2
      have HEV := hide (v1 ▸ implEV A2 m3 c2 _ D w4 HX4.out hs24 (by omega) (Rg.val v1))
      have HBL := hide fun (W : World) (h : Below w4.heap.size w4 W) => v2 ▸ implBlocks A2 m3 c2 _ D W (HX4.out.below h hs24) (Nat.le_trans hs24 h.size) (by omega) (Rg.val v1)
      clear v1 v2
      go_wp2_with fail
      refine HEV.out.mono ?_
      rintro e w5 ⟨rfl, hb5⟩
      have HB5 := hide hb5
      clear hb5
      go_wp2_with fail
      refine (HBL.out _ HB5.out).mono ?_
      rintro e w6 ⟨A6, m6, c6, rfl, ho6, hB6⟩
      have HB6 := hide (HB5.out.trans (hB6.mono HB5.out.size))
      have HO6 := hide ho6.ints
      obtain rfl : m6 = m := ho6.1.symm.trans HI.out.1
      clear ho6 hB6
      go_wp2_with fail
      refine (sameInts_yes A6 A1 m6 c6 m6 c1 _ _ xs xs _ HO6.out (HI4.out.below HB6.out hs14) (by unfold maxLen; omega) (by unfold maxLen; omega) rfl).mono ?_
      rintro e w7 ⟨rfl, z, rfl⟩
      have HB7 := hide (HEND.out _ (below_drewN HB6.out z))
      go_wp2
      go_ret
      exact ⟨rfl, HB7.out⟩
end Go.Proofs.Ytphnckknhlmgaaa
