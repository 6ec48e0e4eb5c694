/-
  The walk of FnColdOdd.
-/
import Derived.Test.YtefgngfcdigllaaColC
import Derived.Test.YtefgngfcdigllaaSpecC
import Derived.Test.YtefgngfcdigllaaDrawGC
import Derived.Test.YtefgngfcdigllaaInts
import Derived.Test.YtefgngfcdigllaaPartM
import Derived.Deep.RegionHeld3
import Derived.Deep.CutBlock
namespace Go.Proofs.Ytefgngfcdigllaa
open Go.RowKit
set_option linter.unusedVariables false
set_option maxRecDepth 100000

set_option maxHeartbeats 6400000 in
theorem coldOdd_walk (A : Option Addr) (n c : Nat) (bs : Nat → Int) (w : World) (hb : Bytes w w.heap.size A n bs) (hn : n ≤ c) (hc : c ≤ maxLen) :
    Calls Try.prog 6 #[.slice A n c] w fun e w' => e = .returned (.bool true) ∧ Below w.heap.size w w' := by
  by_cases hbig : 1048576 < n
  · go_enter Try.func6, Try.ntmps6
    go_wp2
    go_ret
    exact ⟨rfl, Below.refl _ _⟩
  · go_enter Try.func6, Try.ntmps6
    go_wp2_with fail
    refine (drawGC_any A n c bs _ hb hn hc).mono ?_
    rintro e w1 ⟨A1, k, c1, xs, rfl, ho1, hk, hB1⟩
    have HB1 := hide hB1
    have HI1 := hide ho1.ints
    have hcap := ho1.cap
    unfold maxLen at hcap
    have hs1 := hB1.size
    have HLX := hide ho1.1
    obtain ⟨v, hv⟩ : ∃ v, okG 3 6 fldC xs k = v := ⟨_, rfl⟩
    have hp1 := implGetC A1 k c1 _ xs w1 ho1.ints (Nat.le_refl _) (by omega) hcap.1 (by omega)
    rw [hv] at hp1
    have HP1 := hide hp1
    have HP2 : Hid (∀ W : World, Below w1.heap.size w1 W → Calls Try.prog 17 #[.slice A1 k c1] W (GetPost W 36 3 v xs)) := fun W h => by
      have hp2 := specGetC A1 k c1 _ xs W (HI1.out.below h (Nat.le_refl _)) h.size (by omega)
      rwa [hv] at hp2
    have HV := hide hv
    have HO1 := hide ho1
    clear ho1 hB1 hb hp1 hv
    go_wp2_with fail
    refine HP1.out.mono ?_
    rintro e w2 ⟨A2, m2, c2, rfl, ho2, hB2⟩
    have HB2 := hide (HB1.out.trans (hB2.mono hs1))
    have HW2 := hide hB2
    have HO2 := hide ho2
    have hs2 := hB2.size
    clear ho2 hB2 HP1
    go_wp2_with fail
    refine (HP2.out _ HW2.out).mono ?_
    rintro e w3 ⟨A3, m3, c3, rfl, ho3, hB3⟩
    obtain rfl : m3 = m2 := by have h1 := ho3.1; have h2 := HO2.out.1; omega
    have HB3 := hide (HB2.out.trans (hB3.mono HB2.out.size))
    have HW3 := hide (HW2.out.trans (hB3.mono hs2))
    have HO2' := hide (HO2.out.below hB3)
    have HI3 := hide ho3.ints
    have hs3 := hB3.size
    have hm : m3 ≤ 1000 := by
      have h := HO2.out.1
      have h2 := HLX.out
      split at h
      · omega
      · simp at h; omega
    have HYES : Hid (∀ W : World, Below w3.heap.size w3 W → Calls Try.prog 15 #[.slice A2 m3 c2, .slice A3 m3 c3] W fun e w' => e = .returned (.bool true) ∧ ∃ q, w' = W.drewN q) := fun W h =>
      sameColds_yes A2 A3 m3 c2 m3 c3 _ _ _ _ W (HO2'.out.ints.below h (Nat.le_refl _)) (HI3.out.below h (Nat.le_refl _)) (by omega) (by omega) rfl
    clear ho3 hB3 HP2 HO2
    rcases v with _ | _
    · go_wp2_with fail
      refine (HYES.out _ (Below.refl _ _)).mono ?_
      rintro e w4 ⟨rfl, q, rfl⟩
      go_wp2_with fail
      refine (HYES.out _ (below_drewN (Below.refl _ _) q)).mono ?_
      rintro e w5 ⟨rfl, q', rfl⟩
      go_wp2
      go_ret
      exact ⟨rfl, below_drewN HB3.out _⟩
    · have HOW := hide (show OwnR w3 w1.heap.size 36 3 A2 m3 c2 xs from HO2'.out)
      have hmk : m3 * 3 = k := HOW.out.1.symm.trans HLX.out
      have HMK := hide hmk
      have HVV : Hid (k % 3 = 0 ∧ validC xs m3 = true) := by
        have h := HV.out
        unfold okG at h
        rw [← hmk, Nat.mul_mod_left, Nat.mul_div_cancel _ (by decide)] at h
        refine ⟨by rw [← hmk, Nat.mul_mod_left], ?_⟩
        simpa using h
      clear HO2' hmk
      have hm1 : 1 ≤ m3 := by have h := validR_iff.1 HVV.out.2; omega
      obtain ⟨g1, rfl, hg1b, hg1l⟩ := HO1.out.shape (by have := HMK.out; omega)
      obtain ⟨M, hM⟩ : ∃ M, k - 1 = M := ⟨_, rfl⟩
      have hMi : (k : Int) - 1 = (M : Int) := by have := HMK.out; omega
      have hM0 : ¬ M % 3 = 0 := by have h1 := HMK.out; have h2 := HVV.out.1; omega
      have HG : Hid (∀ W : World, Below w3.heap.size w3 W → Calls Try.prog 14 #[.slice (some ⟨g1, 0, none⟩) M c1] W (GetPost W 36 3 false (xs.take M))) := fun W hW => by
        have h := implGetC (some ⟨g1, 0, none⟩) M c1 _ (xs.take M) W (((HI1.out.below HW3.out (Nat.le_refl _)).below hW (by have := HW3.out.size; omega)).firsts (by omega)) (by have := HW3.out.size; have := hW.size; omega) (by omega) (by omega) (by omega)
        have e : okG 3 6 fldC (xs.take M) M = false := by
          unfold okG
          rw [decide_eq_false hM0]
          rfl
        rwa [e] at h
      have z1 : M ≤ c1 := by omega
      obtain ⟨M2, hM2⟩ : ∃ M2, k - 2 = M2 := ⟨_, rfl⟩
      have hM2i : (k : Int) - 2 = (M2 : Int) := by have := HMK.out; omega
      have hM20 : ¬ M2 % 3 = 0 := by have h1 := HMK.out; have h2 := HVV.out.1; omega
      have z2 : M2 ≤ c1 := by omega
      have HG2 : Hid (∀ W : World, Below w3.heap.size w3 W → Calls Try.prog 14 #[.slice (some ⟨g1, 0, none⟩) M2 c1] W (GetPost W 36 3 false (xs.take M2))) := fun W hW => by
        have h := implGetC (some ⟨g1, 0, none⟩) M2 c1 _ (xs.take M2) W (((HI1.out.below HW3.out (Nat.le_refl _)).below hW (by have := HW3.out.size; omega)).firsts (by omega)) (by have := HW3.out.size; have := hW.size; omega) (by omega) (by omega) (by omega)
        have e : okG 3 6 fldC (xs.take M2) M2 = false := by
          unfold okG
          rw [decide_eq_false hM20]
          rfl
        rwa [e] at h
      go_wp2_with fail
      refine (HYES.out _ (Below.refl _ _)).mono ?_
      rintro e w4 ⟨rfl, q, rfl⟩
      go_wp2_with fail
      refine (HG.out _ (below_drewN (Below.refl _ _) q)).mono ?_
      rintro e w5 ⟨A5, m5, c5, rfl, ho5, hB5⟩
      have hB5' : Below w3.heap.size w3 w5 := ⟨hB5.os, hB5.tape, hB5.output, hB5.size, hB5.block⟩
      have HB5 := hide (HB3.out.trans (hB5'.mono HB3.out.size))
      have HW5 := hide hB5'
      clear ho5 hB5 hB5'
      go_wp2_with fail
      refine (HG2.out _ HW5.out).mono ?_
      rintro e w6 ⟨A6, m6, c6, rfl, ho6, hB6⟩
      go_wp2
      go_ret
      exact ⟨rfl, HB5.out.trans (hB6.mono HB5.out.size)⟩
end Go.Proofs.Ytefgngfcdigllaa
