/-
  The walk of FnExactMapValid.
-/
import Derived.Test.YtdhknodhmnnenaaExM1
namespace Go.Proofs.Ytdhknodhmnnenaa
open Go.RowKit
set_option linter.unusedVariables false
set_option maxRecDepth 100000

set_option maxHeartbeats 3200000 in
theorem exactMValid_walk (A : Option Addr) (n c : Nat) (xs : List Int) (w : World) (hi : Ints w w.heap.size A (n * 5) xs) (hn : n ≤ c) (hc : c ≤ maxLen) (hrng : Rng (-9223372036854775808) 9223372036854775807 xs) :
    Calls Try.prog 3 #[.slice A n c] w fun e w' => e = .returned (.bool true) ∧ Below w.heap.size w w' := by
  have hn' : n ≤ 9223372036854775807 := by unfold maxLen at hc; omega
  by_cases hbig : (1048576 : Int) < n
  · go_enter Try.func3, Try.ntmps3
    go_wp2_with fail
    refine (szW_any A n c 1048576 _ hn' (by omega) (by omega)).mono ?_
    rw [if_pos hbig]
    rintro e w1 ⟨rfl, rfl⟩
    go_wp2
    go_ret
    exact ⟨rfl, Below.refl _ _⟩
  · have HX := hide hi
    have hn9 : n ≤ 1000000000 := by omega
    have hn12 : n ≤ 1000000000000 := by omega
    have hneg : ¬ (1048576 : Int) - (n : Int) < 0 := by omega
    obtain ⟨v, hv⟩ : ∃ v, mpV (unfl5 xs) = v := ⟨_, rfl⟩
    have HV := hide hv
    clear hi hrng hv
    go_enter Try.func3, Try.ntmps3
    go_wp2_with fail
    refine (szW_any A n c 1048576 _ hn' (by omega) (by omega)).mono ?_
    rw [if_neg (by omega)]
    rintro e w1 ⟨rfl, rfl⟩
    go_wp2_with fail
    refine (toWhereS_any A n c _ xs _ HX.out (Nat.le_refl _) hn9).mono ?_
    rintro e w1 ⟨T1, d1, rfl, ho1, hb1⟩
    have HB1 := hide hb1
    have HO1 := hide ho1.ints
    have HX1 := hide (HX.out.below hb1 (Nat.le_refl _))
    clear hb1 ho1
    go_wp2_with fail
    refine (specMV T1 n d1 _ (unfl5 xs) _ (mpI_of HO1.out) (Nat.le_refl _) hn9).mono ?_
    rw [HV.out]
    rintro e w2 ⟨rfl, hb2⟩
    have HB2 := hide (HB1.out.trans (hb2.mono HB1.out.size))
    have HX2 := hide (HX1.out.below hb2 HB1.out.size)
    clear HB1 HX1 HO1 hb2
    have hs2 := HB2.out.size
    go_wp2_with fail
    refine (toWhereS_any A n c _ xs _ HX2.out hs2 hn9).mono ?_
    rintro e w3 ⟨A4, c4, rfl, ho3, hb3⟩
    have HB3 := hide (HB2.out.trans (hb3.mono hs2))
    have HO3 := hide ho3.ints
    have HX3 := hide (HX2.out.below hb3 hs2)
    have hs3 := HB3.out.size
    clear hb3 ho3
    go_wp2_with fail
    refine (implMV A4 n c4 _ (unfl5 xs) _ (mpI_of HO3.out) (Nat.le_refl _) hn9).mono ?_
    rw [HV.out]
    rintro e w4 ⟨rfl, hb4⟩
    have HB4 := hide (HB3.out.trans (hb4.mono hs3))
    have HO4 := hide (HO3.out.below hb4 (Nat.le_refl _))
    have HX4 := hide (HX3.out.below hb4 hs3)
    have hs4 := HB4.out.size
    have hs34 := hb4.size
    clear hb4 HO3 HX3 HB3
    go_wp2_with fail
    refine (toWhereS_any A n c _ xs _ HX4.out hs4 hn9).mono ?_
    rintro e w5 ⟨A5, c5, rfl, ho5, hb5⟩
    have HB5 := hide (HB4.out.trans (hb5.mono hs4))
    have HO5 := hide ho5.ints
    have HP5 := hide (HO4.out.below hb5 hs34)
    have hs35 := Nat.le_trans hs34 hb5.size
    clear hb5 ho5
    go_wp2_with fail
    refine (eqWhereS_yes A4 A5 n c4 c5 _ _ xs _ HP5.out hs35 HO5.out (Nat.le_refl _) hn9).mono ?_
    rintro e w6 ⟨rfl, hb6⟩
    have HB6 := hide (HB5.out.trans (hb6.mono HB5.out.size))
    clear hb6
    go_wp2
    go_ret
    exact ⟨rfl, HB6.out⟩
end Go.Proofs.Ytdhknodhmnnenaa
