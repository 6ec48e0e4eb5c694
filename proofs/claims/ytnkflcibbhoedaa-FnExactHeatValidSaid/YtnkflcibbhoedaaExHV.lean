/-
  The walk of FnExactHeatValid.
-/
import Derived.Test.YtnkflcibbhoedaaImpH1
import Derived.Test.YtnkflcibbhoedaaExI2
import Derived.Test.YtnkflcibbhoedaaRng
namespace Go.Proofs.Ytnkflcibbhoedaa
open Go.RowKit
set_option linter.unusedVariables false
set_option maxRecDepth 100000

set_option maxHeartbeats 1600000 in
theorem exactHV_walk (A : Option Addr) (n c : Nat) (xs : List Int) (w : World) (hI : Ints w w.heap.size A n xs) (hn : n ≤ c) (hc : c ≤ maxLen) (hrng : Rng (-9223372036854775808) 9223372036854775807 xs) :
    Calls Try.prog 10 #[.slice A n c] w fun e w' => e = .returned (.bool true) ∧ Below w.heap.size w w' := by
  have hn' : n ≤ 9223372036854775807 := by unfold maxLen at hc; omega
  clear hrng hc
  by_cases hbig : 1048576 < n
  · go_enter Try.func10, Try.ntmps10
    go_wp2
    go_ret
    exact ⟨rfl, Below.refl _ _⟩
  · have hk' : n ≤ maxLen := by unfold maxLen; omega
    have hk2 : n ≤ 17592186044416 := by omega
    have hk3 : n ≤ 1000000000000 := by omega
    have HI := hide hI
    clear hI
    go_enter Try.func10, Try.ntmps10
    go_wp2_with fail
    refine (toInts_any A n c _ xs _ HI.out (Nat.le_refl _) hk2).mono ?_
    rintro e w1 ⟨A1, c1, rfl, ho1, hB1⟩
    have HB1 := hide hB1
    have HI1 := hide (HI.out.below hB1 (Nat.le_refl _))
    have HO1 := hide ho1.ints
    clear ho1 hB1
    go_wp2_with fail
    refine (specHV A1 n c1 _ xs _ HO1.out hk3).mono ?_
    rintro e w' ⟨rfl, rfl⟩
    go_wp2_with fail
    refine (toInts_any A n c _ xs _ HI1.out HB1.out.size hk2).mono ?_
    rintro e w2 ⟨A2, c2, rfl, ho2, hB2⟩
    have HB2 := hide (HB1.out.trans (hB2.mono HB1.out.size))
    have HI2 := hide (HI1.out.below hB2 HB1.out.size)
    have HO2 := hide ho2.ints
    clear ho2 hB2
    go_wp2_with fail
    refine (implHV A2 n c2 _ xs _ HO2.out hk3).mono ?_
    rintro e w' ⟨rfl, rfl⟩
    generalize hV xs = s
    go_wp2_with fail
    refine (toInts_any A n c _ xs _ HI2.out HB2.out.size hk2).mono ?_
    rintro e w3 ⟨A3, c3, rfl, ho3, hB3⟩
    have HB3 := hide (HB2.out.trans (hB3.mono HB2.out.size))
    have HO23 := hide (HO2.out.below hB3 (Nat.le_refl _))
    have HO3 := hide ho3.ints
    clear ho3 hB3
    go_wp2_with fail
    refine (eqI_yes A2 A3 n c2 c3 _ _ xs _ HO23.out HO3.out hk').mono ?_
    rintro e w4 ⟨rfl, hb4⟩
    have HE := hide (HB3.out.trans (hb4.mono HB3.out.size))
    go_wp2
    go_ret
    exact ⟨rfl, HE.out⟩
end Go.Proofs.Ytnkflcibbhoedaa
