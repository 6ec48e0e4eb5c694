/-
  The exact law of BucketValid: the walk.
-/
import Derived.Test.YtcekikblgbdcoaaExB0
namespace Go.Proofs.Ytcekikblgbdcoaa
open Go.RowKit
set_option linter.unusedVariables false
set_option maxRecDepth 100000

set_option maxHeartbeats 6400000 in
theorem exactBValid_walk (l m r t : Int) (w : World) (h0 : -9223372036854775808 ≤ l) (h1 : l ≤ 9223372036854775807) (h2 : -9223372036854775808 ≤ m) (h3 : m ≤ 9223372036854775807) (h4 : -9223372036854775808 ≤ r) (h5 : r ≤ 9223372036854775807) (h6 : -9223372036854775808 ≤ t) (h7 : t ≤ 9223372036854775807) :
    Calls Try.prog 11 #[.agg #[.int .i64 l, .int .i64 m, .int .i64 r, .int .i64 t]] w fun e w' => e = .returned (.bool true) ∧ Below w.heap.size w w' := by
  clear h0 h1 h2 h3 h4 h5 h6 h7
  have HK0 := hide ((Kp.refl w).push 36 #[.int .i64 l, .int .i64 m, .int .i64 r, .int .i64 t])
  have HP1 := hide fun (W : World) => specBV l m r t W
  have HP2 := hide fun (W : World) => implBV l m r t W
  generalize bkV ⟨l, m, r, t⟩ = v at HP1 HP2
  go_enter Try.func11, Try.ntmps11
  go_wp2_with fail
  refine (toBucket_any l m r t _).mono ?_
  rintro e w1 ⟨rfl, hb1⟩
  have HK1 := hide (HK0.out.step hb1)
  clear hb1 HK0
  go_wp2_with fail
  refine (HP1.out _).mono ?_
  rintro e w2 ⟨rfl, hb2⟩
  have HK2 := hide (HK1.out.step hb2)
  clear hb2 HK1
  obtain ⟨⟨c0, c1, c2, c3⟩, -⟩ := HK2.out.cells4
  go_wp2_with fail
  refine (toBucket_any l m r t _).mono ?_
  rintro e w3 ⟨rfl, hb3⟩
  have HK3 := hide (HK2.out.step hb3)
  clear hb3 HK2
  go_wp2_with fail
  refine (HP2.out _).mono ?_
  rintro e w4 ⟨rfl, hb4⟩
  have HE := hide (HK3.out.step hb4).below
  go_wp2
  go_ret
  exact ⟨rfl, HE.out⟩
end Go.Proofs.Ytcekikblgbdcoaa
