/-
  The exact law of BucketTake: the walk.
-/
import Derived.Test.YtcekikblgbdcoaaExB0
namespace Go.Proofs.Ytcekikblgbdcoaa
open Go.RowKit
set_option linter.unusedVariables false
set_option maxRecDepth 100000

set_option maxHeartbeats 6400000 in
theorem exactBTake_walk (l m r t T many : Int) (w : World) (h0 : -9223372036854775808 ≤ l) (h1 : l ≤ 9223372036854775807) (h2 : -9223372036854775808 ≤ m) (h3 : m ≤ 9223372036854775807) (h4 : -9223372036854775808 ≤ r) (h5 : r ≤ 9223372036854775807) (h6 : -9223372036854775808 ≤ t) (h7 : t ≤ 9223372036854775807) (T0 : -9223372036854775808 ≤ T) (T1 : T ≤ 9223372036854775807) (many0 : -9223372036854775808 ≤ many) (many1 : many ≤ 9223372036854775807) :
    Calls Try.prog 13 #[.agg #[.int .i64 l, .int .i64 m, .int .i64 r, .int .i64 t], .int .i64 T, .int .i64 many] w fun e w' => e = .returned (.bool true) ∧ Below w.heap.size w w' := by
  clear h0 h1 h2 h3 h4 h5 h6 h7 T0 T1 many0 many1
  have HK0 := hide ((Kp.refl w).push 36 #[.int .i64 l, .int .i64 m, .int .i64 r, .int .i64 t])
  have HP1 := hide fun (W : World) => specBT l m r t T many W
  have HP2 := hide fun (W : World) => implBT l m r t T many W
  generalize takB ⟨l, m, r, t⟩ T many = q at HP1 HP2
  obtain ⟨⟨qa, qb, qc, qd⟩, k⟩ := q
  simp only at HP1 HP2
  go_enter Try.func13, Try.ntmps13
  go_wp2_with fail
  refine (toBucket_any l m r t _).mono ?_
  rintro e w1 ⟨rfl, hb1⟩
  have HK1 := hide (HK0.out.step hb1)
  clear hb1 HK0
  go_wp2_with fail
  refine (HP1.out _).mono ?_
  rintro e w2 ⟨rfl, hb2⟩
  obtain ⟨g2, hg2⟩ : ∃ g, w2.heap.size = g := ⟨_, rfl⟩
  have HK2 := hide ((HK1.out.step hb2).pushN g2 hg2 24 #[.int .i64 qa, .int .i64 qb, .int .i64 qc, .int .i64 qd])
  clear hb2 HK1
  obtain ⟨⟨c0, c1, c2, c3⟩, -⟩ := HK2.out.tl.cells4
  go_wp2_with fail
  refine (toBucket_any l m r t _).mono ?_
  rintro e w3 ⟨rfl, hb3⟩
  have HK3 := hide (HK2.out.step hb3)
  clear hb3 HK2
  go_wp2_with fail
  refine (HP2.out _).mono ?_
  rintro e w4 ⟨rfl, hb4⟩
  obtain ⟨g4, hg4⟩ : ∃ g, w4.heap.size = g := ⟨_, rfl⟩
  have HK4 := hide ((HK3.out.step hb4).pushN g4 hg4 24 #[.int .i64 qa, .int .i64 qb, .int .i64 qc, .int .i64 qd])
  clear hb4 HK3 c0 c1 c2 c3
  obtain ⟨⟨c0, c1, c2, c3⟩, -⟩ := HK4.out.cells4
  obtain ⟨⟨e0, e1, e2, e3⟩, -⟩ := HK4.out.tl.cells4
  go_wp2_with fail
  refine (eqBucket_yes qa qb qc qd _).mono ?_
  rintro e w5 ⟨rfl, hb5⟩
  have HE := hide (HK4.out.step hb5).below
  go_wp2
  go_ret
  exact ⟨rfl, HE.out⟩
end Go.Proofs.Ytcekikblgbdcoaa
