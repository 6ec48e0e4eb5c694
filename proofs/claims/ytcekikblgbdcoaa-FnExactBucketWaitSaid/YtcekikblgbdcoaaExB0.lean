/-
  The exact laws' helpers on buckets: toBucket, eqBucket.
-/
import Derived.Test.YtcekikblgbdcoaaLawB0
namespace Go.Proofs.Ytcekikblgbdcoaa
open Go.RowKit
set_option linter.unusedVariables false
set_option maxRecDepth 100000

set_option maxHeartbeats 3200000 in
theorem toBucket_any (l m r t : Int) (w : World) : Calls Try.prog 26 #[.agg #[.int .i64 l, .int .i64 m, .int .i64 r, .int .i64 t]] w fun e w' => e = .returned (.agg #[.int .i64 l, .int .i64 m, .int .i64 r, .int .i64 t]) ∧ Below w.heap.size w w' := by
  have HK := hide ((((Kp.refl w).push 36 #[.int .i64 l, .int .i64 m, .int .i64 r, .int .i64 t]).pushN (w.heap.size + 1) (by simp) 24 #[.int .i64 l, .int .i64 m, .int .i64 r, .int .i64 t]).pushN (w.heap.size + 1 + 1) (by simp) 24 #[.int .i64 l, .int .i64 m, .int .i64 r, .int .i64 t])
  go_enter Try.func26, Try.ntmps26
  go_wp2
  exact bodyPost_ret (v := .agg #[.int .i64 l, .int .i64 m, .int .i64 r, .int .i64 t]) (by simp [results, Try.results26, go_sem]) rfl ⟨rfl, HK.out.below⟩

set_option maxHeartbeats 3200000 in
theorem eqBucket_yes (l m r t : Int) (w : World) : Calls Try.prog 27 #[.agg #[.int .i64 l, .int .i64 m, .int .i64 r, .int .i64 t], .agg #[.int .i64 l, .int .i64 m, .int .i64 r, .int .i64 t]] w fun e w' => e = .returned (.bool true) ∧ Below w.heap.size w w' := by
  have HB := hide (((Below.refl w.heap.size w).alloc (Nat.le_refl _) (.cells #[.int .i64 l, .int .i64 m, .int .i64 r, .int .i64 t] 24)).alloc (by simp) (.cells #[.int .i64 l, .int .i64 m, .int .i64 r, .int .i64 t] 24))
  go_enter Try.func27, Try.ntmps27
  go_wp2
  go_ret
  exact ⟨rfl, HB.out⟩
end Go.Proofs.Ytcekikblgbdcoaa
