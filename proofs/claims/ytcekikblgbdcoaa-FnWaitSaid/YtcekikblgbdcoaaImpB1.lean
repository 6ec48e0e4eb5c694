/-
  The program's buckets: takeable, BucketValid, BucketAt.
-/
import Derived.Test.YtcekikblgbdcoaaBktM
import Derived.Handy
namespace Go.Proofs.Ytcekikblgbdcoaa
open Go.RowKit
set_option linter.unusedVariables false
set_option maxRecDepth 100000

set_option maxHeartbeats 800000 in
theorem takeable_any (x : Int) (w : World) : Calls Try.prog 32 #[.int .i64 x] w fun e w' => e = .returned (.bool (decide (mayT x))) ∧ w = w' := by
  by_cases h1 : 0 ≤ x
  · by_cases h2 : x ≤ 100
    · have e := decide_eq_true (show mayT x from ⟨h1, h2⟩)
      rw [e]
      go_enter Try.func32, Try.ntmps32
      go_wp2
      go_ret
      exact ⟨rfl, rfl⟩
    · have h2' : decide (x ≤ 100) = false := by simpa using h2
      rw [decide_eq_false (show ¬ mayT x from fun h => h2 h.2)]
      go_enter Try.func32, Try.ntmps32
      go_wp2
      go_ret
      exact ⟨rfl, rfl⟩
  · have h1' : decide (0 ≤ x) = false := by simpa using h1
    rw [decide_eq_false (show ¬ mayT x from fun h => h1 h.1)]
    go_enter Try.func32, Try.ntmps32
    go_wp2
    go_ret
    exact ⟨rfl, rfl⟩

theorem bkV_iff (b : Bk) : bkV b = true ↔ okK b := by unfold bkV; exact decide_eq_true_iff
theorem bkV_eq (l m r t : Int) : bkV ⟨l, m, r, t⟩ = (decide (1 ≤ m) && decide (m ≤ 100) && decide (0 ≤ l) && decide (l ≤ m) && decide (0 ≤ r) && decide (r ≤ 100) && decide (0 ≤ t) && decide (t ≤ 999)) := by
  rw [Bool.eq_iff_iff, bkV_iff]
  simp only [okK, decide_eq_true_iff, Bool.and_eq_true, and_assoc]

set_option maxHeartbeats 3200000 in
theorem implBV (l m r t : Int) (w : World) : Calls Try.prog 18 #[.agg #[.int .i64 l, .int .i64 m, .int .i64 r, .int .i64 t]] w fun e w' => e = .returned (.bool (bkV ⟨l, m, r, t⟩)) ∧ Below w.heap.size w w' := by
  have HB := hide ((Below.refl w.heap.size w).alloc (Nat.le_refl _) (.cells #[.int .i64 l, .int .i64 m, .int .i64 r, .int .i64 t] 24))
  rw [bkV_eq]
  rcases h1 : decide (1 ≤ m) with _ | _
  · go_enter Try.func18, Try.ntmps18
    go_wp2
    go_ret
    exact ⟨rfl, HB.out⟩
  rcases h2 : decide (m ≤ 100) with _ | _
  · go_enter Try.func18, Try.ntmps18
    go_wp2
    go_ret
    exact ⟨rfl, HB.out⟩
  rcases h3 : decide (0 ≤ l) with _ | _
  · go_enter Try.func18, Try.ntmps18
    go_wp2
    go_ret
    exact ⟨rfl, HB.out⟩
  rcases h4 : decide (l ≤ m) with _ | _
  · go_enter Try.func18, Try.ntmps18
    go_wp2
    go_ret
    exact ⟨rfl, HB.out⟩
  rcases h5 : decide (0 ≤ r) with _ | _
  · go_enter Try.func18, Try.ntmps18
    go_wp2
    go_ret
    exact ⟨rfl, HB.out⟩
  rcases h6 : decide (r ≤ 100) with _ | _
  · go_enter Try.func18, Try.ntmps18
    go_wp2
    go_ret
    exact ⟨rfl, HB.out⟩
  rcases h7 : decide (0 ≤ t) with _ | _
  · go_enter Try.func18, Try.ntmps18
    go_wp2
    go_ret
    exact ⟨rfl, HB.out⟩
  rcases h8 : decide (t ≤ 999) with _ | _
  · go_enter Try.func18, Try.ntmps18
    go_wp2
    go_ret
    exact ⟨rfl, HB.out⟩
  · go_enter Try.func18, Try.ntmps18
    go_wp2
    go_ret
    exact ⟨rfl, HB.out⟩
end Go.Proofs.Ytcekikblgbdcoaa
