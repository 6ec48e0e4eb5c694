/-
  slices.SortFunc where there is nothing to sort.
-/
import Derived.Test.YtnkflcibbhoedaaBase
namespace Go.Proofs.Ytnkflcibbhoedaa
open Go.RowKit
set_option linter.unusedVariables false
set_option maxRecDepth 100000

set_option maxHeartbeats 800000 in
theorem insH_none (X : Option Addr) (d : Nat) (f : Value) (w : World) :
    Calls Try.prog 67 #[.slice X 0 d, .int .i64 0, .int .i64 0, f] w fun e w' => e = .returned (.tuple #[]) ∧ w = w' := by
  go_enter Try.func67, Try.ntmps67
  go_wp2
  refine wp_loop_rounds 1 ?_
  rw [rounds_succ]
  go_wp2
  go_end0
  exact ⟨rfl, rfl⟩

set_option maxHeartbeats 800000 in
theorem pdqH_none (X : Option Addr) (d : Nat) (l : Int) (f : Value) (w : World) :
    Calls Try.prog 54 #[.slice X 0 d, .int .i64 0, .int .i64 0, .int .i64 l, f] w fun e w' => e = .returned (.tuple #[]) ∧ w = w' := by
  go_enter Try.func54, Try.ntmps54
  go_wp2
  refine wp_loop_rounds 1 ?_
  rw [rounds_succ]
  go_wp2_with (go_at_call 67; refine (insH_none _ _ _ _).mono ?_; rintro e w' ⟨rfl, rfl⟩)
  refine bodyPost_ret (results_none rfl _ _ _) rfl ?_
  exact ⟨rfl, rfl⟩

set_option maxHeartbeats 800000 in
theorem bits64_zero (w : World) : Calls Try.prog 66 #[.int .u64 0] w fun e w' => (∃ l, e = .returned (.int .i64 l)) ∧ w = w' := by
  go_enter Try.func66, Try.ntmps66
  go_wp2
  go_ret
  exact ⟨⟨_, rfl⟩, rfl⟩

set_option maxHeartbeats 800000 in
theorem bits_zero (w : World) : Calls Try.prog 52 #[.int .u64 0] w fun e w' => (∃ l, e = .returned (.int .i64 l)) ∧ w = w' := by
  go_enter Try.func52, Try.ntmps52
  go_wp2_with (go_at_call 66; refine (bits64_zero _).mono ?_; rintro e w' ⟨⟨l, rfl⟩, rfl⟩)
  go_ret
  exact ⟨⟨_, rfl⟩, rfl⟩

set_option maxHeartbeats 800000 in
theorem sortH_none (X : Option Addr) (d : Nat) (f : Value) (w : World) :
    Calls Try.prog 47 #[.slice X 0 d, f] w fun e w' => e = .returned (.tuple #[]) ∧ w = w' := by
  go_enter Try.func47, Try.ntmps47
  go_wp2_with (first
    | (go_at_call 52; refine (bits_zero _).mono ?_; rintro e w' ⟨⟨l, rfl⟩, rfl⟩)
    | (go_at_call 54; refine (pdqH_none _ _ _ _ _).mono ?_; rintro e w' ⟨rfl, rfl⟩))
  go_end0
  exact ⟨rfl, rfl⟩
end Go.Proofs.Ytnkflcibbhoedaa
