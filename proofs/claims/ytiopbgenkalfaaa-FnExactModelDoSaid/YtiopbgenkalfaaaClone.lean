/-
  slices.Clone over integers.
-/
import Derived.Test.YtiopbgenkalfaaaBase
import Derived.Deep.RegionHeld3
namespace Go.Proofs.Ytiopbgenkalfaaa
open Go.RowKit
set_option linter.unusedVariables false
set_option maxRecDepth 100000

set_option maxHeartbeats 800000 in
theorem clone_any (A : Option Addr) (n c B : Nat) (xs : List Int) (w : World) (hr : Ints w B A n xs) (hB : B ≤ w.heap.size) (hn : n ≤ 17592186044416) (h0 : A = none → n = 0 ∧ c = 0) :
    Calls Try.prog 34 #[.slice A n c] w fun e w' => ∃ A2 c2, e = .returned (.slice A2 n c2) ∧ Own w' w.heap.size A2 n c2 xs ∧ Below w.heap.size w w' := by
  rcases A with _ | ad
  · obtain ⟨rfl, rfl⟩ := h0 rfl
    have hx : xs = [] := List.eq_nil_of_length_eq_zero hr.1
    subst hx
    have hq := fun (W : World) => Lib.run_eql_slice_nil (P := Try.prog) W 23 3 none 0 0 0 0 Try.underlying23
    go_enter Try.func34, Try.ntmps34
    go_wp2
    go_ret
    exact ⟨_, _, rfl, Own.nil_ _ _, Below.refl _ _⟩
  · have HI := hide hr
    clear hr h0
    have hq := fun (W : World) => Lib.run_eql_slice_nil (P := Try.prog) W 23 3 (some ad) n c 0 0 Try.underlying23
    go_enter Try.func34, Try.ntmps34
    go_wp2_with (at_builtin; refine wpList_append_ints rfl _ _ rfl w.heap.size 0 0 B n c _ _ [] xs rfl (Own.lit0 w _ (Nat.le_refl _)) rfl (HI.out.alloc hB _) (by omega) (by simp) ?_; intro A2 c2 w3 ho3 hg3 hat3; clear hat3; simp only [Nat.zero_add, List.nil_append] at ho3 ⊢)
    go_ret
    exact ⟨_, _, rfl, ho3, below_app0 (Below.refl _ _) (Nat.le_refl _) hg3⟩

end Go.Proofs.Ytiopbgenkalfaaa
