/-
  laws.changed: words with another one at a place.
-/
import Derived.Test.YtamokhieopcaaaaBase
namespace Go.Proofs.Ytamokhieopcaaaa
open Go.RowKit
set_option linter.unusedVariables false
set_option maxRecDepth 100000

set_option maxHeartbeats 400000 in
theorem changed_any (A : Option Addr) (n c B k : Nat) (kk : Int) (xs : List Int) (x : Int) (w : World) (hkk : kk = (k : Int)) (hr : Ints w B A n xs) (hB : B ≤ w.heap.size) (hk : k < n) (hn : n ≤ 1000000) :
    Calls Try.prog 14 #[.slice A n c, .int .i64 kk, .int .i64 x] w fun e w' => ∃ A2 c2, e = .returned (.slice A2 n c2) ∧ Own w' w.heap.size A2 n c2 (xs.set k x) ∧ Below w.heap.size w w' := by
  subst hkk
  have HI := hide hr
  clear hr
  go_enter Try.func14, Try.ntmps14
  go_wp2_with (at_builtin; refine wpList_append_ints rfl _ _ rfl w.heap.size 0 0 B n c _ A [] xs rfl (Own.lit0 w _ (Nat.le_refl _)) rfl (HI.out.alloc hB _) (by omega) (by simp) ?_; intro A2 c2 w3 ho3 hg3 hat3; clear hat3; simp only [Nat.zero_add, List.nil_append] at ho3 ⊢; obtain ⟨g, rfl, hgb, hgl⟩ := ho3.shape (by omega); have hfree := ho3.free (g := g) (j := k); have hcell := ho3.cell (g := g) (j := k) hk)
  have hst := ho3.stored (g := g) (j := k) x
  have hB3 : Below w.heap.size w w3 := ((Below.refl _ _).alloc (Nat.le_refl _) _).grown hg3 (by simp) (by intro q hq; simp [Value.ownBlock] at hq; omega)
  go_ret
  exact ⟨_, _, rfl, hst.1, hB3.grown hst.2 hB3.size (by intro q hq; injection hq with hq; omega)⟩
end Go.Proofs.Ytamokhieopcaaaa
