/-
  The exact laws' helpers on frames and on lists: copies (toFrame), equality (eqFrame), marks (markIntS, heldIntS, markFrame, heldFrame), counts (szIntS, szFrame).
-/
import Derived.Test.YtcocboigjfjnfacFrameP
import Derived.Test.YtcocboigjfjnfacInts
import Derived.Test.YtcocboigjfjnfacMarks
namespace Go.Proofs.Ytcocboigjfjnfac
open Go.RowKit
set_option linter.unusedVariables false
set_option maxRecDepth 100000


set_option maxHeartbeats 800000 in
theorem eqFrame_yes (k s : Int) (A A' : Option Addr) (n c c' B B' : Nat) (xs : List Int) (w : World) (h1 : Ints w B A n xs) (hB : B ≤ w.heap.size) (h2 : Ints w B' A' n xs) (hB' : B' ≤ w.heap.size) (hn : n ≤ maxLen) :
    Calls Try.prog 62 #[.agg #[.int .i64 k, .int .i64 s, .slice A n c], .agg #[.int .i64 k, .int .i64 s, .slice A' n c']] w fun e w' => e = .returned (.bool true) ∧ Below w.heap.size w w' := by
  have HI1 := hide fun (o o' : Obj) => (h1.alloc hB o).alloc (by simp; omega) o'
  have HI2 := hide fun (o o' : Obj) => (h2.alloc hB' o).alloc (by simp; omega) o'
  clear h1 h2
  go_enter Try.func62, Try.ntmps62
  go_wp2_with (go_at_call 63; refine (eqIntS_yes A A' n c n c' B B' xs xs _ (HI1.out _ _) (HI2.out _ _) hn hn rfl).mono ?_; rintro e w1 ⟨rfl, q, rfl⟩)
  go_ret
  exact ⟨rfl, below_drewN ((below_box w _).alloc (by simp) _) q⟩



end Go.Proofs.Ytcocboigjfjnfac
