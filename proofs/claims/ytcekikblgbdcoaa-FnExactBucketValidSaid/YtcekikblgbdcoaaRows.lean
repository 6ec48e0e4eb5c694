/-
  No cell of these rows narrows 'for every input' (looked for: loops, veiled, ifaces, maps, wideKeys, modest, calm, conditions, laid).
  DERIVED. THE GIVEN ROWS OF THIS SEAT. 12 by the template 'for every input the law returns true; each argument reads behind the call as it read before'; 0 by the template 'total and deterministic' (their statements: YtcekikblgbdcoaaTotals.lean).
  GIVEN WITH THE SEED: the statements are not yours to turn. If you find one false, say at which input.
  Laid BY PROGRAM, IN A SANDBOX (cutbox-rows.mjs): the forced cells as the released guide's own fill.sh prints them over the translation 7159e18c8baf8c20… (all of the seat's roots in one cut). By AI agents, Wed Nov 11 2026. No macro, syntax, notation, axiom, sorry.
-/
import Derived.Test.YtcekikblgbdcoaaChecked
import GoSem.Claim
import GoSem.ClaimJoined
import GoSem.ClaimMapViews
import Derived.JoinedTies
import Derived.KernelRfl
namespace Go.Proofs.Ytcekikblgbdcoaa
/- THE CELL 'sum', in the pinned program and in every row, IS THE sha256 OF THE DUMP (.gsa) THAT YtcekikblgbdcoaaProg.lean LOADS. Nothing in Lean hashes anything: it is a label: what it is worth is what the hold of that sum in a sandbox is worth. -/
noncomputable def Try.pinned : Pinned := { name := "ytcekikblgbdcoaa", sum := "7159e18c8baf8c2002d1a8957b27b2248159ee8e624b1e4cc18b2f79e2edb812", checked := Try.checked }
namespace Rows
def none {H : Type} : Left H := { results := [], args := [] }

/-- 'laws.FnBucketAt': WHATEVER THE INPUT: true; the input reads as it did. -/
def fnBucketAtSpec : ChangeSpec := { name := "fnBucketAt", fn := fun _ => fun
  | [d1, d2] => { results := [.lit (.bool true)], args := [d1, d2] }
  | _ => none }
def fnBucketAtRow : OpenClaim := { program := "ytcekikblgbdcoaa", sum := "7159e18c8baf8c2002d1a8957b27b2248159ee8e624b1e4cc18b2f79e2edb812", func := "loop.example/tiervolume/laws.FnBucketAt", spec := "fnBucketAt", apart := false }
def FnBucketAtSaid : Prop := fnBucketAtRow.holds Try.pinned (OpenSpec.ofChange fnBucketAtSpec)

/-- ITS FALSE NEIGHBOUR: 'it returns false'. Refute it at one input. -/
def fnBucketAtWrong : ChangeSpec := { name := "fnBucketAt", fn := fun _ => fun
  | [d1, d2] => { results := [.lit (.bool false)], args := [d1, d2] }
  | _ => none }
def FnBucketAtWrongFalsely : Prop := fnBucketAtRow.holds Try.pinned (OpenSpec.ofChange fnBucketAtWrong)

/-- 'laws.FnBucketGrow': WHATEVER THE INPUT: true; the input reads as it did. -/
def fnBucketGrowSpec : ChangeSpec := { name := "fnBucketGrow", fn := fun _ => fun
  | [d] => { results := [.lit (.bool true)], args := [d] }
  | _ => none }
def fnBucketGrowRow : OpenClaim := { program := "ytcekikblgbdcoaa", sum := "7159e18c8baf8c2002d1a8957b27b2248159ee8e624b1e4cc18b2f79e2edb812", func := "loop.example/tiervolume/laws.FnBucketGrow", spec := "fnBucketGrow", apart := false }
def FnBucketGrowSaid : Prop := fnBucketGrowRow.holds Try.pinned (OpenSpec.ofChange fnBucketGrowSpec)

/-- ITS FALSE NEIGHBOUR: 'it returns false'. Refute it at one input. -/
def fnBucketGrowWrong : ChangeSpec := { name := "fnBucketGrow", fn := fun _ => fun
  | [d] => { results := [.lit (.bool false)], args := [d] }
  | _ => none }
def FnBucketGrowWrongFalsely : Prop := fnBucketGrowRow.holds Try.pinned (OpenSpec.ofChange fnBucketGrowWrong)

/-- 'laws.FnTake': WHATEVER THE INPUT: true; the input reads as it did. -/
def fnTakeSpec : ChangeSpec := { name := "fnTake", fn := fun _ => fun
  | [d] => { results := [.lit (.bool true)], args := [d] }
  | _ => none }
def fnTakeRow : OpenClaim := { program := "ytcekikblgbdcoaa", sum := "7159e18c8baf8c2002d1a8957b27b2248159ee8e624b1e4cc18b2f79e2edb812", func := "loop.example/tiervolume/laws.FnTake", spec := "fnTake", apart := false }
def FnTakeSaid : Prop := fnTakeRow.holds Try.pinned (OpenSpec.ofChange fnTakeSpec)

/-- ITS FALSE NEIGHBOUR: 'it returns false'. Refute it at one input. -/
def fnTakeWrong : ChangeSpec := { name := "fnTake", fn := fun _ => fun
  | [d] => { results := [.lit (.bool false)], args := [d] }
  | _ => none }
def FnTakeWrongFalsely : Prop := fnTakeRow.holds Try.pinned (OpenSpec.ofChange fnTakeWrong)

/-- 'laws.FnTakeMore': WHATEVER THE INPUT: true; the input reads as it did. -/
def fnTakeMoreSpec : ChangeSpec := { name := "fnTakeMore", fn := fun _ => fun
  | [d] => { results := [.lit (.bool true)], args := [d] }
  | _ => none }
def fnTakeMoreRow : OpenClaim := { program := "ytcekikblgbdcoaa", sum := "7159e18c8baf8c2002d1a8957b27b2248159ee8e624b1e4cc18b2f79e2edb812", func := "loop.example/tiervolume/laws.FnTakeMore", spec := "fnTakeMore", apart := false }
def FnTakeMoreSaid : Prop := fnTakeMoreRow.holds Try.pinned (OpenSpec.ofChange fnTakeMoreSpec)

/-- ITS FALSE NEIGHBOUR: 'it returns false'. Refute it at one input. -/
def fnTakeMoreWrong : ChangeSpec := { name := "fnTakeMore", fn := fun _ => fun
  | [d] => { results := [.lit (.bool false)], args := [d] }
  | _ => none }
def FnTakeMoreWrongFalsely : Prop := fnTakeMoreRow.holds Try.pinned (OpenSpec.ofChange fnTakeMoreWrong)

/-- 'laws.FnTakeBound': WHATEVER THE INPUT: true; the input reads as it did. -/
def fnTakeBoundSpec : ChangeSpec := { name := "fnTakeBound", fn := fun _ => fun
  | [d] => { results := [.lit (.bool true)], args := [d] }
  | _ => none }
def fnTakeBoundRow : OpenClaim := { program := "ytcekikblgbdcoaa", sum := "7159e18c8baf8c2002d1a8957b27b2248159ee8e624b1e4cc18b2f79e2edb812", func := "loop.example/tiervolume/laws.FnTakeBound", spec := "fnTakeBound", apart := false }
def FnTakeBoundSaid : Prop := fnTakeBoundRow.holds Try.pinned (OpenSpec.ofChange fnTakeBoundSpec)

/-- ITS FALSE NEIGHBOUR: 'it returns false'. Refute it at one input. -/
def fnTakeBoundWrong : ChangeSpec := { name := "fnTakeBound", fn := fun _ => fun
  | [d] => { results := [.lit (.bool false)], args := [d] }
  | _ => none }
def FnTakeBoundWrongFalsely : Prop := fnTakeBoundRow.holds Try.pinned (OpenSpec.ofChange fnTakeBoundWrong)

/-- 'laws.FnTakeTwice': WHATEVER THE INPUT: true; the input reads as it did. -/
def fnTakeTwiceSpec : ChangeSpec := { name := "fnTakeTwice", fn := fun _ => fun
  | [d1, d2] => { results := [.lit (.bool true)], args := [d1, d2] }
  | _ => none }
def fnTakeTwiceRow : OpenClaim := { program := "ytcekikblgbdcoaa", sum := "7159e18c8baf8c2002d1a8957b27b2248159ee8e624b1e4cc18b2f79e2edb812", func := "loop.example/tiervolume/laws.FnTakeTwice", spec := "fnTakeTwice", apart := false }
def FnTakeTwiceSaid : Prop := fnTakeTwiceRow.holds Try.pinned (OpenSpec.ofChange fnTakeTwiceSpec)

/-- ITS FALSE NEIGHBOUR: 'it returns false'. Refute it at one input. -/
def fnTakeTwiceWrong : ChangeSpec := { name := "fnTakeTwice", fn := fun _ => fun
  | [d1, d2] => { results := [.lit (.bool false)], args := [d1, d2] }
  | _ => none }
def FnTakeTwiceWrongFalsely : Prop := fnTakeTwiceRow.holds Try.pinned (OpenSpec.ofChange fnTakeTwiceWrong)

/-- 'laws.FnWait': WHATEVER THE INPUT: true; the input reads as it did. -/
def fnWaitSpec : ChangeSpec := { name := "fnWait", fn := fun _ => fun
  | [d] => { results := [.lit (.bool true)], args := [d] }
  | _ => none }
def fnWaitRow : OpenClaim := { program := "ytcekikblgbdcoaa", sum := "7159e18c8baf8c2002d1a8957b27b2248159ee8e624b1e4cc18b2f79e2edb812", func := "loop.example/tiervolume/laws.FnWait", spec := "fnWait", apart := false }
def FnWaitSaid : Prop := fnWaitRow.holds Try.pinned (OpenSpec.ofChange fnWaitSpec)

/-- ITS FALSE NEIGHBOUR: 'it returns false'. Refute it at one input. -/
def fnWaitWrong : ChangeSpec := { name := "fnWait", fn := fun _ => fun
  | [d] => { results := [.lit (.bool false)], args := [d] }
  | _ => none }
def FnWaitWrongFalsely : Prop := fnWaitRow.holds Try.pinned (OpenSpec.ofChange fnWaitWrong)

/-- 'laws.FnWaitNone': WHATEVER THE INPUT: true; the input reads as it did. -/
def fnWaitNoneSpec : ChangeSpec := { name := "fnWaitNone", fn := fun _ => fun
  | [d] => { results := [.lit (.bool true)], args := [d] }
  | _ => none }
def fnWaitNoneRow : OpenClaim := { program := "ytcekikblgbdcoaa", sum := "7159e18c8baf8c2002d1a8957b27b2248159ee8e624b1e4cc18b2f79e2edb812", func := "loop.example/tiervolume/laws.FnWaitNone", spec := "fnWaitNone", apart := false }
def FnWaitNoneSaid : Prop := fnWaitNoneRow.holds Try.pinned (OpenSpec.ofChange fnWaitNoneSpec)

/-- ITS FALSE NEIGHBOUR: 'it returns false'. Refute it at one input. -/
def fnWaitNoneWrong : ChangeSpec := { name := "fnWaitNone", fn := fun _ => fun
  | [d] => { results := [.lit (.bool false)], args := [d] }
  | _ => none }
def FnWaitNoneWrongFalsely : Prop := fnWaitNoneRow.holds Try.pinned (OpenSpec.ofChange fnWaitNoneWrong)

/-- 'laws.FnExactBucketValid': WHATEVER THE INPUT: true; the input reads as it did. -/
def fnExactBucketValidSpec : ChangeSpec := { name := "fnExactBucketValid", fn := fun _ => fun
  | [d] => { results := [.lit (.bool true)], args := [d] }
  | _ => none }
def fnExactBucketValidRow : OpenClaim := { program := "ytcekikblgbdcoaa", sum := "7159e18c8baf8c2002d1a8957b27b2248159ee8e624b1e4cc18b2f79e2edb812", func := "loop.example/tiervolume/laws.FnExactBucketValid", spec := "fnExactBucketValid", apart := false }
def FnExactBucketValidSaid : Prop := fnExactBucketValidRow.holds Try.pinned (OpenSpec.ofChange fnExactBucketValidSpec)

/-- ITS FALSE NEIGHBOUR: 'it returns false'. Refute it at one input. -/
def fnExactBucketValidWrong : ChangeSpec := { name := "fnExactBucketValid", fn := fun _ => fun
  | [d] => { results := [.lit (.bool false)], args := [d] }
  | _ => none }
def FnExactBucketValidWrongFalsely : Prop := fnExactBucketValidRow.holds Try.pinned (OpenSpec.ofChange fnExactBucketValidWrong)

/-- 'laws.FnExactBucketAt': WHATEVER THE INPUT: true; the input reads as it did. -/
def fnExactBucketAtSpec : ChangeSpec := { name := "fnExactBucketAt", fn := fun _ => fun
  | [d1, d2] => { results := [.lit (.bool true)], args := [d1, d2] }
  | _ => none }
def fnExactBucketAtRow : OpenClaim := { program := "ytcekikblgbdcoaa", sum := "7159e18c8baf8c2002d1a8957b27b2248159ee8e624b1e4cc18b2f79e2edb812", func := "loop.example/tiervolume/laws.FnExactBucketAt", spec := "fnExactBucketAt", apart := false }
def FnExactBucketAtSaid : Prop := fnExactBucketAtRow.holds Try.pinned (OpenSpec.ofChange fnExactBucketAtSpec)

/-- ITS FALSE NEIGHBOUR: 'it returns false'. Refute it at one input. -/
def fnExactBucketAtWrong : ChangeSpec := { name := "fnExactBucketAt", fn := fun _ => fun
  | [d1, d2] => { results := [.lit (.bool false)], args := [d1, d2] }
  | _ => none }
def FnExactBucketAtWrongFalsely : Prop := fnExactBucketAtRow.holds Try.pinned (OpenSpec.ofChange fnExactBucketAtWrong)

/-- 'laws.FnExactBucketTake': WHATEVER THE INPUT: true; the input reads as it did. -/
def fnExactBucketTakeSpec : ChangeSpec := { name := "fnExactBucketTake", fn := fun _ => fun
  | [d1, d2, d3] => { results := [.lit (.bool true)], args := [d1, d2, d3] }
  | _ => none }
def fnExactBucketTakeRow : OpenClaim := { program := "ytcekikblgbdcoaa", sum := "7159e18c8baf8c2002d1a8957b27b2248159ee8e624b1e4cc18b2f79e2edb812", func := "loop.example/tiervolume/laws.FnExactBucketTake", spec := "fnExactBucketTake", apart := false }
def FnExactBucketTakeSaid : Prop := fnExactBucketTakeRow.holds Try.pinned (OpenSpec.ofChange fnExactBucketTakeSpec)

/-- ITS FALSE NEIGHBOUR: 'it returns false'. Refute it at one input. -/
def fnExactBucketTakeWrong : ChangeSpec := { name := "fnExactBucketTake", fn := fun _ => fun
  | [d1, d2, d3] => { results := [.lit (.bool false)], args := [d1, d2, d3] }
  | _ => none }
def FnExactBucketTakeWrongFalsely : Prop := fnExactBucketTakeRow.holds Try.pinned (OpenSpec.ofChange fnExactBucketTakeWrong)

/-- 'laws.FnExactBucketWait': WHATEVER THE INPUT: true; the input reads as it did. -/
def fnExactBucketWaitSpec : ChangeSpec := { name := "fnExactBucketWait", fn := fun _ => fun
  | [d1, d2] => { results := [.lit (.bool true)], args := [d1, d2] }
  | _ => none }
def fnExactBucketWaitRow : OpenClaim := { program := "ytcekikblgbdcoaa", sum := "7159e18c8baf8c2002d1a8957b27b2248159ee8e624b1e4cc18b2f79e2edb812", func := "loop.example/tiervolume/laws.FnExactBucketWait", spec := "fnExactBucketWait", apart := false }
def FnExactBucketWaitSaid : Prop := fnExactBucketWaitRow.holds Try.pinned (OpenSpec.ofChange fnExactBucketWaitSpec)

/-- ITS FALSE NEIGHBOUR: 'it returns false'. Refute it at one input. -/
def fnExactBucketWaitWrong : ChangeSpec := { name := "fnExactBucketWait", fn := fun _ => fun
  | [d1, d2] => { results := [.lit (.bool false)], args := [d1, d2] }
  | _ => none }
def FnExactBucketWaitWrongFalsely : Prop := fnExactBucketWaitRow.holds Try.pinned (OpenSpec.ofChange fnExactBucketWaitWrong)

/- THE SECOND FORM. 'bulk': how many values and letters a reading holds, each counted each time it is reached (what is shared counts as often as it is met; a slice's spare places count too). A statement '..UptoSaid' is the law's where the arguments, and the package variables that the reading takes, are together of bulk at most 1048576: NARROWER than '..Said'. Prove '..Said' where nothing that the law and all that it calls make is longer than what came in: it says more and counts as full. Else prove '..UptoSaid'. A law counts once. -/
mutual
def uptoBulk {H : Type} : DataW H → Nat
  | .lit (.string bytes) => bytes.length + 1
  | .lit _ => 1
  | .nil => 1
  | .ptr d => uptoBulk d + 1
  | .slice elems spare => uptoBulkAll elems + uptoBulkAll spare + 1
  | .agg parts => uptoBulkAll parts + 1
  | .iface _ d => uptoBulk d + 1
  | .map entries => uptoBulkEntries entries + 1
  | .held _ => 1
def uptoBulkAll {H : Type} : List (DataW H) → Nat
  | [] => 0
  | d :: r => uptoBulk d + uptoBulkAll r
def uptoBulkEntries {H : Type} : List (Lit × DataW H) → Nat
  | [] => 0
  | x :: r => uptoBulkEntry x + uptoBulkEntries r
def uptoBulkEntry {H : Type} : Lit × DataW H → Nat
  | (.string bytes, d) => bytes.length + uptoBulk d + 1
  | (_, d) => uptoBulk d + 1
 end
def uptoSmall : (H : Type) → List (DataW H) → Bool := fun _ ds => decide (uptoBulkAll ds ≤ 1048576)
def OpenSpec.upto (s : _root_.Go.ChangeSpec) : _root_.Go.OpenSpec := { _root_.Go.OpenSpec.ofChange s with cond := some uptoSmall }

/-- 'laws.FnBucketAt', WHERE WHAT IT READS IS OF BULK AT MOST 1048576: true; the input reads as it did. -/
def fnBucketAtUptoRow : OpenClaim := { program := "ytcekikblgbdcoaa", sum := "7159e18c8baf8c2002d1a8957b27b2248159ee8e624b1e4cc18b2f79e2edb812", func := "loop.example/tiervolume/laws.FnBucketAt", spec := "fnBucketAt", apart := false, narrowed := true }
def FnBucketAtUptoSaid : Prop := fnBucketAtUptoRow.holds Try.pinned (OpenSpec.upto fnBucketAtSpec)

/-- 'laws.FnBucketGrow', WHERE WHAT IT READS IS OF BULK AT MOST 1048576: true; the input reads as it did. -/
def fnBucketGrowUptoRow : OpenClaim := { program := "ytcekikblgbdcoaa", sum := "7159e18c8baf8c2002d1a8957b27b2248159ee8e624b1e4cc18b2f79e2edb812", func := "loop.example/tiervolume/laws.FnBucketGrow", spec := "fnBucketGrow", apart := false, narrowed := true }
def FnBucketGrowUptoSaid : Prop := fnBucketGrowUptoRow.holds Try.pinned (OpenSpec.upto fnBucketGrowSpec)

/-- 'laws.FnTake', WHERE WHAT IT READS IS OF BULK AT MOST 1048576: true; the input reads as it did. -/
def fnTakeUptoRow : OpenClaim := { program := "ytcekikblgbdcoaa", sum := "7159e18c8baf8c2002d1a8957b27b2248159ee8e624b1e4cc18b2f79e2edb812", func := "loop.example/tiervolume/laws.FnTake", spec := "fnTake", apart := false, narrowed := true }
def FnTakeUptoSaid : Prop := fnTakeUptoRow.holds Try.pinned (OpenSpec.upto fnTakeSpec)

/-- 'laws.FnTakeMore', WHERE WHAT IT READS IS OF BULK AT MOST 1048576: true; the input reads as it did. -/
def fnTakeMoreUptoRow : OpenClaim := { program := "ytcekikblgbdcoaa", sum := "7159e18c8baf8c2002d1a8957b27b2248159ee8e624b1e4cc18b2f79e2edb812", func := "loop.example/tiervolume/laws.FnTakeMore", spec := "fnTakeMore", apart := false, narrowed := true }
def FnTakeMoreUptoSaid : Prop := fnTakeMoreUptoRow.holds Try.pinned (OpenSpec.upto fnTakeMoreSpec)

/-- 'laws.FnTakeBound', WHERE WHAT IT READS IS OF BULK AT MOST 1048576: true; the input reads as it did. -/
def fnTakeBoundUptoRow : OpenClaim := { program := "ytcekikblgbdcoaa", sum := "7159e18c8baf8c2002d1a8957b27b2248159ee8e624b1e4cc18b2f79e2edb812", func := "loop.example/tiervolume/laws.FnTakeBound", spec := "fnTakeBound", apart := false, narrowed := true }
def FnTakeBoundUptoSaid : Prop := fnTakeBoundUptoRow.holds Try.pinned (OpenSpec.upto fnTakeBoundSpec)

/-- 'laws.FnTakeTwice', WHERE WHAT IT READS IS OF BULK AT MOST 1048576: true; the input reads as it did. -/
def fnTakeTwiceUptoRow : OpenClaim := { program := "ytcekikblgbdcoaa", sum := "7159e18c8baf8c2002d1a8957b27b2248159ee8e624b1e4cc18b2f79e2edb812", func := "loop.example/tiervolume/laws.FnTakeTwice", spec := "fnTakeTwice", apart := false, narrowed := true }
def FnTakeTwiceUptoSaid : Prop := fnTakeTwiceUptoRow.holds Try.pinned (OpenSpec.upto fnTakeTwiceSpec)

/-- 'laws.FnWait', WHERE WHAT IT READS IS OF BULK AT MOST 1048576: true; the input reads as it did. -/
def fnWaitUptoRow : OpenClaim := { program := "ytcekikblgbdcoaa", sum := "7159e18c8baf8c2002d1a8957b27b2248159ee8e624b1e4cc18b2f79e2edb812", func := "loop.example/tiervolume/laws.FnWait", spec := "fnWait", apart := false, narrowed := true }
def FnWaitUptoSaid : Prop := fnWaitUptoRow.holds Try.pinned (OpenSpec.upto fnWaitSpec)

/-- 'laws.FnWaitNone', WHERE WHAT IT READS IS OF BULK AT MOST 1048576: true; the input reads as it did. -/
def fnWaitNoneUptoRow : OpenClaim := { program := "ytcekikblgbdcoaa", sum := "7159e18c8baf8c2002d1a8957b27b2248159ee8e624b1e4cc18b2f79e2edb812", func := "loop.example/tiervolume/laws.FnWaitNone", spec := "fnWaitNone", apart := false, narrowed := true }
def FnWaitNoneUptoSaid : Prop := fnWaitNoneUptoRow.holds Try.pinned (OpenSpec.upto fnWaitNoneSpec)

/-- 'laws.FnExactBucketValid', WHERE WHAT IT READS IS OF BULK AT MOST 1048576: true; the input reads as it did. -/
def fnExactBucketValidUptoRow : OpenClaim := { program := "ytcekikblgbdcoaa", sum := "7159e18c8baf8c2002d1a8957b27b2248159ee8e624b1e4cc18b2f79e2edb812", func := "loop.example/tiervolume/laws.FnExactBucketValid", spec := "fnExactBucketValid", apart := false, narrowed := true }
def FnExactBucketValidUptoSaid : Prop := fnExactBucketValidUptoRow.holds Try.pinned (OpenSpec.upto fnExactBucketValidSpec)

/-- 'laws.FnExactBucketAt', WHERE WHAT IT READS IS OF BULK AT MOST 1048576: true; the input reads as it did. -/
def fnExactBucketAtUptoRow : OpenClaim := { program := "ytcekikblgbdcoaa", sum := "7159e18c8baf8c2002d1a8957b27b2248159ee8e624b1e4cc18b2f79e2edb812", func := "loop.example/tiervolume/laws.FnExactBucketAt", spec := "fnExactBucketAt", apart := false, narrowed := true }
def FnExactBucketAtUptoSaid : Prop := fnExactBucketAtUptoRow.holds Try.pinned (OpenSpec.upto fnExactBucketAtSpec)

/-- 'laws.FnExactBucketTake', WHERE WHAT IT READS IS OF BULK AT MOST 1048576: true; the input reads as it did. -/
def fnExactBucketTakeUptoRow : OpenClaim := { program := "ytcekikblgbdcoaa", sum := "7159e18c8baf8c2002d1a8957b27b2248159ee8e624b1e4cc18b2f79e2edb812", func := "loop.example/tiervolume/laws.FnExactBucketTake", spec := "fnExactBucketTake", apart := false, narrowed := true }
def FnExactBucketTakeUptoSaid : Prop := fnExactBucketTakeUptoRow.holds Try.pinned (OpenSpec.upto fnExactBucketTakeSpec)

/-- 'laws.FnExactBucketWait', WHERE WHAT IT READS IS OF BULK AT MOST 1048576: true; the input reads as it did. -/
def fnExactBucketWaitUptoRow : OpenClaim := { program := "ytcekikblgbdcoaa", sum := "7159e18c8baf8c2002d1a8957b27b2248159ee8e624b1e4cc18b2f79e2edb812", func := "loop.example/tiervolume/laws.FnExactBucketWait", spec := "fnExactBucketWait", apart := false, narrowed := true }
def FnExactBucketWaitUptoSaid : Prop := fnExactBucketWaitUptoRow.holds Try.pinned (OpenSpec.upto fnExactBucketWaitSpec)

end Rows
end Go.Proofs.Ytcekikblgbdcoaa
