/-
  No cell of these rows narrows 'for every input' (looked for: loops, veiled, ifaces, maps, wideKeys, modest, calm, conditions, laid).
  DERIVED. THE GIVEN ROWS OF THIS SEAT. 6 by the template 'for every input the law returns true; each argument reads behind the call as it read before'; 0 by the template 'total and deterministic' (their statements: YtddedafjcgohpaaTotals.lean).
  GIVEN WITH THE SEED: the statements are not yours to turn. If you find one false, say at which input.
  Laid BY PROGRAM, IN A SANDBOX (cutbox-rows.mjs): the forced cells as the released guide's own fill.sh prints them over the translation 2fef965693f8d053… (all of the seat's roots in one cut). By AI agents, Wed Nov 11 2026. No macro, syntax, notation, axiom, sorry.
-/
import Derived.Test.YtddedafjcgohpaaChecked
import GoSem.Claim
import GoSem.ClaimJoined
import GoSem.ClaimMapViews
import Derived.JoinedTies
import Derived.KernelRfl
namespace Go.Proofs.Ytddedafjcgohpaa
/- THE CELL 'sum', in the pinned program and in every row, IS THE sha256 OF THE DUMP (.gsa) THAT YtddedafjcgohpaaProg.lean LOADS. Nothing in Lean hashes anything: it is a label: what it is worth is what the hold of that sum in a sandbox is worth. -/
noncomputable def Try.pinned : Pinned := { name := "ytddedafjcgohpaa", sum := "2fef965693f8d0532d5b6cdf59b34425c610edab9c94e2319206804065b7d7a2", checked := Try.checked }
namespace Rows
def none {H : Type} : Left H := { results := [], args := [] }

/-- 'laws.FnCutRange': WHATEVER THE INPUT: true; the input reads as it did. -/
def fnCutRangeSpec : ChangeSpec := { name := "fnCutRange", fn := fun _ => fun
  | [d] => { results := [.lit (.bool true)], args := [d] }
  | _ => none }
def fnCutRangeRow : OpenClaim := { program := "ytddedafjcgohpaa", sum := "2fef965693f8d0532d5b6cdf59b34425c610edab9c94e2319206804065b7d7a2", func := "loop.example/tiervolume/laws.FnCutRange", spec := "fnCutRange", apart := false }
def FnCutRangeSaid : Prop := fnCutRangeRow.holds Try.pinned (OpenSpec.ofChange fnCutRangeSpec)

/-- ITS FALSE NEIGHBOUR: 'it returns false'. Refute it at one input. -/
def fnCutRangeWrong : ChangeSpec := { name := "fnCutRange", fn := fun _ => fun
  | [d] => { results := [.lit (.bool false)], args := [d] }
  | _ => none }
def FnCutRangeWrongFalsely : Prop := fnCutRangeRow.holds Try.pinned (OpenSpec.ofChange fnCutRangeWrong)

/-- 'laws.FnCrash': WHATEVER THE INPUT: true; the input reads as it did. -/
def fnCrashSpec : ChangeSpec := { name := "fnCrash", fn := fun _ => fun
  | [d] => { results := [.lit (.bool true)], args := [d] }
  | _ => none }
def fnCrashRow : OpenClaim := { program := "ytddedafjcgohpaa", sum := "2fef965693f8d0532d5b6cdf59b34425c610edab9c94e2319206804065b7d7a2", func := "loop.example/tiervolume/laws.FnCrash", spec := "fnCrash", apart := false }
def FnCrashSaid : Prop := fnCrashRow.holds Try.pinned (OpenSpec.ofChange fnCrashSpec)

/-- ITS FALSE NEIGHBOUR: 'it returns false'. Refute it at one input. -/
def fnCrashWrong : ChangeSpec := { name := "fnCrash", fn := fun _ => fun
  | [d] => { results := [.lit (.bool false)], args := [d] }
  | _ => none }
def FnCrashWrongFalsely : Prop := fnCrashRow.holds Try.pinned (OpenSpec.ofChange fnCrashWrong)

/-- 'laws.FnCrashAll': WHATEVER THE INPUT: true; the input reads as it did. -/
def fnCrashAllSpec : ChangeSpec := { name := "fnCrashAll", fn := fun _ => fun
  | [d] => { results := [.lit (.bool true)], args := [d] }
  | _ => none }
def fnCrashAllRow : OpenClaim := { program := "ytddedafjcgohpaa", sum := "2fef965693f8d0532d5b6cdf59b34425c610edab9c94e2319206804065b7d7a2", func := "loop.example/tiervolume/laws.FnCrashAll", spec := "fnCrashAll", apart := false }
def FnCrashAllSaid : Prop := fnCrashAllRow.holds Try.pinned (OpenSpec.ofChange fnCrashAllSpec)

/-- ITS FALSE NEIGHBOUR: 'it returns false'. Refute it at one input. -/
def fnCrashAllWrong : ChangeSpec := { name := "fnCrashAll", fn := fun _ => fun
  | [d] => { results := [.lit (.bool false)], args := [d] }
  | _ => none }
def FnCrashAllWrongFalsely : Prop := fnCrashAllRow.holds Try.pinned (OpenSpec.ofChange fnCrashAllWrong)

/-- 'laws.FnCrashSync': WHATEVER THE INPUT: true; the input reads as it did. -/
def fnCrashSyncSpec : ChangeSpec := { name := "fnCrashSync", fn := fun _ => fun
  | [d1, d2] => { results := [.lit (.bool true)], args := [d1, d2] }
  | _ => none }
def fnCrashSyncRow : OpenClaim := { program := "ytddedafjcgohpaa", sum := "2fef965693f8d0532d5b6cdf59b34425c610edab9c94e2319206804065b7d7a2", func := "loop.example/tiervolume/laws.FnCrashSync", spec := "fnCrashSync", apart := false }
def FnCrashSyncSaid : Prop := fnCrashSyncRow.holds Try.pinned (OpenSpec.ofChange fnCrashSyncSpec)

/-- ITS FALSE NEIGHBOUR: 'it returns false'. Refute it at one input. -/
def fnCrashSyncWrong : ChangeSpec := { name := "fnCrashSync", fn := fun _ => fun
  | [d1, d2] => { results := [.lit (.bool false)], args := [d1, d2] }
  | _ => none }
def FnCrashSyncWrongFalsely : Prop := fnCrashSyncRow.holds Try.pinned (OpenSpec.ofChange fnCrashSyncWrong)

/-- 'laws.FnCrashTwice': WHATEVER THE INPUT: true; the input reads as it did. -/
def fnCrashTwiceSpec : ChangeSpec := { name := "fnCrashTwice", fn := fun _ => fun
  | [d] => { results := [.lit (.bool true)], args := [d] }
  | _ => none }
def fnCrashTwiceRow : OpenClaim := { program := "ytddedafjcgohpaa", sum := "2fef965693f8d0532d5b6cdf59b34425c610edab9c94e2319206804065b7d7a2", func := "loop.example/tiervolume/laws.FnCrashTwice", spec := "fnCrashTwice", apart := false }
def FnCrashTwiceSaid : Prop := fnCrashTwiceRow.holds Try.pinned (OpenSpec.ofChange fnCrashTwiceSpec)

/-- ITS FALSE NEIGHBOUR: 'it returns false'. Refute it at one input. -/
def fnCrashTwiceWrong : ChangeSpec := { name := "fnCrashTwice", fn := fun _ => fun
  | [d] => { results := [.lit (.bool false)], args := [d] }
  | _ => none }
def FnCrashTwiceWrongFalsely : Prop := fnCrashTwiceRow.holds Try.pinned (OpenSpec.ofChange fnCrashTwiceWrong)

/-- 'laws.FnDevicePart': WHATEVER THE INPUT: true; the input reads as it did. -/
def fnDevicePartSpec : ChangeSpec := { name := "fnDevicePart", fn := fun _ => fun
  | [d1, d2] => { results := [.lit (.bool true)], args := [d1, d2] }
  | _ => none }
def fnDevicePartRow : OpenClaim := { program := "ytddedafjcgohpaa", sum := "2fef965693f8d0532d5b6cdf59b34425c610edab9c94e2319206804065b7d7a2", func := "loop.example/tiervolume/laws.FnDevicePart", spec := "fnDevicePart", apart := false }
def FnDevicePartSaid : Prop := fnDevicePartRow.holds Try.pinned (OpenSpec.ofChange fnDevicePartSpec)

/-- ITS FALSE NEIGHBOUR: 'it returns false'. Refute it at one input. -/
def fnDevicePartWrong : ChangeSpec := { name := "fnDevicePart", fn := fun _ => fun
  | [d1, d2] => { results := [.lit (.bool false)], args := [d1, d2] }
  | _ => none }
def FnDevicePartWrongFalsely : Prop := fnDevicePartRow.holds Try.pinned (OpenSpec.ofChange fnDevicePartWrong)

/- THE SECOND FORM. 'bulk': how many values and letters a reading holds, each counted each time it is reached (what is shared counts as often as it is met; a slice's spare places count too). A statement '..UptoSaid' is the law's where the arguments, and the package variables that the reading takes, are together of bulk at most 1048576: NARROWER than '..Said'. Prove '..Said' where nothing that the law and all that it calls make is longer than what came in: it says more and counts as full. Else prove '..UptoSaid'. A law counts once. -/
mutual
def uptoBulk {H : Type} : DataW H → Nat
  | .lit (.string bytes) => bytes.length + 1
  | .lit _ => 1
  | .nil => 1
  | .ptr d => uptoBulk d + 1
  | .slice elems spare => uptoBulkAll elems + uptoBulkAll spare + 1
  | .agg parts => uptoBulkAll parts + 1
  | .iface _ d => uptoBulk d + 1
  | .map entries => uptoBulkEntries entries + 1
  | .held _ => 1
def uptoBulkAll {H : Type} : List (DataW H) → Nat
  | [] => 0
  | d :: r => uptoBulk d + uptoBulkAll r
def uptoBulkEntries {H : Type} : List (Lit × DataW H) → Nat
  | [] => 0
  | x :: r => uptoBulkEntry x + uptoBulkEntries r
def uptoBulkEntry {H : Type} : Lit × DataW H → Nat
  | (.string bytes, d) => bytes.length + uptoBulk d + 1
  | (_, d) => uptoBulk d + 1
 end
def uptoSmall : (H : Type) → List (DataW H) → Bool := fun _ ds => decide (uptoBulkAll ds ≤ 1048576)
def OpenSpec.upto (s : _root_.Go.ChangeSpec) : _root_.Go.OpenSpec := { _root_.Go.OpenSpec.ofChange s with cond := some uptoSmall }

/-- 'laws.FnCutRange', WHERE WHAT IT READS IS OF BULK AT MOST 1048576: true; the input reads as it did. -/
def fnCutRangeUptoRow : OpenClaim := { program := "ytddedafjcgohpaa", sum := "2fef965693f8d0532d5b6cdf59b34425c610edab9c94e2319206804065b7d7a2", func := "loop.example/tiervolume/laws.FnCutRange", spec := "fnCutRange", apart := false, narrowed := true }
def FnCutRangeUptoSaid : Prop := fnCutRangeUptoRow.holds Try.pinned (OpenSpec.upto fnCutRangeSpec)

/-- 'laws.FnCrash', WHERE WHAT IT READS IS OF BULK AT MOST 1048576: true; the input reads as it did. -/
def fnCrashUptoRow : OpenClaim := { program := "ytddedafjcgohpaa", sum := "2fef965693f8d0532d5b6cdf59b34425c610edab9c94e2319206804065b7d7a2", func := "loop.example/tiervolume/laws.FnCrash", spec := "fnCrash", apart := false, narrowed := true }
def FnCrashUptoSaid : Prop := fnCrashUptoRow.holds Try.pinned (OpenSpec.upto fnCrashSpec)

/-- 'laws.FnCrashAll', WHERE WHAT IT READS IS OF BULK AT MOST 1048576: true; the input reads as it did. -/
def fnCrashAllUptoRow : OpenClaim := { program := "ytddedafjcgohpaa", sum := "2fef965693f8d0532d5b6cdf59b34425c610edab9c94e2319206804065b7d7a2", func := "loop.example/tiervolume/laws.FnCrashAll", spec := "fnCrashAll", apart := false, narrowed := true }
def FnCrashAllUptoSaid : Prop := fnCrashAllUptoRow.holds Try.pinned (OpenSpec.upto fnCrashAllSpec)

/-- 'laws.FnCrashSync', WHERE WHAT IT READS IS OF BULK AT MOST 1048576: true; the input reads as it did. -/
def fnCrashSyncUptoRow : OpenClaim := { program := "ytddedafjcgohpaa", sum := "2fef965693f8d0532d5b6cdf59b34425c610edab9c94e2319206804065b7d7a2", func := "loop.example/tiervolume/laws.FnCrashSync", spec := "fnCrashSync", apart := false, narrowed := true }
def FnCrashSyncUptoSaid : Prop := fnCrashSyncUptoRow.holds Try.pinned (OpenSpec.upto fnCrashSyncSpec)

/-- 'laws.FnCrashTwice', WHERE WHAT IT READS IS OF BULK AT MOST 1048576: true; the input reads as it did. -/
def fnCrashTwiceUptoRow : OpenClaim := { program := "ytddedafjcgohpaa", sum := "2fef965693f8d0532d5b6cdf59b34425c610edab9c94e2319206804065b7d7a2", func := "loop.example/tiervolume/laws.FnCrashTwice", spec := "fnCrashTwice", apart := false, narrowed := true }
def FnCrashTwiceUptoSaid : Prop := fnCrashTwiceUptoRow.holds Try.pinned (OpenSpec.upto fnCrashTwiceSpec)

/-- 'laws.FnDevicePart', WHERE WHAT IT READS IS OF BULK AT MOST 1048576: true; the input reads as it did. -/
def fnDevicePartUptoRow : OpenClaim := { program := "ytddedafjcgohpaa", sum := "2fef965693f8d0532d5b6cdf59b34425c610edab9c94e2319206804065b7d7a2", func := "loop.example/tiervolume/laws.FnDevicePart", spec := "fnDevicePart", apart := false, narrowed := true }
def FnDevicePartUptoSaid : Prop := fnDevicePartUptoRow.holds Try.pinned (OpenSpec.upto fnDevicePartSpec)

end Rows
end Go.Proofs.Ytddedafjcgohpaa
