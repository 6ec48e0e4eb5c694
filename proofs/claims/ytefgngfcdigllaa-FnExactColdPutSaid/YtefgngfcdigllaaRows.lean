/-
  No cell of these rows narrows 'for every input' (looked for: loops, veiled, ifaces, maps, wideKeys, modest, calm, conditions, laid).
  DERIVED. THE GIVEN ROWS OF THIS SEAT. 7 by the template 'for every input the law returns true; each argument reads behind the call as it read before'; 0 by the template 'total and deterministic' (their statements: YtefgngfcdigllaaTotals.lean).
  GIVEN WITH THE SEED: the statements are not yours to turn. If you find one false, say at which input.
  Laid BY PROGRAM, IN A SANDBOX (cutbox-rows.mjs): the forced cells as the released guide's own fill.sh prints them over the translation 287e9c49993f309b… (all of the seat's roots in one cut). By AI agents, Wed Nov 11 2026. No macro, syntax, notation, axiom, sorry.
-/
import Derived.Test.YtefgngfcdigllaaChecked
import GoSem.Claim
import GoSem.ClaimJoined
import GoSem.ClaimMapViews
import Derived.JoinedTies
import Derived.KernelRfl
namespace Go.Proofs.Ytefgngfcdigllaa
/- THE CELL 'sum', in the pinned program and in every row, IS THE sha256 OF THE DUMP (.gsa) THAT YtefgngfcdigllaaProg.lean LOADS. Nothing in Lean hashes anything: it is a label: what it is worth is what the hold of that sum in a sandbox is worth. -/
noncomputable def Try.pinned : Pinned := { name := "ytefgngfcdigllaa", sum := "287e9c49993f309b19c795792c7cae3a6d31e2b1c1dc8a3e8ce8be0ceffc458c", checked := Try.checked }
namespace Rows
def none {H : Type} : Left H := { results := [], args := [] }

/-- 'laws.FnColdPut': WHATEVER THE INPUT: true; the input reads as it did. -/
def fnColdPutSpec : ChangeSpec := { name := "fnColdPut", fn := fun _ => fun
  | [d] => { results := [.lit (.bool true)], args := [d] }
  | _ => none }
def fnColdPutRow : OpenClaim := { program := "ytefgngfcdigllaa", sum := "287e9c49993f309b19c795792c7cae3a6d31e2b1c1dc8a3e8ce8be0ceffc458c", func := "loop.example/tiervolume/laws.FnColdPut", spec := "fnColdPut", unfollowed := true, recurses := true, apart := false }
def FnColdPutSaid : Prop := fnColdPutRow.holds Try.pinned (OpenSpec.ofChange fnColdPutSpec)

/-- ITS FALSE NEIGHBOUR: 'it returns false'. Refute it at one input. -/
def fnColdPutWrong : ChangeSpec := { name := "fnColdPut", fn := fun _ => fun
  | [d] => { results := [.lit (.bool false)], args := [d] }
  | _ => none }
def FnColdPutWrongFalsely : Prop := fnColdPutRow.holds Try.pinned (OpenSpec.ofChange fnColdPutWrong)

/-- 'laws.FnColdGet': WHATEVER THE INPUT: true; the input reads as it did. -/
def fnColdGetSpec : ChangeSpec := { name := "fnColdGet", fn := fun _ => fun
  | [d] => { results := [.lit (.bool true)], args := [d] }
  | _ => none }
def fnColdGetRow : OpenClaim := { program := "ytefgngfcdigllaa", sum := "287e9c49993f309b19c795792c7cae3a6d31e2b1c1dc8a3e8ce8be0ceffc458c", func := "loop.example/tiervolume/laws.FnColdGet", spec := "fnColdGet", unfollowed := true, recurses := true, apart := false }
def FnColdGetSaid : Prop := fnColdGetRow.holds Try.pinned (OpenSpec.ofChange fnColdGetSpec)

/-- ITS FALSE NEIGHBOUR: 'it returns false'. Refute it at one input. -/
def fnColdGetWrong : ChangeSpec := { name := "fnColdGet", fn := fun _ => fun
  | [d] => { results := [.lit (.bool false)], args := [d] }
  | _ => none }
def FnColdGetWrongFalsely : Prop := fnColdGetRow.holds Try.pinned (OpenSpec.ofChange fnColdGetWrong)

/-- 'laws.FnColdPart': WHATEVER THE INPUT: true; the input reads as it did. -/
def fnColdPartSpec : ChangeSpec := { name := "fnColdPart", fn := fun _ => fun
  | [d1, d2] => { results := [.lit (.bool true)], args := [d1, d2] }
  | _ => none }
def fnColdPartRow : OpenClaim := { program := "ytefgngfcdigllaa", sum := "287e9c49993f309b19c795792c7cae3a6d31e2b1c1dc8a3e8ce8be0ceffc458c", func := "loop.example/tiervolume/laws.FnColdPart", spec := "fnColdPart", unfollowed := true, recurses := true, apart := false }
def FnColdPartSaid : Prop := fnColdPartRow.holds Try.pinned (OpenSpec.ofChange fnColdPartSpec)

/-- ITS FALSE NEIGHBOUR: 'it returns false'. Refute it at one input. -/
def fnColdPartWrong : ChangeSpec := { name := "fnColdPart", fn := fun _ => fun
  | [d1, d2] => { results := [.lit (.bool false)], args := [d1, d2] }
  | _ => none }
def FnColdPartWrongFalsely : Prop := fnColdPartRow.holds Try.pinned (OpenSpec.ofChange fnColdPartWrong)

/-- 'laws.FnColdOdd': WHATEVER THE INPUT: true; the input reads as it did. -/
def fnColdOddSpec : ChangeSpec := { name := "fnColdOdd", fn := fun _ => fun
  | [d] => { results := [.lit (.bool true)], args := [d] }
  | _ => none }
def fnColdOddRow : OpenClaim := { program := "ytefgngfcdigllaa", sum := "287e9c49993f309b19c795792c7cae3a6d31e2b1c1dc8a3e8ce8be0ceffc458c", func := "loop.example/tiervolume/laws.FnColdOdd", spec := "fnColdOdd", unfollowed := true, recurses := true, apart := false }
def FnColdOddSaid : Prop := fnColdOddRow.holds Try.pinned (OpenSpec.ofChange fnColdOddSpec)

/-- ITS FALSE NEIGHBOUR: 'it returns false'. Refute it at one input. -/
def fnColdOddWrong : ChangeSpec := { name := "fnColdOdd", fn := fun _ => fun
  | [d] => { results := [.lit (.bool false)], args := [d] }
  | _ => none }
def FnColdOddWrongFalsely : Prop := fnColdOddRow.holds Try.pinned (OpenSpec.ofChange fnColdOddWrong)

/-- 'laws.FnColdRange': WHATEVER THE INPUT: true; the input reads as it did. -/
def fnColdRangeSpec : ChangeSpec := { name := "fnColdRange", fn := fun _ => fun
  | [d] => { results := [.lit (.bool true)], args := [d] }
  | _ => none }
def fnColdRangeRow : OpenClaim := { program := "ytefgngfcdigllaa", sum := "287e9c49993f309b19c795792c7cae3a6d31e2b1c1dc8a3e8ce8be0ceffc458c", func := "loop.example/tiervolume/laws.FnColdRange", spec := "fnColdRange", unfollowed := true, recurses := true, apart := false }
def FnColdRangeSaid : Prop := fnColdRangeRow.holds Try.pinned (OpenSpec.ofChange fnColdRangeSpec)

/-- ITS FALSE NEIGHBOUR: 'it returns false'. Refute it at one input. -/
def fnColdRangeWrong : ChangeSpec := { name := "fnColdRange", fn := fun _ => fun
  | [d] => { results := [.lit (.bool false)], args := [d] }
  | _ => none }
def FnColdRangeWrongFalsely : Prop := fnColdRangeRow.holds Try.pinned (OpenSpec.ofChange fnColdRangeWrong)

/-- 'laws.FnExactColdPut': WHATEVER THE INPUT: true; the input reads as it did. -/
def fnExactColdPutSpec : ChangeSpec := { name := "fnExactColdPut", fn := fun _ => fun
  | [d] => { results := [.lit (.bool true)], args := [d] }
  | _ => none }
def fnExactColdPutRow : OpenClaim := { program := "ytefgngfcdigllaa", sum := "287e9c49993f309b19c795792c7cae3a6d31e2b1c1dc8a3e8ce8be0ceffc458c", func := "loop.example/tiervolume/laws.FnExactColdPut", spec := "fnExactColdPut", unfollowed := true, recurses := true, apart := false }
def FnExactColdPutSaid : Prop := fnExactColdPutRow.holds Try.pinned (OpenSpec.ofChange fnExactColdPutSpec)

/-- ITS FALSE NEIGHBOUR: 'it returns false'. Refute it at one input. -/
def fnExactColdPutWrong : ChangeSpec := { name := "fnExactColdPut", fn := fun _ => fun
  | [d] => { results := [.lit (.bool false)], args := [d] }
  | _ => none }
def FnExactColdPutWrongFalsely : Prop := fnExactColdPutRow.holds Try.pinned (OpenSpec.ofChange fnExactColdPutWrong)

/-- 'laws.FnExactColdGet': WHATEVER THE INPUT: true; the input reads as it did. -/
def fnExactColdGetSpec : ChangeSpec := { name := "fnExactColdGet", fn := fun _ => fun
  | [d] => { results := [.lit (.bool true)], args := [d] }
  | _ => none }
def fnExactColdGetRow : OpenClaim := { program := "ytefgngfcdigllaa", sum := "287e9c49993f309b19c795792c7cae3a6d31e2b1c1dc8a3e8ce8be0ceffc458c", func := "loop.example/tiervolume/laws.FnExactColdGet", spec := "fnExactColdGet", unfollowed := true, recurses := true, apart := false }
def FnExactColdGetSaid : Prop := fnExactColdGetRow.holds Try.pinned (OpenSpec.ofChange fnExactColdGetSpec)

/-- ITS FALSE NEIGHBOUR: 'it returns false'. Refute it at one input. -/
def fnExactColdGetWrong : ChangeSpec := { name := "fnExactColdGet", fn := fun _ => fun
  | [d] => { results := [.lit (.bool false)], args := [d] }
  | _ => none }
def FnExactColdGetWrongFalsely : Prop := fnExactColdGetRow.holds Try.pinned (OpenSpec.ofChange fnExactColdGetWrong)

/- THE SECOND FORM. 'bulk': how many values and letters a reading holds, each counted each time it is reached (what is shared counts as often as it is met; a slice's spare places count too). A statement '..UptoSaid' is the law's where the arguments, and the package variables that the reading takes, are together of bulk at most 1048576: NARROWER than '..Said'. Prove '..Said' where nothing that the law and all that it calls make is longer than what came in: it says more and counts as full. Else prove '..UptoSaid'. A law counts once. -/
mutual
def uptoBulk {H : Type} : DataW H → Nat
  | .lit (.string bytes) => bytes.length + 1
  | .lit _ => 1
  | .nil => 1
  | .ptr d => uptoBulk d + 1
  | .slice elems spare => uptoBulkAll elems + uptoBulkAll spare + 1
  | .agg parts => uptoBulkAll parts + 1
  | .iface _ d => uptoBulk d + 1
  | .map entries => uptoBulkEntries entries + 1
  | .held _ => 1
def uptoBulkAll {H : Type} : List (DataW H) → Nat
  | [] => 0
  | d :: r => uptoBulk d + uptoBulkAll r
def uptoBulkEntries {H : Type} : List (Lit × DataW H) → Nat
  | [] => 0
  | x :: r => uptoBulkEntry x + uptoBulkEntries r
def uptoBulkEntry {H : Type} : Lit × DataW H → Nat
  | (.string bytes, d) => bytes.length + uptoBulk d + 1
  | (_, d) => uptoBulk d + 1
 end
def uptoSmall : (H : Type) → List (DataW H) → Bool := fun _ ds => decide (uptoBulkAll ds ≤ 1048576)
def OpenSpec.upto (s : _root_.Go.ChangeSpec) : _root_.Go.OpenSpec := { _root_.Go.OpenSpec.ofChange s with cond := some uptoSmall }

/-- 'laws.FnColdPut', WHERE WHAT IT READS IS OF BULK AT MOST 1048576: true; the input reads as it did. -/
def fnColdPutUptoRow : OpenClaim := { program := "ytefgngfcdigllaa", sum := "287e9c49993f309b19c795792c7cae3a6d31e2b1c1dc8a3e8ce8be0ceffc458c", func := "loop.example/tiervolume/laws.FnColdPut", spec := "fnColdPut", unfollowed := true, recurses := true, apart := false, narrowed := true }
def FnColdPutUptoSaid : Prop := fnColdPutUptoRow.holds Try.pinned (OpenSpec.upto fnColdPutSpec)

/-- 'laws.FnColdGet', WHERE WHAT IT READS IS OF BULK AT MOST 1048576: true; the input reads as it did. -/
def fnColdGetUptoRow : OpenClaim := { program := "ytefgngfcdigllaa", sum := "287e9c49993f309b19c795792c7cae3a6d31e2b1c1dc8a3e8ce8be0ceffc458c", func := "loop.example/tiervolume/laws.FnColdGet", spec := "fnColdGet", unfollowed := true, recurses := true, apart := false, narrowed := true }
def FnColdGetUptoSaid : Prop := fnColdGetUptoRow.holds Try.pinned (OpenSpec.upto fnColdGetSpec)

/-- 'laws.FnColdPart', WHERE WHAT IT READS IS OF BULK AT MOST 1048576: true; the input reads as it did. -/
def fnColdPartUptoRow : OpenClaim := { program := "ytefgngfcdigllaa", sum := "287e9c49993f309b19c795792c7cae3a6d31e2b1c1dc8a3e8ce8be0ceffc458c", func := "loop.example/tiervolume/laws.FnColdPart", spec := "fnColdPart", unfollowed := true, recurses := true, apart := false, narrowed := true }
def FnColdPartUptoSaid : Prop := fnColdPartUptoRow.holds Try.pinned (OpenSpec.upto fnColdPartSpec)

/-- 'laws.FnColdOdd', WHERE WHAT IT READS IS OF BULK AT MOST 1048576: true; the input reads as it did. -/
def fnColdOddUptoRow : OpenClaim := { program := "ytefgngfcdigllaa", sum := "287e9c49993f309b19c795792c7cae3a6d31e2b1c1dc8a3e8ce8be0ceffc458c", func := "loop.example/tiervolume/laws.FnColdOdd", spec := "fnColdOdd", unfollowed := true, recurses := true, apart := false, narrowed := true }
def FnColdOddUptoSaid : Prop := fnColdOddUptoRow.holds Try.pinned (OpenSpec.upto fnColdOddSpec)

/-- 'laws.FnColdRange', WHERE WHAT IT READS IS OF BULK AT MOST 1048576: true; the input reads as it did. -/
def fnColdRangeUptoRow : OpenClaim := { program := "ytefgngfcdigllaa", sum := "287e9c49993f309b19c795792c7cae3a6d31e2b1c1dc8a3e8ce8be0ceffc458c", func := "loop.example/tiervolume/laws.FnColdRange", spec := "fnColdRange", unfollowed := true, recurses := true, apart := false, narrowed := true }
def FnColdRangeUptoSaid : Prop := fnColdRangeUptoRow.holds Try.pinned (OpenSpec.upto fnColdRangeSpec)

/-- 'laws.FnExactColdPut', WHERE WHAT IT READS IS OF BULK AT MOST 1048576: true; the input reads as it did. -/
def fnExactColdPutUptoRow : OpenClaim := { program := "ytefgngfcdigllaa", sum := "287e9c49993f309b19c795792c7cae3a6d31e2b1c1dc8a3e8ce8be0ceffc458c", func := "loop.example/tiervolume/laws.FnExactColdPut", spec := "fnExactColdPut", unfollowed := true, recurses := true, apart := false, narrowed := true }
def FnExactColdPutUptoSaid : Prop := fnExactColdPutUptoRow.holds Try.pinned (OpenSpec.upto fnExactColdPutSpec)

/-- 'laws.FnExactColdGet', WHERE WHAT IT READS IS OF BULK AT MOST 1048576: true; the input reads as it did. -/
def fnExactColdGetUptoRow : OpenClaim := { program := "ytefgngfcdigllaa", sum := "287e9c49993f309b19c795792c7cae3a6d31e2b1c1dc8a3e8ce8be0ceffc458c", func := "loop.example/tiervolume/laws.FnExactColdGet", spec := "fnExactColdGet", unfollowed := true, recurses := true, apart := false, narrowed := true }
def FnExactColdGetUptoSaid : Prop := fnExactColdGetUptoRow.holds Try.pinned (OpenSpec.upto fnExactColdGetSpec)

end Rows
end Go.Proofs.Ytefgngfcdigllaa
