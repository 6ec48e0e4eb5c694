/-
  No cell of these rows narrows 'for every input' (looked for: loops, veiled, ifaces, maps, wideKeys, modest, calm, conditions, laid).
  DERIVED. THE GIVEN ROWS OF THIS SEAT. 8 by the template 'for every input the law returns true; each argument reads behind the call as it read before'; 0 by the template 'total and deterministic' (their statements: YtahpbgaeenclhaaTotals.lean).
  GIVEN WITH THE SEED: the statements are not yours to turn. If you find one false, say at which input.
  Laid BY PROGRAM, IN A SANDBOX (cutbox-rows.mjs): the forced cells as the released guide's own fill.sh prints them over the translation 6a163bbc1179ed9a… (all of the seat's roots in one cut). By AI agents, Wed Nov 11 2026. No macro, syntax, notation, axiom, sorry.
-/
import Derived.Test.YtahpbgaeenclhaaChecked
import GoSem.Claim
import GoSem.ClaimJoined
import GoSem.ClaimMapViews
import Derived.JoinedTies
import Derived.KernelRfl
namespace Go.Proofs.Ytahpbgaeenclhaa
/- THE CELL 'sum', in the pinned program and in every row, IS THE sha256 OF THE DUMP (.gsa) THAT YtahpbgaeenclhaaProg.lean LOADS. Nothing in Lean hashes anything: it is a label: what it is worth is what the hold of that sum in a sandbox is worth. -/
noncomputable def Try.pinned : Pinned := { name := "ytahpbgaeenclhaa", sum := "6a163bbc1179ed9a180223efaf306d333f5311cefa93640dbb4dee0ce6f39710", checked := Try.checked }
namespace Rows
def none {H : Type} : Left H := { results := [], args := [] }

/-- 'laws.FnExactDeviceValid': WHATEVER THE INPUT: true; the input reads as it did. -/
def fnExactDeviceValidSpec : ChangeSpec := { name := "fnExactDeviceValid", fn := fun _ => fun
  | [d] => { results := [.lit (.bool true)], args := [d] }
  | _ => none }
def fnExactDeviceValidRow : OpenClaim := { program := "ytahpbgaeenclhaa", sum := "6a163bbc1179ed9a180223efaf306d333f5311cefa93640dbb4dee0ce6f39710", func := "loop.example/tiervolume/laws.FnExactDeviceValid", spec := "fnExactDeviceValid", apart := false }
def FnExactDeviceValidSaid : Prop := fnExactDeviceValidRow.holds Try.pinned (OpenSpec.ofChange fnExactDeviceValidSpec)

/-- ITS FALSE NEIGHBOUR: 'it returns false'. Refute it at one input. -/
def fnExactDeviceValidWrong : ChangeSpec := { name := "fnExactDeviceValid", fn := fun _ => fun
  | [d] => { results := [.lit (.bool false)], args := [d] }
  | _ => none }
def FnExactDeviceValidWrongFalsely : Prop := fnExactDeviceValidRow.holds Try.pinned (OpenSpec.ofChange fnExactDeviceValidWrong)

/-- 'laws.FnExactDeviceErase': WHATEVER THE INPUT: true; the input reads as it did. -/
def fnExactDeviceEraseSpec : ChangeSpec := { name := "fnExactDeviceErase", fn := fun _ => fun
  | [d] => { results := [.lit (.bool true)], args := [d] }
  | _ => none }
def fnExactDeviceEraseRow : OpenClaim := { program := "ytahpbgaeenclhaa", sum := "6a163bbc1179ed9a180223efaf306d333f5311cefa93640dbb4dee0ce6f39710", func := "loop.example/tiervolume/laws.FnExactDeviceErase", spec := "fnExactDeviceErase", apart := false }
def FnExactDeviceEraseSaid : Prop := fnExactDeviceEraseRow.holds Try.pinned (OpenSpec.ofChange fnExactDeviceEraseSpec)

/-- ITS FALSE NEIGHBOUR: 'it returns false'. Refute it at one input. -/
def fnExactDeviceEraseWrong : ChangeSpec := { name := "fnExactDeviceErase", fn := fun _ => fun
  | [d] => { results := [.lit (.bool false)], args := [d] }
  | _ => none }
def FnExactDeviceEraseWrongFalsely : Prop := fnExactDeviceEraseRow.holds Try.pinned (OpenSpec.ofChange fnExactDeviceEraseWrong)

/-- 'laws.FnExactDeviceAppend': WHATEVER THE INPUT: true; the input reads as it did. -/
def fnExactDeviceAppendSpec : ChangeSpec := { name := "fnExactDeviceAppend", fn := fun _ => fun
  | [d1, d2, d3] => { results := [.lit (.bool true)], args := [d1, d2, d3] }
  | _ => none }
def fnExactDeviceAppendRow : OpenClaim := { program := "ytahpbgaeenclhaa", sum := "6a163bbc1179ed9a180223efaf306d333f5311cefa93640dbb4dee0ce6f39710", func := "loop.example/tiervolume/laws.FnExactDeviceAppend", spec := "fnExactDeviceAppend", apart := false }
def FnExactDeviceAppendSaid : Prop := fnExactDeviceAppendRow.holds Try.pinned (OpenSpec.ofChange fnExactDeviceAppendSpec)

/-- ITS FALSE NEIGHBOUR: 'it returns false'. Refute it at one input. -/
def fnExactDeviceAppendWrong : ChangeSpec := { name := "fnExactDeviceAppend", fn := fun _ => fun
  | [d1, d2, d3] => { results := [.lit (.bool false)], args := [d1, d2, d3] }
  | _ => none }
def FnExactDeviceAppendWrongFalsely : Prop := fnExactDeviceAppendRow.holds Try.pinned (OpenSpec.ofChange fnExactDeviceAppendWrong)

/-- 'laws.FnExactDeviceSync': WHATEVER THE INPUT: true; the input reads as it did. -/
def fnExactDeviceSyncSpec : ChangeSpec := { name := "fnExactDeviceSync", fn := fun _ => fun
  | [d] => { results := [.lit (.bool true)], args := [d] }
  | _ => none }
def fnExactDeviceSyncRow : OpenClaim := { program := "ytahpbgaeenclhaa", sum := "6a163bbc1179ed9a180223efaf306d333f5311cefa93640dbb4dee0ce6f39710", func := "loop.example/tiervolume/laws.FnExactDeviceSync", spec := "fnExactDeviceSync", apart := false }
def FnExactDeviceSyncSaid : Prop := fnExactDeviceSyncRow.holds Try.pinned (OpenSpec.ofChange fnExactDeviceSyncSpec)

/-- ITS FALSE NEIGHBOUR: 'it returns false'. Refute it at one input. -/
def fnExactDeviceSyncWrong : ChangeSpec := { name := "fnExactDeviceSync", fn := fun _ => fun
  | [d] => { results := [.lit (.bool false)], args := [d] }
  | _ => none }
def FnExactDeviceSyncWrongFalsely : Prop := fnExactDeviceSyncRow.holds Try.pinned (OpenSpec.ofChange fnExactDeviceSyncWrong)

/-- 'laws.FnExactDeviceFinish': WHATEVER THE INPUT: true; the input reads as it did. -/
def fnExactDeviceFinishSpec : ChangeSpec := { name := "fnExactDeviceFinish", fn := fun _ => fun
  | [d1, d2] => { results := [.lit (.bool true)], args := [d1, d2] }
  | _ => none }
def fnExactDeviceFinishRow : OpenClaim := { program := "ytahpbgaeenclhaa", sum := "6a163bbc1179ed9a180223efaf306d333f5311cefa93640dbb4dee0ce6f39710", func := "loop.example/tiervolume/laws.FnExactDeviceFinish", spec := "fnExactDeviceFinish", apart := false }
def FnExactDeviceFinishSaid : Prop := fnExactDeviceFinishRow.holds Try.pinned (OpenSpec.ofChange fnExactDeviceFinishSpec)

/-- ITS FALSE NEIGHBOUR: 'it returns false'. Refute it at one input. -/
def fnExactDeviceFinishWrong : ChangeSpec := { name := "fnExactDeviceFinish", fn := fun _ => fun
  | [d1, d2] => { results := [.lit (.bool false)], args := [d1, d2] }
  | _ => none }
def FnExactDeviceFinishWrongFalsely : Prop := fnExactDeviceFinishRow.holds Try.pinned (OpenSpec.ofChange fnExactDeviceFinishWrong)

/-- 'laws.FnExactDeviceReset': WHATEVER THE INPUT: true; the input reads as it did. -/
def fnExactDeviceResetSpec : ChangeSpec := { name := "fnExactDeviceReset", fn := fun _ => fun
  | [d1, d2] => { results := [.lit (.bool true)], args := [d1, d2] }
  | _ => none }
def fnExactDeviceResetRow : OpenClaim := { program := "ytahpbgaeenclhaa", sum := "6a163bbc1179ed9a180223efaf306d333f5311cefa93640dbb4dee0ce6f39710", func := "loop.example/tiervolume/laws.FnExactDeviceReset", spec := "fnExactDeviceReset", apart := false }
def FnExactDeviceResetSaid : Prop := fnExactDeviceResetRow.holds Try.pinned (OpenSpec.ofChange fnExactDeviceResetSpec)

/-- ITS FALSE NEIGHBOUR: 'it returns false'. Refute it at one input. -/
def fnExactDeviceResetWrong : ChangeSpec := { name := "fnExactDeviceReset", fn := fun _ => fun
  | [d1, d2] => { results := [.lit (.bool false)], args := [d1, d2] }
  | _ => none }
def FnExactDeviceResetWrongFalsely : Prop := fnExactDeviceResetRow.holds Try.pinned (OpenSpec.ofChange fnExactDeviceResetWrong)

/-- 'laws.FnExactDeviceCut': WHATEVER THE INPUT: true; the input reads as it did. -/
def fnExactDeviceCutSpec : ChangeSpec := { name := "fnExactDeviceCut", fn := fun _ => fun
  | [d1, d2, d3] => { results := [.lit (.bool true)], args := [d1, d2, d3] }
  | _ => none }
def fnExactDeviceCutRow : OpenClaim := { program := "ytahpbgaeenclhaa", sum := "6a163bbc1179ed9a180223efaf306d333f5311cefa93640dbb4dee0ce6f39710", func := "loop.example/tiervolume/laws.FnExactDeviceCut", spec := "fnExactDeviceCut", apart := false }
def FnExactDeviceCutSaid : Prop := fnExactDeviceCutRow.holds Try.pinned (OpenSpec.ofChange fnExactDeviceCutSpec)

/-- ITS FALSE NEIGHBOUR: 'it returns false'. Refute it at one input. -/
def fnExactDeviceCutWrong : ChangeSpec := { name := "fnExactDeviceCut", fn := fun _ => fun
  | [d1, d2, d3] => { results := [.lit (.bool false)], args := [d1, d2, d3] }
  | _ => none }
def FnExactDeviceCutWrongFalsely : Prop := fnExactDeviceCutRow.holds Try.pinned (OpenSpec.ofChange fnExactDeviceCutWrong)

/-- 'laws.FnExactDeviceCrash': WHATEVER THE INPUT: true; the input reads as it did. -/
def fnExactDeviceCrashSpec : ChangeSpec := { name := "fnExactDeviceCrash", fn := fun _ => fun
  | [d1, d2] => { results := [.lit (.bool true)], args := [d1, d2] }
  | _ => none }
def fnExactDeviceCrashRow : OpenClaim := { program := "ytahpbgaeenclhaa", sum := "6a163bbc1179ed9a180223efaf306d333f5311cefa93640dbb4dee0ce6f39710", func := "loop.example/tiervolume/laws.FnExactDeviceCrash", spec := "fnExactDeviceCrash", apart := false }
def FnExactDeviceCrashSaid : Prop := fnExactDeviceCrashRow.holds Try.pinned (OpenSpec.ofChange fnExactDeviceCrashSpec)

/-- ITS FALSE NEIGHBOUR: 'it returns false'. Refute it at one input. -/
def fnExactDeviceCrashWrong : ChangeSpec := { name := "fnExactDeviceCrash", fn := fun _ => fun
  | [d1, d2] => { results := [.lit (.bool false)], args := [d1, d2] }
  | _ => none }
def FnExactDeviceCrashWrongFalsely : Prop := fnExactDeviceCrashRow.holds Try.pinned (OpenSpec.ofChange fnExactDeviceCrashWrong)

/- THE SECOND FORM. 'bulk': how many values and letters a reading holds, each counted each time it is reached (what is shared counts as often as it is met; a slice's spare places count too). A statement '..UptoSaid' is the law's where the arguments, and the package variables that the reading takes, are together of bulk at most 1048576: NARROWER than '..Said'. Prove '..Said' where nothing that the law and all that it calls make is longer than what came in: it says more and counts as full. Else prove '..UptoSaid'. A law counts once. -/
mutual
def uptoBulk {H : Type} : DataW H → Nat
  | .lit (.string bytes) => bytes.length + 1
  | .lit _ => 1
  | .nil => 1
  | .ptr d => uptoBulk d + 1
  | .slice elems spare => uptoBulkAll elems + uptoBulkAll spare + 1
  | .agg parts => uptoBulkAll parts + 1
  | .iface _ d => uptoBulk d + 1
  | .map entries => uptoBulkEntries entries + 1
  | .held _ => 1
def uptoBulkAll {H : Type} : List (DataW H) → Nat
  | [] => 0
  | d :: r => uptoBulk d + uptoBulkAll r
def uptoBulkEntries {H : Type} : List (Lit × DataW H) → Nat
  | [] => 0
  | x :: r => uptoBulkEntry x + uptoBulkEntries r
def uptoBulkEntry {H : Type} : Lit × DataW H → Nat
  | (.string bytes, d) => bytes.length + uptoBulk d + 1
  | (_, d) => uptoBulk d + 1
 end
def uptoSmall : (H : Type) → List (DataW H) → Bool := fun _ ds => decide (uptoBulkAll ds ≤ 1048576)
def OpenSpec.upto (s : _root_.Go.ChangeSpec) : _root_.Go.OpenSpec := { _root_.Go.OpenSpec.ofChange s with cond := some uptoSmall }

/-- 'laws.FnExactDeviceValid', WHERE WHAT IT READS IS OF BULK AT MOST 1048576: true; the input reads as it did. -/
def fnExactDeviceValidUptoRow : OpenClaim := { program := "ytahpbgaeenclhaa", sum := "6a163bbc1179ed9a180223efaf306d333f5311cefa93640dbb4dee0ce6f39710", func := "loop.example/tiervolume/laws.FnExactDeviceValid", spec := "fnExactDeviceValid", apart := false, narrowed := true }
def FnExactDeviceValidUptoSaid : Prop := fnExactDeviceValidUptoRow.holds Try.pinned (OpenSpec.upto fnExactDeviceValidSpec)

/-- 'laws.FnExactDeviceErase', WHERE WHAT IT READS IS OF BULK AT MOST 1048576: true; the input reads as it did. -/
def fnExactDeviceEraseUptoRow : OpenClaim := { program := "ytahpbgaeenclhaa", sum := "6a163bbc1179ed9a180223efaf306d333f5311cefa93640dbb4dee0ce6f39710", func := "loop.example/tiervolume/laws.FnExactDeviceErase", spec := "fnExactDeviceErase", apart := false, narrowed := true }
def FnExactDeviceEraseUptoSaid : Prop := fnExactDeviceEraseUptoRow.holds Try.pinned (OpenSpec.upto fnExactDeviceEraseSpec)

/-- 'laws.FnExactDeviceAppend', WHERE WHAT IT READS IS OF BULK AT MOST 1048576: true; the input reads as it did. -/
def fnExactDeviceAppendUptoRow : OpenClaim := { program := "ytahpbgaeenclhaa", sum := "6a163bbc1179ed9a180223efaf306d333f5311cefa93640dbb4dee0ce6f39710", func := "loop.example/tiervolume/laws.FnExactDeviceAppend", spec := "fnExactDeviceAppend", apart := false, narrowed := true }
def FnExactDeviceAppendUptoSaid : Prop := fnExactDeviceAppendUptoRow.holds Try.pinned (OpenSpec.upto fnExactDeviceAppendSpec)

/-- 'laws.FnExactDeviceSync', WHERE WHAT IT READS IS OF BULK AT MOST 1048576: true; the input reads as it did. -/
def fnExactDeviceSyncUptoRow : OpenClaim := { program := "ytahpbgaeenclhaa", sum := "6a163bbc1179ed9a180223efaf306d333f5311cefa93640dbb4dee0ce6f39710", func := "loop.example/tiervolume/laws.FnExactDeviceSync", spec := "fnExactDeviceSync", apart := false, narrowed := true }
def FnExactDeviceSyncUptoSaid : Prop := fnExactDeviceSyncUptoRow.holds Try.pinned (OpenSpec.upto fnExactDeviceSyncSpec)

/-- 'laws.FnExactDeviceFinish', WHERE WHAT IT READS IS OF BULK AT MOST 1048576: true; the input reads as it did. -/
def fnExactDeviceFinishUptoRow : OpenClaim := { program := "ytahpbgaeenclhaa", sum := "6a163bbc1179ed9a180223efaf306d333f5311cefa93640dbb4dee0ce6f39710", func := "loop.example/tiervolume/laws.FnExactDeviceFinish", spec := "fnExactDeviceFinish", apart := false, narrowed := true }
def FnExactDeviceFinishUptoSaid : Prop := fnExactDeviceFinishUptoRow.holds Try.pinned (OpenSpec.upto fnExactDeviceFinishSpec)

/-- 'laws.FnExactDeviceReset', WHERE WHAT IT READS IS OF BULK AT MOST 1048576: true; the input reads as it did. -/
def fnExactDeviceResetUptoRow : OpenClaim := { program := "ytahpbgaeenclhaa", sum := "6a163bbc1179ed9a180223efaf306d333f5311cefa93640dbb4dee0ce6f39710", func := "loop.example/tiervolume/laws.FnExactDeviceReset", spec := "fnExactDeviceReset", apart := false, narrowed := true }
def FnExactDeviceResetUptoSaid : Prop := fnExactDeviceResetUptoRow.holds Try.pinned (OpenSpec.upto fnExactDeviceResetSpec)

/-- 'laws.FnExactDeviceCut', WHERE WHAT IT READS IS OF BULK AT MOST 1048576: true; the input reads as it did. -/
def fnExactDeviceCutUptoRow : OpenClaim := { program := "ytahpbgaeenclhaa", sum := "6a163bbc1179ed9a180223efaf306d333f5311cefa93640dbb4dee0ce6f39710", func := "loop.example/tiervolume/laws.FnExactDeviceCut", spec := "fnExactDeviceCut", apart := false, narrowed := true }
def FnExactDeviceCutUptoSaid : Prop := fnExactDeviceCutUptoRow.holds Try.pinned (OpenSpec.upto fnExactDeviceCutSpec)

/-- 'laws.FnExactDeviceCrash', WHERE WHAT IT READS IS OF BULK AT MOST 1048576: true; the input reads as it did. -/
def fnExactDeviceCrashUptoRow : OpenClaim := { program := "ytahpbgaeenclhaa", sum := "6a163bbc1179ed9a180223efaf306d333f5311cefa93640dbb4dee0ce6f39710", func := "loop.example/tiervolume/laws.FnExactDeviceCrash", spec := "fnExactDeviceCrash", apart := false, narrowed := true }
def FnExactDeviceCrashUptoSaid : Prop := fnExactDeviceCrashUptoRow.holds Try.pinned (OpenSpec.upto fnExactDeviceCrashSpec)

end Rows
end Go.Proofs.Ytahpbgaeenclhaa
