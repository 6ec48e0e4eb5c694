/-
  No cell of these rows narrows 'for every input' (looked for: loops, veiled, ifaces, maps, wideKeys, modest, calm, conditions, laid).
  DERIVED. THE GIVEN ROWS OF THIS SEAT. 8 by the template 'for every input the law returns true; each argument reads behind the call as it read before'; 0 by the template 'total and deterministic' (their statements: YtgodgkihcbpmfaaTotals.lean).
  GIVEN WITH THE SEED: the statements are not yours to turn. If you find one false, say at which input.
  Laid BY PROGRAM, IN A SANDBOX (cutbox-rows.mjs): the forced cells as the released guide's own fill.sh prints them over the translation cc5b6c9baf8c0d18… (all of the seat's roots in one cut). By AI agents, Wed Nov 11 2026. No macro, syntax, notation, axiom, sorry.
-/
import Derived.Test.YtgodgkihcbpmfaaChecked
import GoSem.Claim
import GoSem.ClaimJoined
import GoSem.ClaimMapViews
import Derived.JoinedTies
import Derived.KernelRfl
namespace Go.Proofs.Ytgodgkihcbpmfaa
/- THE CELL 'sum', in the pinned program and in every row, IS THE sha256 OF THE DUMP (.gsa) THAT YtgodgkihcbpmfaaProg.lean LOADS. Nothing in Lean hashes anything: it is a label: what it is worth is what the hold of that sum in a sandbox is worth. -/
noncomputable def Try.pinned : Pinned := { name := "ytgodgkihcbpmfaa", sum := "cc5b6c9baf8c0d188d1d5a56d15c948dcbbefa1e57782073b962198e34deda79", checked := Try.checked }
namespace Rows
def none {H : Type} : Left H := { results := [], args := [] }

/-- 'laws.FnErase': WHATEVER THE INPUT: true; the input reads as it did. -/
def fnEraseSpec : ChangeSpec := { name := "fnErase", fn := fun _ => fun
  | [d] => { results := [.lit (.bool true)], args := [d] }
  | _ => none }
def fnEraseRow : OpenClaim := { program := "ytgodgkihcbpmfaa", sum := "cc5b6c9baf8c0d188d1d5a56d15c948dcbbefa1e57782073b962198e34deda79", func := "loop.example/tiervolume/laws.FnErase", spec := "fnErase", apart := false }
def FnEraseSaid : Prop := fnEraseRow.holds Try.pinned (OpenSpec.ofChange fnEraseSpec)

/-- ITS FALSE NEIGHBOUR: 'it returns false'. Refute it at one input. -/
def fnEraseWrong : ChangeSpec := { name := "fnErase", fn := fun _ => fun
  | [d] => { results := [.lit (.bool false)], args := [d] }
  | _ => none }
def FnEraseWrongFalsely : Prop := fnEraseRow.holds Try.pinned (OpenSpec.ofChange fnEraseWrong)

/-- 'laws.FnAppend': WHATEVER THE INPUT: true; the input reads as it did. -/
def fnAppendSpec : ChangeSpec := { name := "fnAppend", fn := fun _ => fun
  | [d] => { results := [.lit (.bool true)], args := [d] }
  | _ => none }
def fnAppendRow : OpenClaim := { program := "ytgodgkihcbpmfaa", sum := "cc5b6c9baf8c0d188d1d5a56d15c948dcbbefa1e57782073b962198e34deda79", func := "loop.example/tiervolume/laws.FnAppend", spec := "fnAppend", apart := false }
def FnAppendSaid : Prop := fnAppendRow.holds Try.pinned (OpenSpec.ofChange fnAppendSpec)

/-- ITS FALSE NEIGHBOUR: 'it returns false'. Refute it at one input. -/
def fnAppendWrong : ChangeSpec := { name := "fnAppend", fn := fun _ => fun
  | [d] => { results := [.lit (.bool false)], args := [d] }
  | _ => none }
def FnAppendWrongFalsely : Prop := fnAppendRow.holds Try.pinned (OpenSpec.ofChange fnAppendWrong)

/-- 'laws.FnAppendRoom': WHATEVER THE INPUT: true; the input reads as it did. -/
def fnAppendRoomSpec : ChangeSpec := { name := "fnAppendRoom", fn := fun _ => fun
  | [d] => { results := [.lit (.bool true)], args := [d] }
  | _ => none }
def fnAppendRoomRow : OpenClaim := { program := "ytgodgkihcbpmfaa", sum := "cc5b6c9baf8c0d188d1d5a56d15c948dcbbefa1e57782073b962198e34deda79", func := "loop.example/tiervolume/laws.FnAppendRoom", spec := "fnAppendRoom", apart := false }
def FnAppendRoomSaid : Prop := fnAppendRoomRow.holds Try.pinned (OpenSpec.ofChange fnAppendRoomSpec)

/-- ITS FALSE NEIGHBOUR: 'it returns false'. Refute it at one input. -/
def fnAppendRoomWrong : ChangeSpec := { name := "fnAppendRoom", fn := fun _ => fun
  | [d] => { results := [.lit (.bool false)], args := [d] }
  | _ => none }
def FnAppendRoomWrongFalsely : Prop := fnAppendRoomRow.holds Try.pinned (OpenSpec.ofChange fnAppendRoomWrong)

/-- 'laws.FnAppendPart': WHATEVER THE INPUT: true; the input reads as it did. -/
def fnAppendPartSpec : ChangeSpec := { name := "fnAppendPart", fn := fun _ => fun
  | [d1, d2] => { results := [.lit (.bool true)], args := [d1, d2] }
  | _ => none }
def fnAppendPartRow : OpenClaim := { program := "ytgodgkihcbpmfaa", sum := "cc5b6c9baf8c0d188d1d5a56d15c948dcbbefa1e57782073b962198e34deda79", func := "loop.example/tiervolume/laws.FnAppendPart", spec := "fnAppendPart", apart := false }
def FnAppendPartSaid : Prop := fnAppendPartRow.holds Try.pinned (OpenSpec.ofChange fnAppendPartSpec)

/-- ITS FALSE NEIGHBOUR: 'it returns false'. Refute it at one input. -/
def fnAppendPartWrong : ChangeSpec := { name := "fnAppendPart", fn := fun _ => fun
  | [d1, d2] => { results := [.lit (.bool false)], args := [d1, d2] }
  | _ => none }
def FnAppendPartWrongFalsely : Prop := fnAppendPartRow.holds Try.pinned (OpenSpec.ofChange fnAppendPartWrong)

/-- 'laws.FnSync': WHATEVER THE INPUT: true; the input reads as it did. -/
def fnSyncSpec : ChangeSpec := { name := "fnSync", fn := fun _ => fun
  | [d] => { results := [.lit (.bool true)], args := [d] }
  | _ => none }
def fnSyncRow : OpenClaim := { program := "ytgodgkihcbpmfaa", sum := "cc5b6c9baf8c0d188d1d5a56d15c948dcbbefa1e57782073b962198e34deda79", func := "loop.example/tiervolume/laws.FnSync", spec := "fnSync", apart := false }
def FnSyncSaid : Prop := fnSyncRow.holds Try.pinned (OpenSpec.ofChange fnSyncSpec)

/-- ITS FALSE NEIGHBOUR: 'it returns false'. Refute it at one input. -/
def fnSyncWrong : ChangeSpec := { name := "fnSync", fn := fun _ => fun
  | [d] => { results := [.lit (.bool false)], args := [d] }
  | _ => none }
def FnSyncWrongFalsely : Prop := fnSyncRow.holds Try.pinned (OpenSpec.ofChange fnSyncWrong)

/-- 'laws.FnFinish': WHATEVER THE INPUT: true; the input reads as it did. -/
def fnFinishSpec : ChangeSpec := { name := "fnFinish", fn := fun _ => fun
  | [d] => { results := [.lit (.bool true)], args := [d] }
  | _ => none }
def fnFinishRow : OpenClaim := { program := "ytgodgkihcbpmfaa", sum := "cc5b6c9baf8c0d188d1d5a56d15c948dcbbefa1e57782073b962198e34deda79", func := "loop.example/tiervolume/laws.FnFinish", spec := "fnFinish", apart := false }
def FnFinishSaid : Prop := fnFinishRow.holds Try.pinned (OpenSpec.ofChange fnFinishSpec)

/-- ITS FALSE NEIGHBOUR: 'it returns false'. Refute it at one input. -/
def fnFinishWrong : ChangeSpec := { name := "fnFinish", fn := fun _ => fun
  | [d] => { results := [.lit (.bool false)], args := [d] }
  | _ => none }
def FnFinishWrongFalsely : Prop := fnFinishRow.holds Try.pinned (OpenSpec.ofChange fnFinishWrong)

/-- 'laws.FnReset': WHATEVER THE INPUT: true; the input reads as it did. -/
def fnResetSpec : ChangeSpec := { name := "fnReset", fn := fun _ => fun
  | [d] => { results := [.lit (.bool true)], args := [d] }
  | _ => none }
def fnResetRow : OpenClaim := { program := "ytgodgkihcbpmfaa", sum := "cc5b6c9baf8c0d188d1d5a56d15c948dcbbefa1e57782073b962198e34deda79", func := "loop.example/tiervolume/laws.FnReset", spec := "fnReset", apart := false }
def FnResetSaid : Prop := fnResetRow.holds Try.pinned (OpenSpec.ofChange fnResetSpec)

/-- ITS FALSE NEIGHBOUR: 'it returns false'. Refute it at one input. -/
def fnResetWrong : ChangeSpec := { name := "fnReset", fn := fun _ => fun
  | [d] => { results := [.lit (.bool false)], args := [d] }
  | _ => none }
def FnResetWrongFalsely : Prop := fnResetRow.holds Try.pinned (OpenSpec.ofChange fnResetWrong)

/-- 'laws.FnCut': WHATEVER THE INPUT: true; the input reads as it did. -/
def fnCutSpec : ChangeSpec := { name := "fnCut", fn := fun _ => fun
  | [d] => { results := [.lit (.bool true)], args := [d] }
  | _ => none }
def fnCutRow : OpenClaim := { program := "ytgodgkihcbpmfaa", sum := "cc5b6c9baf8c0d188d1d5a56d15c948dcbbefa1e57782073b962198e34deda79", func := "loop.example/tiervolume/laws.FnCut", spec := "fnCut", apart := false }
def FnCutSaid : Prop := fnCutRow.holds Try.pinned (OpenSpec.ofChange fnCutSpec)

/-- ITS FALSE NEIGHBOUR: 'it returns false'. Refute it at one input. -/
def fnCutWrong : ChangeSpec := { name := "fnCut", fn := fun _ => fun
  | [d] => { results := [.lit (.bool false)], args := [d] }
  | _ => none }
def FnCutWrongFalsely : Prop := fnCutRow.holds Try.pinned (OpenSpec.ofChange fnCutWrong)

/- THE SECOND FORM. 'bulk': how many values and letters a reading holds, each counted each time it is reached (what is shared counts as often as it is met; a slice's spare places count too). A statement '..UptoSaid' is the law's where the arguments, and the package variables that the reading takes, are together of bulk at most 1048576: NARROWER than '..Said'. Prove '..Said' where nothing that the law and all that it calls make is longer than what came in: it says more and counts as full. Else prove '..UptoSaid'. A law counts once. -/
mutual
def uptoBulk {H : Type} : DataW H → Nat
  | .lit (.string bytes) => bytes.length + 1
  | .lit _ => 1
  | .nil => 1
  | .ptr d => uptoBulk d + 1
  | .slice elems spare => uptoBulkAll elems + uptoBulkAll spare + 1
  | .agg parts => uptoBulkAll parts + 1
  | .iface _ d => uptoBulk d + 1
  | .map entries => uptoBulkEntries entries + 1
  | .held _ => 1
def uptoBulkAll {H : Type} : List (DataW H) → Nat
  | [] => 0
  | d :: r => uptoBulk d + uptoBulkAll r
def uptoBulkEntries {H : Type} : List (Lit × DataW H) → Nat
  | [] => 0
  | x :: r => uptoBulkEntry x + uptoBulkEntries r
def uptoBulkEntry {H : Type} : Lit × DataW H → Nat
  | (.string bytes, d) => bytes.length + uptoBulk d + 1
  | (_, d) => uptoBulk d + 1
 end
def uptoSmall : (H : Type) → List (DataW H) → Bool := fun _ ds => decide (uptoBulkAll ds ≤ 1048576)
def OpenSpec.upto (s : _root_.Go.ChangeSpec) : _root_.Go.OpenSpec := { _root_.Go.OpenSpec.ofChange s with cond := some uptoSmall }

/-- 'laws.FnErase', WHERE WHAT IT READS IS OF BULK AT MOST 1048576: true; the input reads as it did. -/
def fnEraseUptoRow : OpenClaim := { program := "ytgodgkihcbpmfaa", sum := "cc5b6c9baf8c0d188d1d5a56d15c948dcbbefa1e57782073b962198e34deda79", func := "loop.example/tiervolume/laws.FnErase", spec := "fnErase", apart := false, narrowed := true }
def FnEraseUptoSaid : Prop := fnEraseUptoRow.holds Try.pinned (OpenSpec.upto fnEraseSpec)

/-- 'laws.FnAppend', WHERE WHAT IT READS IS OF BULK AT MOST 1048576: true; the input reads as it did. -/
def fnAppendUptoRow : OpenClaim := { program := "ytgodgkihcbpmfaa", sum := "cc5b6c9baf8c0d188d1d5a56d15c948dcbbefa1e57782073b962198e34deda79", func := "loop.example/tiervolume/laws.FnAppend", spec := "fnAppend", apart := false, narrowed := true }
def FnAppendUptoSaid : Prop := fnAppendUptoRow.holds Try.pinned (OpenSpec.upto fnAppendSpec)

/-- 'laws.FnAppendRoom', WHERE WHAT IT READS IS OF BULK AT MOST 1048576: true; the input reads as it did. -/
def fnAppendRoomUptoRow : OpenClaim := { program := "ytgodgkihcbpmfaa", sum := "cc5b6c9baf8c0d188d1d5a56d15c948dcbbefa1e57782073b962198e34deda79", func := "loop.example/tiervolume/laws.FnAppendRoom", spec := "fnAppendRoom", apart := false, narrowed := true }
def FnAppendRoomUptoSaid : Prop := fnAppendRoomUptoRow.holds Try.pinned (OpenSpec.upto fnAppendRoomSpec)

/-- 'laws.FnAppendPart', WHERE WHAT IT READS IS OF BULK AT MOST 1048576: true; the input reads as it did. -/
def fnAppendPartUptoRow : OpenClaim := { program := "ytgodgkihcbpmfaa", sum := "cc5b6c9baf8c0d188d1d5a56d15c948dcbbefa1e57782073b962198e34deda79", func := "loop.example/tiervolume/laws.FnAppendPart", spec := "fnAppendPart", apart := false, narrowed := true }
def FnAppendPartUptoSaid : Prop := fnAppendPartUptoRow.holds Try.pinned (OpenSpec.upto fnAppendPartSpec)

/-- 'laws.FnSync', WHERE WHAT IT READS IS OF BULK AT MOST 1048576: true; the input reads as it did. -/
def fnSyncUptoRow : OpenClaim := { program := "ytgodgkihcbpmfaa", sum := "cc5b6c9baf8c0d188d1d5a56d15c948dcbbefa1e57782073b962198e34deda79", func := "loop.example/tiervolume/laws.FnSync", spec := "fnSync", apart := false, narrowed := true }
def FnSyncUptoSaid : Prop := fnSyncUptoRow.holds Try.pinned (OpenSpec.upto fnSyncSpec)

/-- 'laws.FnFinish', WHERE WHAT IT READS IS OF BULK AT MOST 1048576: true; the input reads as it did. -/
def fnFinishUptoRow : OpenClaim := { program := "ytgodgkihcbpmfaa", sum := "cc5b6c9baf8c0d188d1d5a56d15c948dcbbefa1e57782073b962198e34deda79", func := "loop.example/tiervolume/laws.FnFinish", spec := "fnFinish", apart := false, narrowed := true }
def FnFinishUptoSaid : Prop := fnFinishUptoRow.holds Try.pinned (OpenSpec.upto fnFinishSpec)

/-- 'laws.FnReset', WHERE WHAT IT READS IS OF BULK AT MOST 1048576: true; the input reads as it did. -/
def fnResetUptoRow : OpenClaim := { program := "ytgodgkihcbpmfaa", sum := "cc5b6c9baf8c0d188d1d5a56d15c948dcbbefa1e57782073b962198e34deda79", func := "loop.example/tiervolume/laws.FnReset", spec := "fnReset", apart := false, narrowed := true }
def FnResetUptoSaid : Prop := fnResetUptoRow.holds Try.pinned (OpenSpec.upto fnResetSpec)

/-- 'laws.FnCut', WHERE WHAT IT READS IS OF BULK AT MOST 1048576: true; the input reads as it did. -/
def fnCutUptoRow : OpenClaim := { program := "ytgodgkihcbpmfaa", sum := "cc5b6c9baf8c0d188d1d5a56d15c948dcbbefa1e57782073b962198e34deda79", func := "loop.example/tiervolume/laws.FnCut", spec := "fnCut", apart := false, narrowed := true }
def FnCutUptoSaid : Prop := fnCutUptoRow.holds Try.pinned (OpenSpec.upto fnCutSpec)

end Rows
end Go.Proofs.Ytgodgkihcbpmfaa
