/-
  No cell of these rows narrows 'for every input' (looked for: loops, veiled, ifaces, maps, wideKeys, modest, calm, conditions, laid).
  DERIVED. THE GIVEN ROWS OF THIS SEAT. 7 by the template 'for every input the law returns true; each argument reads behind the call as it read before'; 0 by the template 'total and deterministic' (their statements: YtiopbgenkalfaaaTotals.lean).
  GIVEN WITH THE SEED: the statements are not yours to turn. If you find one false, say at which input.
  Laid BY PROGRAM, IN A SANDBOX (cutbox-rows.mjs): the forced cells as the released guide's own fill.sh prints them over the translation a49769e407aa5976… (all of the seat's roots in one cut). By AI agents, Wed Nov 11 2026. No macro, syntax, notation, axiom, sorry.
-/
import Derived.Test.YtiopbgenkalfaaaChecked
import GoSem.Claim
import GoSem.ClaimJoined
import GoSem.ClaimMapViews
import Derived.JoinedTies
import Derived.KernelRfl
namespace Go.Proofs.Ytiopbgenkalfaaa
/- THE CELL 'sum', in the pinned program and in every row, IS THE sha256 OF THE DUMP (.gsa) THAT YtiopbgenkalfaaaProg.lean LOADS. Nothing in Lean hashes anything: it is a label: what it is worth is what the hold of that sum in a sandbox is worth. -/
noncomputable def Try.pinned : Pinned := { name := "ytiopbgenkalfaaa", sum := "a49769e407aa597629927c40cb970c70fb6664a8b41c9f6da45e9ab4786b9c08", checked := Try.checked }
namespace Rows
def none {H : Type} : Left H := { results := [], args := [] }

/-- 'laws.FnModelNew': WHATEVER THE INPUT: true; the input reads as it did. -/
def fnModelNewSpec : ChangeSpec := { name := "fnModelNew", fn := fun _ => fun
  | [d] => { results := [.lit (.bool true)], args := [d] }
  | _ => none }
def fnModelNewRow : OpenClaim := { program := "ytiopbgenkalfaaa", sum := "a49769e407aa597629927c40cb970c70fb6664a8b41c9f6da45e9ab4786b9c08", func := "loop.example/tiervolume/laws.FnModelNew", spec := "fnModelNew", apart := false }
def FnModelNewSaid : Prop := fnModelNewRow.holds Try.pinned (OpenSpec.ofChange fnModelNewSpec)

/-- ITS FALSE NEIGHBOUR: 'it returns false'. Refute it at one input. -/
def fnModelNewWrong : ChangeSpec := { name := "fnModelNew", fn := fun _ => fun
  | [d] => { results := [.lit (.bool false)], args := [d] }
  | _ => none }
def FnModelNewWrongFalsely : Prop := fnModelNewRow.holds Try.pinned (OpenSpec.ofChange fnModelNewWrong)

/-- 'laws.FnModelDo': WHATEVER THE INPUT: true; the input reads as it did. -/
def fnModelDoSpec : ChangeSpec := { name := "fnModelDo", fn := fun _ => fun
  | [d] => { results := [.lit (.bool true)], args := [d] }
  | _ => none }
def fnModelDoRow : OpenClaim := { program := "ytiopbgenkalfaaa", sum := "a49769e407aa597629927c40cb970c70fb6664a8b41c9f6da45e9ab4786b9c08", func := "loop.example/tiervolume/laws.FnModelDo", spec := "fnModelDo", unfollowed := true, recurses := true, apart := false }
def FnModelDoSaid : Prop := fnModelDoRow.holds Try.pinned (OpenSpec.ofChange fnModelDoSpec)

/-- ITS FALSE NEIGHBOUR: 'it returns false'. Refute it at one input. -/
def fnModelDoWrong : ChangeSpec := { name := "fnModelDo", fn := fun _ => fun
  | [d] => { results := [.lit (.bool false)], args := [d] }
  | _ => none }
def FnModelDoWrongFalsely : Prop := fnModelDoRow.holds Try.pinned (OpenSpec.ofChange fnModelDoWrong)

/-- 'laws.FnModelWrite': WHATEVER THE INPUT: true; the input reads as it did. -/
def fnModelWriteSpec : ChangeSpec := { name := "fnModelWrite", fn := fun _ => fun
  | [d] => { results := [.lit (.bool true)], args := [d] }
  | _ => none }
def fnModelWriteRow : OpenClaim := { program := "ytiopbgenkalfaaa", sum := "a49769e407aa597629927c40cb970c70fb6664a8b41c9f6da45e9ab4786b9c08", func := "loop.example/tiervolume/laws.FnModelWrite", spec := "fnModelWrite", unfollowed := true, recurses := true, apart := false }
def FnModelWriteSaid : Prop := fnModelWriteRow.holds Try.pinned (OpenSpec.ofChange fnModelWriteSpec)

/-- ITS FALSE NEIGHBOUR: 'it returns false'. Refute it at one input. -/
def fnModelWriteWrong : ChangeSpec := { name := "fnModelWrite", fn := fun _ => fun
  | [d] => { results := [.lit (.bool false)], args := [d] }
  | _ => none }
def FnModelWriteWrongFalsely : Prop := fnModelWriteRow.holds Try.pinned (OpenSpec.ofChange fnModelWriteWrong)

/-- 'laws.FnModelCrash': WHATEVER THE INPUT: true; the input reads as it did. -/
def fnModelCrashSpec : ChangeSpec := { name := "fnModelCrash", fn := fun _ => fun
  | [d] => { results := [.lit (.bool true)], args := [d] }
  | _ => none }
def fnModelCrashRow : OpenClaim := { program := "ytiopbgenkalfaaa", sum := "a49769e407aa597629927c40cb970c70fb6664a8b41c9f6da45e9ab4786b9c08", func := "loop.example/tiervolume/laws.FnModelCrash", spec := "fnModelCrash", unfollowed := true, recurses := true, apart := false }
def FnModelCrashSaid : Prop := fnModelCrashRow.holds Try.pinned (OpenSpec.ofChange fnModelCrashSpec)

/-- ITS FALSE NEIGHBOUR: 'it returns false'. Refute it at one input. -/
def fnModelCrashWrong : ChangeSpec := { name := "fnModelCrash", fn := fun _ => fun
  | [d] => { results := [.lit (.bool false)], args := [d] }
  | _ => none }
def FnModelCrashWrongFalsely : Prop := fnModelCrashRow.holds Try.pinned (OpenSpec.ofChange fnModelCrashWrong)

/-- 'laws.FnModelSync': WHATEVER THE INPUT: true; the input reads as it did. -/
def fnModelSyncSpec : ChangeSpec := { name := "fnModelSync", fn := fun _ => fun
  | [d] => { results := [.lit (.bool true)], args := [d] }
  | _ => none }
def fnModelSyncRow : OpenClaim := { program := "ytiopbgenkalfaaa", sum := "a49769e407aa597629927c40cb970c70fb6664a8b41c9f6da45e9ab4786b9c08", func := "loop.example/tiervolume/laws.FnModelSync", spec := "fnModelSync", unfollowed := true, recurses := true, apart := false }
def FnModelSyncSaid : Prop := fnModelSyncRow.holds Try.pinned (OpenSpec.ofChange fnModelSyncSpec)

/-- ITS FALSE NEIGHBOUR: 'it returns false'. Refute it at one input. -/
def fnModelSyncWrong : ChangeSpec := { name := "fnModelSync", fn := fun _ => fun
  | [d] => { results := [.lit (.bool false)], args := [d] }
  | _ => none }
def FnModelSyncWrongFalsely : Prop := fnModelSyncRow.holds Try.pinned (OpenSpec.ofChange fnModelSyncWrong)

/-- 'laws.FnExactModelNew': WHATEVER THE INPUT: true; the input reads as it did. -/
def fnExactModelNewSpec : ChangeSpec := { name := "fnExactModelNew", fn := fun _ => fun
  | [d] => { results := [.lit (.bool true)], args := [d] }
  | _ => none }
def fnExactModelNewRow : OpenClaim := { program := "ytiopbgenkalfaaa", sum := "a49769e407aa597629927c40cb970c70fb6664a8b41c9f6da45e9ab4786b9c08", func := "loop.example/tiervolume/laws.FnExactModelNew", spec := "fnExactModelNew", apart := false }
def FnExactModelNewSaid : Prop := fnExactModelNewRow.holds Try.pinned (OpenSpec.ofChange fnExactModelNewSpec)

/-- ITS FALSE NEIGHBOUR: 'it returns false'. Refute it at one input. -/
def fnExactModelNewWrong : ChangeSpec := { name := "fnExactModelNew", fn := fun _ => fun
  | [d] => { results := [.lit (.bool false)], args := [d] }
  | _ => none }
def FnExactModelNewWrongFalsely : Prop := fnExactModelNewRow.holds Try.pinned (OpenSpec.ofChange fnExactModelNewWrong)

/-- 'laws.FnExactModelDo': WHATEVER THE INPUT: true; the input reads as it did. -/
def fnExactModelDoSpec : ChangeSpec := { name := "fnExactModelDo", fn := fun _ => fun
  | [d1, d2, d3, d4] => { results := [.lit (.bool true)], args := [d1, d2, d3, d4] }
  | _ => none }
def fnExactModelDoRow : OpenClaim := { program := "ytiopbgenkalfaaa", sum := "a49769e407aa597629927c40cb970c70fb6664a8b41c9f6da45e9ab4786b9c08", func := "loop.example/tiervolume/laws.FnExactModelDo", spec := "fnExactModelDo", unfollowed := true, recurses := true, apart := false }
def FnExactModelDoSaid : Prop := fnExactModelDoRow.holds Try.pinned (OpenSpec.ofChange fnExactModelDoSpec)

/-- ITS FALSE NEIGHBOUR: 'it returns false'. Refute it at one input. -/
def fnExactModelDoWrong : ChangeSpec := { name := "fnExactModelDo", fn := fun _ => fun
  | [d1, d2, d3, d4] => { results := [.lit (.bool false)], args := [d1, d2, d3, d4] }
  | _ => none }
def FnExactModelDoWrongFalsely : Prop := fnExactModelDoRow.holds Try.pinned (OpenSpec.ofChange fnExactModelDoWrong)

/- THE SECOND FORM. 'bulk': how many values and letters a reading holds, each counted each time it is reached (what is shared counts as often as it is met; a slice's spare places count too). A statement '..UptoSaid' is the law's where the arguments, and the package variables that the reading takes, are together of bulk at most 1048576: NARROWER than '..Said'. Prove '..Said' where nothing that the law and all that it calls make is longer than what came in: it says more and counts as full. Else prove '..UptoSaid'. A law counts once. -/
mutual
def uptoBulk {H : Type} : DataW H → Nat
  | .lit (.string bytes) => bytes.length + 1
  | .lit _ => 1
  | .nil => 1
  | .ptr d => uptoBulk d + 1
  | .slice elems spare => uptoBulkAll elems + uptoBulkAll spare + 1
  | .agg parts => uptoBulkAll parts + 1
  | .iface _ d => uptoBulk d + 1
  | .map entries => uptoBulkEntries entries + 1
  | .held _ => 1
def uptoBulkAll {H : Type} : List (DataW H) → Nat
  | [] => 0
  | d :: r => uptoBulk d + uptoBulkAll r
def uptoBulkEntries {H : Type} : List (Lit × DataW H) → Nat
  | [] => 0
  | x :: r => uptoBulkEntry x + uptoBulkEntries r
def uptoBulkEntry {H : Type} : Lit × DataW H → Nat
  | (.string bytes, d) => bytes.length + uptoBulk d + 1
  | (_, d) => uptoBulk d + 1
 end
def uptoSmall : (H : Type) → List (DataW H) → Bool := fun _ ds => decide (uptoBulkAll ds ≤ 1048576)
def OpenSpec.upto (s : _root_.Go.ChangeSpec) : _root_.Go.OpenSpec := { _root_.Go.OpenSpec.ofChange s with cond := some uptoSmall }

/-- 'laws.FnModelNew', WHERE WHAT IT READS IS OF BULK AT MOST 1048576: true; the input reads as it did. -/
def fnModelNewUptoRow : OpenClaim := { program := "ytiopbgenkalfaaa", sum := "a49769e407aa597629927c40cb970c70fb6664a8b41c9f6da45e9ab4786b9c08", func := "loop.example/tiervolume/laws.FnModelNew", spec := "fnModelNew", apart := false, narrowed := true }
def FnModelNewUptoSaid : Prop := fnModelNewUptoRow.holds Try.pinned (OpenSpec.upto fnModelNewSpec)

/-- 'laws.FnModelDo', WHERE WHAT IT READS IS OF BULK AT MOST 1048576: true; the input reads as it did. -/
def fnModelDoUptoRow : OpenClaim := { program := "ytiopbgenkalfaaa", sum := "a49769e407aa597629927c40cb970c70fb6664a8b41c9f6da45e9ab4786b9c08", func := "loop.example/tiervolume/laws.FnModelDo", spec := "fnModelDo", unfollowed := true, recurses := true, apart := false, narrowed := true }
def FnModelDoUptoSaid : Prop := fnModelDoUptoRow.holds Try.pinned (OpenSpec.upto fnModelDoSpec)

/-- 'laws.FnModelWrite', WHERE WHAT IT READS IS OF BULK AT MOST 1048576: true; the input reads as it did. -/
def fnModelWriteUptoRow : OpenClaim := { program := "ytiopbgenkalfaaa", sum := "a49769e407aa597629927c40cb970c70fb6664a8b41c9f6da45e9ab4786b9c08", func := "loop.example/tiervolume/laws.FnModelWrite", spec := "fnModelWrite", unfollowed := true, recurses := true, apart := false, narrowed := true }
def FnModelWriteUptoSaid : Prop := fnModelWriteUptoRow.holds Try.pinned (OpenSpec.upto fnModelWriteSpec)

/-- 'laws.FnModelCrash', WHERE WHAT IT READS IS OF BULK AT MOST 1048576: true; the input reads as it did. -/
def fnModelCrashUptoRow : OpenClaim := { program := "ytiopbgenkalfaaa", sum := "a49769e407aa597629927c40cb970c70fb6664a8b41c9f6da45e9ab4786b9c08", func := "loop.example/tiervolume/laws.FnModelCrash", spec := "fnModelCrash", unfollowed := true, recurses := true, apart := false, narrowed := true }
def FnModelCrashUptoSaid : Prop := fnModelCrashUptoRow.holds Try.pinned (OpenSpec.upto fnModelCrashSpec)

/-- 'laws.FnModelSync', WHERE WHAT IT READS IS OF BULK AT MOST 1048576: true; the input reads as it did. -/
def fnModelSyncUptoRow : OpenClaim := { program := "ytiopbgenkalfaaa", sum := "a49769e407aa597629927c40cb970c70fb6664a8b41c9f6da45e9ab4786b9c08", func := "loop.example/tiervolume/laws.FnModelSync", spec := "fnModelSync", unfollowed := true, recurses := true, apart := false, narrowed := true }
def FnModelSyncUptoSaid : Prop := fnModelSyncUptoRow.holds Try.pinned (OpenSpec.upto fnModelSyncSpec)

/-- 'laws.FnExactModelNew', WHERE WHAT IT READS IS OF BULK AT MOST 1048576: true; the input reads as it did. -/
def fnExactModelNewUptoRow : OpenClaim := { program := "ytiopbgenkalfaaa", sum := "a49769e407aa597629927c40cb970c70fb6664a8b41c9f6da45e9ab4786b9c08", func := "loop.example/tiervolume/laws.FnExactModelNew", spec := "fnExactModelNew", apart := false, narrowed := true }
def FnExactModelNewUptoSaid : Prop := fnExactModelNewUptoRow.holds Try.pinned (OpenSpec.upto fnExactModelNewSpec)

/-- 'laws.FnExactModelDo', WHERE WHAT IT READS IS OF BULK AT MOST 1048576: true; the input reads as it did. -/
def fnExactModelDoUptoRow : OpenClaim := { program := "ytiopbgenkalfaaa", sum := "a49769e407aa597629927c40cb970c70fb6664a8b41c9f6da45e9ab4786b9c08", func := "loop.example/tiervolume/laws.FnExactModelDo", spec := "fnExactModelDo", unfollowed := true, recurses := true, apart := false, narrowed := true }
def FnExactModelDoUptoSaid : Prop := fnExactModelDoUptoRow.holds Try.pinned (OpenSpec.upto fnExactModelDoSpec)

end Rows
end Go.Proofs.Ytiopbgenkalfaaa
