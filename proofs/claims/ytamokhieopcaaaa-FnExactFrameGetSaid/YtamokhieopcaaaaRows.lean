/-
  No cell of these rows narrows 'for every input' (looked for: loops, veiled, ifaces, maps, wideKeys, modest, calm, conditions, laid).
  DERIVED. THE GIVEN ROWS OF THIS SEAT. 5 by the template 'for every input the law returns true; each argument reads behind the call as it read before'; 0 by the template 'total and deterministic' (their statements: YtamokhieopcaaaaTotals.lean).
  GIVEN WITH THE SEED: the statements are not yours to turn. If you find one false, say at which input.
  Laid BY PROGRAM, IN A SANDBOX (cutbox-rows.mjs): the forced cells as the released guide's own fill.sh prints them over the translation d070f61340855b70… (all of the seat's roots in one cut). By AI agents, Wed Nov 11 2026. No macro, syntax, notation, axiom, sorry.
-/
import Derived.Test.YtamokhieopcaaaaChecked
import GoSem.Claim
import GoSem.ClaimJoined
import GoSem.ClaimMapViews
import Derived.JoinedTies
import Derived.KernelRfl
namespace Go.Proofs.Ytamokhieopcaaaa
/- THE CELL 'sum', in the pinned program and in every row, IS THE sha256 OF THE DUMP (.gsa) THAT YtamokhieopcaaaaProg.lean LOADS. Nothing in Lean hashes anything: it is a label: what it is worth is what the hold of that sum in a sandbox is worth. -/
noncomputable def Try.pinned : Pinned := { name := "ytamokhieopcaaaa", sum := "d070f61340855b7038a0e0f2705de274505ffdb29b3289f529dbfa79e659246a", checked := Try.checked }
namespace Rows
def none {H : Type} : Left H := { results := [], args := [] }

/-- 'laws.FnFrameGet': WHATEVER THE INPUT: true; the input reads as it did. -/
def fnFrameGetSpec : ChangeSpec := { name := "fnFrameGet", fn := fun _ => fun
  | [d] => { results := [.lit (.bool true)], args := [d] }
  | _ => none }
def fnFrameGetRow : OpenClaim := { program := "ytamokhieopcaaaa", sum := "d070f61340855b7038a0e0f2705de274505ffdb29b3289f529dbfa79e659246a", func := "loop.example/tiervolume/laws.FnFrameGet", spec := "fnFrameGet", apart := false }
def FnFrameGetSaid : Prop := fnFrameGetRow.holds Try.pinned (OpenSpec.ofChange fnFrameGetSpec)

/-- ITS FALSE NEIGHBOUR: 'it returns false'. Refute it at one input. -/
def fnFrameGetWrong : ChangeSpec := { name := "fnFrameGet", fn := fun _ => fun
  | [d] => { results := [.lit (.bool false)], args := [d] }
  | _ => none }
def FnFrameGetWrongFalsely : Prop := fnFrameGetRow.holds Try.pinned (OpenSpec.ofChange fnFrameGetWrong)

/-- 'laws.FnFrameCut': WHATEVER THE INPUT: true; the input reads as it did. -/
def fnFrameCutSpec : ChangeSpec := { name := "fnFrameCut", fn := fun _ => fun
  | [d] => { results := [.lit (.bool true)], args := [d] }
  | _ => none }
def fnFrameCutRow : OpenClaim := { program := "ytamokhieopcaaaa", sum := "d070f61340855b7038a0e0f2705de274505ffdb29b3289f529dbfa79e659246a", func := "loop.example/tiervolume/laws.FnFrameCut", spec := "fnFrameCut", apart := false }
def FnFrameCutSaid : Prop := fnFrameCutRow.holds Try.pinned (OpenSpec.ofChange fnFrameCutSpec)

/-- ITS FALSE NEIGHBOUR: 'it returns false'. Refute it at one input. -/
def fnFrameCutWrong : ChangeSpec := { name := "fnFrameCut", fn := fun _ => fun
  | [d] => { results := [.lit (.bool false)], args := [d] }
  | _ => none }
def FnFrameCutWrongFalsely : Prop := fnFrameCutRow.holds Try.pinned (OpenSpec.ofChange fnFrameCutWrong)

/-- 'laws.FnFrameMove': WHATEVER THE INPUT: true; the input reads as it did. -/
def fnFrameMoveSpec : ChangeSpec := { name := "fnFrameMove", fn := fun _ => fun
  | [d] => { results := [.lit (.bool true)], args := [d] }
  | _ => none }
def fnFrameMoveRow : OpenClaim := { program := "ytamokhieopcaaaa", sum := "d070f61340855b7038a0e0f2705de274505ffdb29b3289f529dbfa79e659246a", func := "loop.example/tiervolume/laws.FnFrameMove", spec := "fnFrameMove", apart := false }
def FnFrameMoveSaid : Prop := fnFrameMoveRow.holds Try.pinned (OpenSpec.ofChange fnFrameMoveSpec)

/-- ITS FALSE NEIGHBOUR: 'it returns false'. Refute it at one input. -/
def fnFrameMoveWrong : ChangeSpec := { name := "fnFrameMove", fn := fun _ => fun
  | [d] => { results := [.lit (.bool false)], args := [d] }
  | _ => none }
def FnFrameMoveWrongFalsely : Prop := fnFrameMoveRow.holds Try.pinned (OpenSpec.ofChange fnFrameMoveWrong)

/-- 'laws.FnFrameWord': WHATEVER THE INPUT: true; the input reads as it did. -/
def fnFrameWordSpec : ChangeSpec := { name := "fnFrameWord", fn := fun _ => fun
  | [d1, d2] => { results := [.lit (.bool true)], args := [d1, d2] }
  | _ => none }
def fnFrameWordRow : OpenClaim := { program := "ytamokhieopcaaaa", sum := "d070f61340855b7038a0e0f2705de274505ffdb29b3289f529dbfa79e659246a", func := "loop.example/tiervolume/laws.FnFrameWord", spec := "fnFrameWord", apart := false }
def FnFrameWordSaid : Prop := fnFrameWordRow.holds Try.pinned (OpenSpec.ofChange fnFrameWordSpec)

/-- ITS FALSE NEIGHBOUR: 'it returns false'. Refute it at one input. -/
def fnFrameWordWrong : ChangeSpec := { name := "fnFrameWord", fn := fun _ => fun
  | [d1, d2] => { results := [.lit (.bool false)], args := [d1, d2] }
  | _ => none }
def FnFrameWordWrongFalsely : Prop := fnFrameWordRow.holds Try.pinned (OpenSpec.ofChange fnFrameWordWrong)

/-- 'laws.FnExactFrameGet': WHATEVER THE INPUT: true; the input reads as it did. -/
def fnExactFrameGetSpec : ChangeSpec := { name := "fnExactFrameGet", fn := fun _ => fun
  | [d1, d2] => { results := [.lit (.bool true)], args := [d1, d2] }
  | _ => none }
def fnExactFrameGetRow : OpenClaim := { program := "ytamokhieopcaaaa", sum := "d070f61340855b7038a0e0f2705de274505ffdb29b3289f529dbfa79e659246a", func := "loop.example/tiervolume/laws.FnExactFrameGet", spec := "fnExactFrameGet", apart := false }
def FnExactFrameGetSaid : Prop := fnExactFrameGetRow.holds Try.pinned (OpenSpec.ofChange fnExactFrameGetSpec)

/-- ITS FALSE NEIGHBOUR: 'it returns false'. Refute it at one input. -/
def fnExactFrameGetWrong : ChangeSpec := { name := "fnExactFrameGet", fn := fun _ => fun
  | [d1, d2] => { results := [.lit (.bool false)], args := [d1, d2] }
  | _ => none }
def FnExactFrameGetWrongFalsely : Prop := fnExactFrameGetRow.holds Try.pinned (OpenSpec.ofChange fnExactFrameGetWrong)

/- THE SECOND FORM. 'bulk': how many values and letters a reading holds, each counted each time it is reached (what is shared counts as often as it is met; a slice's spare places count too). A statement '..UptoSaid' is the law's where the arguments, and the package variables that the reading takes, are together of bulk at most 1048576: NARROWER than '..Said'. Prove '..Said' where nothing that the law and all that it calls make is longer than what came in: it says more and counts as full. Else prove '..UptoSaid'. A law counts once. -/
mutual
def uptoBulk {H : Type} : DataW H → Nat
  | .lit (.string bytes) => bytes.length + 1
  | .lit _ => 1
  | .nil => 1
  | .ptr d => uptoBulk d + 1
  | .slice elems spare => uptoBulkAll elems + uptoBulkAll spare + 1
  | .agg parts => uptoBulkAll parts + 1
  | .iface _ d => uptoBulk d + 1
  | .map entries => uptoBulkEntries entries + 1
  | .held _ => 1
def uptoBulkAll {H : Type} : List (DataW H) → Nat
  | [] => 0
  | d :: r => uptoBulk d + uptoBulkAll r
def uptoBulkEntries {H : Type} : List (Lit × DataW H) → Nat
  | [] => 0
  | x :: r => uptoBulkEntry x + uptoBulkEntries r
def uptoBulkEntry {H : Type} : Lit × DataW H → Nat
  | (.string bytes, d) => bytes.length + uptoBulk d + 1
  | (_, d) => uptoBulk d + 1
 end
def uptoSmall : (H : Type) → List (DataW H) → Bool := fun _ ds => decide (uptoBulkAll ds ≤ 1048576)
def OpenSpec.upto (s : _root_.Go.ChangeSpec) : _root_.Go.OpenSpec := { _root_.Go.OpenSpec.ofChange s with cond := some uptoSmall }

/-- 'laws.FnFrameGet', WHERE WHAT IT READS IS OF BULK AT MOST 1048576: true; the input reads as it did. -/
def fnFrameGetUptoRow : OpenClaim := { program := "ytamokhieopcaaaa", sum := "d070f61340855b7038a0e0f2705de274505ffdb29b3289f529dbfa79e659246a", func := "loop.example/tiervolume/laws.FnFrameGet", spec := "fnFrameGet", apart := false, narrowed := true }
def FnFrameGetUptoSaid : Prop := fnFrameGetUptoRow.holds Try.pinned (OpenSpec.upto fnFrameGetSpec)

/-- 'laws.FnFrameCut', WHERE WHAT IT READS IS OF BULK AT MOST 1048576: true; the input reads as it did. -/
def fnFrameCutUptoRow : OpenClaim := { program := "ytamokhieopcaaaa", sum := "d070f61340855b7038a0e0f2705de274505ffdb29b3289f529dbfa79e659246a", func := "loop.example/tiervolume/laws.FnFrameCut", spec := "fnFrameCut", apart := false, narrowed := true }
def FnFrameCutUptoSaid : Prop := fnFrameCutUptoRow.holds Try.pinned (OpenSpec.upto fnFrameCutSpec)

/-- 'laws.FnFrameMove', WHERE WHAT IT READS IS OF BULK AT MOST 1048576: true; the input reads as it did. -/
def fnFrameMoveUptoRow : OpenClaim := { program := "ytamokhieopcaaaa", sum := "d070f61340855b7038a0e0f2705de274505ffdb29b3289f529dbfa79e659246a", func := "loop.example/tiervolume/laws.FnFrameMove", spec := "fnFrameMove", apart := false, narrowed := true }
def FnFrameMoveUptoSaid : Prop := fnFrameMoveUptoRow.holds Try.pinned (OpenSpec.upto fnFrameMoveSpec)

/-- 'laws.FnFrameWord', WHERE WHAT IT READS IS OF BULK AT MOST 1048576: true; the input reads as it did. -/
def fnFrameWordUptoRow : OpenClaim := { program := "ytamokhieopcaaaa", sum := "d070f61340855b7038a0e0f2705de274505ffdb29b3289f529dbfa79e659246a", func := "loop.example/tiervolume/laws.FnFrameWord", spec := "fnFrameWord", apart := false, narrowed := true }
def FnFrameWordUptoSaid : Prop := fnFrameWordUptoRow.holds Try.pinned (OpenSpec.upto fnFrameWordSpec)

/-- 'laws.FnExactFrameGet', WHERE WHAT IT READS IS OF BULK AT MOST 1048576: true; the input reads as it did. -/
def fnExactFrameGetUptoRow : OpenClaim := { program := "ytamokhieopcaaaa", sum := "d070f61340855b7038a0e0f2705de274505ffdb29b3289f529dbfa79e659246a", func := "loop.example/tiervolume/laws.FnExactFrameGet", spec := "fnExactFrameGet", apart := false, narrowed := true }
def FnExactFrameGetUptoSaid : Prop := fnExactFrameGetUptoRow.holds Try.pinned (OpenSpec.upto fnExactFrameGetSpec)

end Rows
end Go.Proofs.Ytamokhieopcaaaa
