/-
  No cell of these rows narrows 'for every input' (looked for: loops, veiled, ifaces, maps, wideKeys, modest, calm, conditions, laid).
  DERIVED. THE GIVEN ROWS OF THIS SEAT. 4 by the template 'for every input the law returns true; each argument reads behind the call as it read before'; 0 by the template 'total and deterministic' (their statements: YtcocboigjfjnfaaTotals.lean).
  GIVEN WITH THE SEED: the statements are not yours to turn. If you find one false, say at which input.
  Laid BY PROGRAM, IN A SANDBOX (cutbox-rows.mjs): the forced cells as the released guide's own fill.sh prints them over the translation f30cf54f924b616c… (all of the seat's roots in one cut). By AI agents, Wed Nov 11 2026. No macro, syntax, notation, axiom, sorry.
-/
import Derived.Test.YtcocboigjfjnfaaChecked
import GoSem.Claim
import GoSem.ClaimJoined
import GoSem.ClaimMapViews
import Derived.JoinedTies
import Derived.KernelRfl
namespace Go.Proofs.Ytcocboigjfjnfaa
/- THE CELL 'sum', in the pinned program and in every row, IS THE sha256 OF THE DUMP (.gsa) THAT YtcocboigjfjnfaaProg.lean LOADS. Nothing in Lean hashes anything: it is a label: what it is worth is what the hold of that sum in a sandbox is worth. -/
noncomputable def Try.pinned : Pinned := { name := "ytcocboigjfjnfaa", sum := "f30cf54f924b616c453908daeaafb56ff541f0000ca822df37304649aa013507", checked := Try.checked }
namespace Rows
def none {H : Type} : Left H := { results := [], args := [] }

/-- 'laws.FnScanZone': WHATEVER THE INPUT: true; the input reads as it did. -/
def fnScanZoneSpec : ChangeSpec := { name := "fnScanZone", fn := fun _ => fun
  | [d] => { results := [.lit (.bool true)], args := [d] }
  | _ => none }
def fnScanZoneRow : OpenClaim := { program := "ytcocboigjfjnfaa", sum := "f30cf54f924b616c453908daeaafb56ff541f0000ca822df37304649aa013507", func := "loop.example/tiervolume/laws.FnScanZone", spec := "fnScanZone", apart := false }
def FnScanZoneSaid : Prop := fnScanZoneRow.holds Try.pinned (OpenSpec.ofChange fnScanZoneSpec)

/-- ITS FALSE NEIGHBOUR: 'it returns false'. Refute it at one input. -/
def fnScanZoneWrong : ChangeSpec := { name := "fnScanZone", fn := fun _ => fun
  | [d] => { results := [.lit (.bool false)], args := [d] }
  | _ => none }
def FnScanZoneWrongFalsely : Prop := fnScanZoneRow.holds Try.pinned (OpenSpec.ofChange fnScanZoneWrong)

/-- 'laws.FnScanEnd': WHATEVER THE INPUT: true; the input reads as it did. -/
def fnScanEndSpec : ChangeSpec := { name := "fnScanEnd", fn := fun _ => fun
  | [d] => { results := [.lit (.bool true)], args := [d] }
  | _ => none }
def fnScanEndRow : OpenClaim := { program := "ytcocboigjfjnfaa", sum := "f30cf54f924b616c453908daeaafb56ff541f0000ca822df37304649aa013507", func := "loop.example/tiervolume/laws.FnScanEnd", spec := "fnScanEnd", apart := false }
def FnScanEndSaid : Prop := fnScanEndRow.holds Try.pinned (OpenSpec.ofChange fnScanEndSpec)

/-- ITS FALSE NEIGHBOUR: 'it returns false'. Refute it at one input. -/
def fnScanEndWrong : ChangeSpec := { name := "fnScanEnd", fn := fun _ => fun
  | [d] => { results := [.lit (.bool false)], args := [d] }
  | _ => none }
def FnScanEndWrongFalsely : Prop := fnScanEndRow.holds Try.pinned (OpenSpec.ofChange fnScanEndWrong)

/-- 'laws.FnScanCut': WHATEVER THE INPUT: true; the input reads as it did. -/
def fnScanCutSpec : ChangeSpec := { name := "fnScanCut", fn := fun _ => fun
  | [d1, d2] => { results := [.lit (.bool true)], args := [d1, d2] }
  | _ => none }
def fnScanCutRow : OpenClaim := { program := "ytcocboigjfjnfaa", sum := "f30cf54f924b616c453908daeaafb56ff541f0000ca822df37304649aa013507", func := "loop.example/tiervolume/laws.FnScanCut", spec := "fnScanCut", apart := false }
def FnScanCutSaid : Prop := fnScanCutRow.holds Try.pinned (OpenSpec.ofChange fnScanCutSpec)

/-- ITS FALSE NEIGHBOUR: 'it returns false'. Refute it at one input. -/
def fnScanCutWrong : ChangeSpec := { name := "fnScanCut", fn := fun _ => fun
  | [d1, d2] => { results := [.lit (.bool false)], args := [d1, d2] }
  | _ => none }
def FnScanCutWrongFalsely : Prop := fnScanCutRow.holds Try.pinned (OpenSpec.ofChange fnScanCutWrong)

/-- 'laws.FnExactScanZone': WHATEVER THE INPUT: true; the input reads as it did. -/
def fnExactScanZoneSpec : ChangeSpec := { name := "fnExactScanZone", fn := fun _ => fun
  | [d1, d2] => { results := [.lit (.bool true)], args := [d1, d2] }
  | _ => none }
def fnExactScanZoneRow : OpenClaim := { program := "ytcocboigjfjnfaa", sum := "f30cf54f924b616c453908daeaafb56ff541f0000ca822df37304649aa013507", func := "loop.example/tiervolume/laws.FnExactScanZone", spec := "fnExactScanZone", apart := false }
def FnExactScanZoneSaid : Prop := fnExactScanZoneRow.holds Try.pinned (OpenSpec.ofChange fnExactScanZoneSpec)

/-- ITS FALSE NEIGHBOUR: 'it returns false'. Refute it at one input. -/
def fnExactScanZoneWrong : ChangeSpec := { name := "fnExactScanZone", fn := fun _ => fun
  | [d1, d2] => { results := [.lit (.bool false)], args := [d1, d2] }
  | _ => none }
def FnExactScanZoneWrongFalsely : Prop := fnExactScanZoneRow.holds Try.pinned (OpenSpec.ofChange fnExactScanZoneWrong)

/- THE SECOND FORM. 'bulk': how many values and letters a reading holds, each counted each time it is reached (what is shared counts as often as it is met; a slice's spare places count too). A statement '..UptoSaid' is the law's where the arguments, and the package variables that the reading takes, are together of bulk at most 1048576: NARROWER than '..Said'. Prove '..Said' where nothing that the law and all that it calls make is longer than what came in: it says more and counts as full. Else prove '..UptoSaid'. A law counts once. -/
mutual
def uptoBulk {H : Type} : DataW H → Nat
  | .lit (.string bytes) => bytes.length + 1
  | .lit _ => 1
  | .nil => 1
  | .ptr d => uptoBulk d + 1
  | .slice elems spare => uptoBulkAll elems + uptoBulkAll spare + 1
  | .agg parts => uptoBulkAll parts + 1
  | .iface _ d => uptoBulk d + 1
  | .map entries => uptoBulkEntries entries + 1
  | .held _ => 1
def uptoBulkAll {H : Type} : List (DataW H) → Nat
  | [] => 0
  | d :: r => uptoBulk d + uptoBulkAll r
def uptoBulkEntries {H : Type} : List (Lit × DataW H) → Nat
  | [] => 0
  | x :: r => uptoBulkEntry x + uptoBulkEntries r
def uptoBulkEntry {H : Type} : Lit × DataW H → Nat
  | (.string bytes, d) => bytes.length + uptoBulk d + 1
  | (_, d) => uptoBulk d + 1
 end
def uptoSmall : (H : Type) → List (DataW H) → Bool := fun _ ds => decide (uptoBulkAll ds ≤ 1048576)
def OpenSpec.upto (s : _root_.Go.ChangeSpec) : _root_.Go.OpenSpec := { _root_.Go.OpenSpec.ofChange s with cond := some uptoSmall }

/-- 'laws.FnScanZone', WHERE WHAT IT READS IS OF BULK AT MOST 1048576: true; the input reads as it did. -/
def fnScanZoneUptoRow : OpenClaim := { program := "ytcocboigjfjnfaa", sum := "f30cf54f924b616c453908daeaafb56ff541f0000ca822df37304649aa013507", func := "loop.example/tiervolume/laws.FnScanZone", spec := "fnScanZone", apart := false, narrowed := true }
def FnScanZoneUptoSaid : Prop := fnScanZoneUptoRow.holds Try.pinned (OpenSpec.upto fnScanZoneSpec)

/-- 'laws.FnScanEnd', WHERE WHAT IT READS IS OF BULK AT MOST 1048576: true; the input reads as it did. -/
def fnScanEndUptoRow : OpenClaim := { program := "ytcocboigjfjnfaa", sum := "f30cf54f924b616c453908daeaafb56ff541f0000ca822df37304649aa013507", func := "loop.example/tiervolume/laws.FnScanEnd", spec := "fnScanEnd", apart := false, narrowed := true }
def FnScanEndUptoSaid : Prop := fnScanEndUptoRow.holds Try.pinned (OpenSpec.upto fnScanEndSpec)

/-- 'laws.FnScanCut', WHERE WHAT IT READS IS OF BULK AT MOST 1048576: true; the input reads as it did. -/
def fnScanCutUptoRow : OpenClaim := { program := "ytcocboigjfjnfaa", sum := "f30cf54f924b616c453908daeaafb56ff541f0000ca822df37304649aa013507", func := "loop.example/tiervolume/laws.FnScanCut", spec := "fnScanCut", apart := false, narrowed := true }
def FnScanCutUptoSaid : Prop := fnScanCutUptoRow.holds Try.pinned (OpenSpec.upto fnScanCutSpec)

/-- 'laws.FnExactScanZone', WHERE WHAT IT READS IS OF BULK AT MOST 1048576: true; the input reads as it did. -/
def fnExactScanZoneUptoRow : OpenClaim := { program := "ytcocboigjfjnfaa", sum := "f30cf54f924b616c453908daeaafb56ff541f0000ca822df37304649aa013507", func := "loop.example/tiervolume/laws.FnExactScanZone", spec := "fnExactScanZone", apart := false, narrowed := true }
def FnExactScanZoneUptoSaid : Prop := fnExactScanZoneUptoRow.holds Try.pinned (OpenSpec.upto fnExactScanZoneSpec)

end Rows
end Go.Proofs.Ytcocboigjfjnfaa
