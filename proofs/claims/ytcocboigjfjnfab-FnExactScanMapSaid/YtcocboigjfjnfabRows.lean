/-
  No cell of these rows narrows 'for every input' (looked for: loops, veiled, ifaces, maps, wideKeys, modest, calm, conditions, laid).
  DERIVED. THE GIVEN ROWS OF THIS SEAT. 4 by the template 'for every input the law returns true; each argument reads behind the call as it read before'; 0 by the template 'total and deterministic' (their statements: YtcocboigjfjnfabTotals.lean).
  GIVEN WITH THE SEED: the statements are not yours to turn. If you find one false, say at which input.
  Laid BY PROGRAM, IN A SANDBOX (cutbox-rows.mjs): the forced cells as the released guide's own fill.sh prints them over the translation 90852037cbae40ac… (all of the seat's roots in one cut). By AI agents, Wed Nov 11 2026. No macro, syntax, notation, axiom, sorry.
-/
import Derived.Test.YtcocboigjfjnfabChecked
import GoSem.Claim
import GoSem.ClaimJoined
import GoSem.ClaimMapViews
import Derived.JoinedTies
import Derived.KernelRfl
namespace Go.Proofs.Ytcocboigjfjnfab
/- THE CELL 'sum', in the pinned program and in every row, IS THE sha256 OF THE DUMP (.gsa) THAT YtcocboigjfjnfabProg.lean LOADS. Nothing in Lean hashes anything: it is a label: what it is worth is what the hold of that sum in a sandbox is worth. -/
noncomputable def Try.pinned : Pinned := { name := "ytcocboigjfjnfab", sum := "90852037cbae40ac0cad6c892e8f800628d60896bf35f733dd074bd3a4236310", checked := Try.checked }
namespace Rows
def none {H : Type} : Left H := { results := [], args := [] }

/-- 'laws.FnScanMap': WHATEVER THE INPUT: true; the input reads as it did. -/
def fnScanMapSpec : ChangeSpec := { name := "fnScanMap", fn := fun _ => fun
  | [d] => { results := [.lit (.bool true)], args := [d] }
  | _ => none }
def fnScanMapRow : OpenClaim := { program := "ytcocboigjfjnfab", sum := "90852037cbae40ac0cad6c892e8f800628d60896bf35f733dd074bd3a4236310", func := "loop.example/tiervolume/laws.FnScanMap", spec := "fnScanMap", unfollowed := true, recurses := true, apart := false }
def FnScanMapSaid : Prop := fnScanMapRow.holds Try.pinned (OpenSpec.ofChange fnScanMapSpec)

/-- ITS FALSE NEIGHBOUR: 'it returns false'. Refute it at one input. -/
def fnScanMapWrong : ChangeSpec := { name := "fnScanMap", fn := fun _ => fun
  | [d] => { results := [.lit (.bool false)], args := [d] }
  | _ => none }
def FnScanMapWrongFalsely : Prop := fnScanMapRow.holds Try.pinned (OpenSpec.ofChange fnScanMapWrong)

/-- 'laws.FnScanMapNone': WHATEVER THE INPUT: true; the input reads as it did. -/
def fnScanMapNoneSpec : ChangeSpec := { name := "fnScanMapNone", fn := fun _ => fun
  | [d] => { results := [.lit (.bool true)], args := [d] }
  | _ => none }
def fnScanMapNoneRow : OpenClaim := { program := "ytcocboigjfjnfab", sum := "90852037cbae40ac0cad6c892e8f800628d60896bf35f733dd074bd3a4236310", func := "loop.example/tiervolume/laws.FnScanMapNone", spec := "fnScanMapNone", unfollowed := true, recurses := true, apart := false }
def FnScanMapNoneSaid : Prop := fnScanMapNoneRow.holds Try.pinned (OpenSpec.ofChange fnScanMapNoneSpec)

/-- ITS FALSE NEIGHBOUR: 'it returns false'. Refute it at one input. -/
def fnScanMapNoneWrong : ChangeSpec := { name := "fnScanMapNone", fn := fun _ => fun
  | [d] => { results := [.lit (.bool false)], args := [d] }
  | _ => none }
def FnScanMapNoneWrongFalsely : Prop := fnScanMapNoneRow.holds Try.pinned (OpenSpec.ofChange fnScanMapNoneWrong)

/-- 'laws.FnScanMapPart': WHATEVER THE INPUT: true; the input reads as it did. -/
def fnScanMapPartSpec : ChangeSpec := { name := "fnScanMapPart", fn := fun _ => fun
  | [d1, d2] => { results := [.lit (.bool true)], args := [d1, d2] }
  | _ => none }
def fnScanMapPartRow : OpenClaim := { program := "ytcocboigjfjnfab", sum := "90852037cbae40ac0cad6c892e8f800628d60896bf35f733dd074bd3a4236310", func := "loop.example/tiervolume/laws.FnScanMapPart", spec := "fnScanMapPart", unfollowed := true, recurses := true, apart := false }
def FnScanMapPartSaid : Prop := fnScanMapPartRow.holds Try.pinned (OpenSpec.ofChange fnScanMapPartSpec)

/-- ITS FALSE NEIGHBOUR: 'it returns false'. Refute it at one input. -/
def fnScanMapPartWrong : ChangeSpec := { name := "fnScanMapPart", fn := fun _ => fun
  | [d1, d2] => { results := [.lit (.bool false)], args := [d1, d2] }
  | _ => none }
def FnScanMapPartWrongFalsely : Prop := fnScanMapPartRow.holds Try.pinned (OpenSpec.ofChange fnScanMapPartWrong)

/-- 'laws.FnExactScanMap': WHATEVER THE INPUT: true; the input reads as it did. -/
def fnExactScanMapSpec : ChangeSpec := { name := "fnExactScanMap", fn := fun _ => fun
  | [d] => { results := [.lit (.bool true)], args := [d] }
  | _ => none }
def fnExactScanMapRow : OpenClaim := { program := "ytcocboigjfjnfab", sum := "90852037cbae40ac0cad6c892e8f800628d60896bf35f733dd074bd3a4236310", func := "loop.example/tiervolume/laws.FnExactScanMap", spec := "fnExactScanMap", unfollowed := true, recurses := true, apart := false }
def FnExactScanMapSaid : Prop := fnExactScanMapRow.holds Try.pinned (OpenSpec.ofChange fnExactScanMapSpec)

/-- ITS FALSE NEIGHBOUR: 'it returns false'. Refute it at one input. -/
def fnExactScanMapWrong : ChangeSpec := { name := "fnExactScanMap", fn := fun _ => fun
  | [d] => { results := [.lit (.bool false)], args := [d] }
  | _ => none }
def FnExactScanMapWrongFalsely : Prop := fnExactScanMapRow.holds Try.pinned (OpenSpec.ofChange fnExactScanMapWrong)

/- THE SECOND FORM. 'bulk': how many values and letters a reading holds, each counted each time it is reached (what is shared counts as often as it is met; a slice's spare places count too). A statement '..UptoSaid' is the law's where the arguments, and the package variables that the reading takes, are together of bulk at most 1048576: NARROWER than '..Said'. Prove '..Said' where nothing that the law and all that it calls make is longer than what came in: it says more and counts as full. Else prove '..UptoSaid'. A law counts once. -/
mutual
def uptoBulk {H : Type} : DataW H → Nat
  | .lit (.string bytes) => bytes.length + 1
  | .lit _ => 1
  | .nil => 1
  | .ptr d => uptoBulk d + 1
  | .slice elems spare => uptoBulkAll elems + uptoBulkAll spare + 1
  | .agg parts => uptoBulkAll parts + 1
  | .iface _ d => uptoBulk d + 1
  | .map entries => uptoBulkEntries entries + 1
  | .held _ => 1
def uptoBulkAll {H : Type} : List (DataW H) → Nat
  | [] => 0
  | d :: r => uptoBulk d + uptoBulkAll r
def uptoBulkEntries {H : Type} : List (Lit × DataW H) → Nat
  | [] => 0
  | x :: r => uptoBulkEntry x + uptoBulkEntries r
def uptoBulkEntry {H : Type} : Lit × DataW H → Nat
  | (.string bytes, d) => bytes.length + uptoBulk d + 1
  | (_, d) => uptoBulk d + 1
 end
def uptoSmall : (H : Type) → List (DataW H) → Bool := fun _ ds => decide (uptoBulkAll ds ≤ 1048576)
def OpenSpec.upto (s : _root_.Go.ChangeSpec) : _root_.Go.OpenSpec := { _root_.Go.OpenSpec.ofChange s with cond := some uptoSmall }

/-- 'laws.FnScanMap', WHERE WHAT IT READS IS OF BULK AT MOST 1048576: true; the input reads as it did. -/
def fnScanMapUptoRow : OpenClaim := { program := "ytcocboigjfjnfab", sum := "90852037cbae40ac0cad6c892e8f800628d60896bf35f733dd074bd3a4236310", func := "loop.example/tiervolume/laws.FnScanMap", spec := "fnScanMap", unfollowed := true, recurses := true, apart := false, narrowed := true }
def FnScanMapUptoSaid : Prop := fnScanMapUptoRow.holds Try.pinned (OpenSpec.upto fnScanMapSpec)

/-- 'laws.FnScanMapNone', WHERE WHAT IT READS IS OF BULK AT MOST 1048576: true; the input reads as it did. -/
def fnScanMapNoneUptoRow : OpenClaim := { program := "ytcocboigjfjnfab", sum := "90852037cbae40ac0cad6c892e8f800628d60896bf35f733dd074bd3a4236310", func := "loop.example/tiervolume/laws.FnScanMapNone", spec := "fnScanMapNone", unfollowed := true, recurses := true, apart := false, narrowed := true }
def FnScanMapNoneUptoSaid : Prop := fnScanMapNoneUptoRow.holds Try.pinned (OpenSpec.upto fnScanMapNoneSpec)

/-- 'laws.FnScanMapPart', WHERE WHAT IT READS IS OF BULK AT MOST 1048576: true; the input reads as it did. -/
def fnScanMapPartUptoRow : OpenClaim := { program := "ytcocboigjfjnfab", sum := "90852037cbae40ac0cad6c892e8f800628d60896bf35f733dd074bd3a4236310", func := "loop.example/tiervolume/laws.FnScanMapPart", spec := "fnScanMapPart", unfollowed := true, recurses := true, apart := false, narrowed := true }
def FnScanMapPartUptoSaid : Prop := fnScanMapPartUptoRow.holds Try.pinned (OpenSpec.upto fnScanMapPartSpec)

/-- 'laws.FnExactScanMap', WHERE WHAT IT READS IS OF BULK AT MOST 1048576: true; the input reads as it did. -/
def fnExactScanMapUptoRow : OpenClaim := { program := "ytcocboigjfjnfab", sum := "90852037cbae40ac0cad6c892e8f800628d60896bf35f733dd074bd3a4236310", func := "loop.example/tiervolume/laws.FnExactScanMap", spec := "fnExactScanMap", unfollowed := true, recurses := true, apart := false, narrowed := true }
def FnExactScanMapUptoSaid : Prop := fnExactScanMapUptoRow.holds Try.pinned (OpenSpec.upto fnExactScanMapSpec)

end Rows
end Go.Proofs.Ytcocboigjfjnfab
