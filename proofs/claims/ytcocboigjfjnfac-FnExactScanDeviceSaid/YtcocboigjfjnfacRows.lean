/-
  No cell of these rows narrows 'for every input' (looked for: loops, veiled, ifaces, maps, wideKeys, modest, calm, conditions, laid).
  DERIVED. THE GIVEN ROWS OF THIS SEAT. 3 by the template 'for every input the law returns true; each argument reads behind the call as it read before'; 0 by the template 'total and deterministic' (their statements: YtcocboigjfjnfacTotals.lean).
  GIVEN WITH THE SEED: the statements are not yours to turn. If you find one false, say at which input.
  Laid BY PROGRAM, IN A SANDBOX (cutbox-rows.mjs): the forced cells as the released guide's own fill.sh prints them over the translation 6c567c9795be6070… (all of the seat's roots in one cut). By AI agents, Wed Nov 11 2026. No macro, syntax, notation, axiom, sorry.
-/
import Derived.Test.YtcocboigjfjnfacChecked
import GoSem.Claim
import GoSem.ClaimJoined
import GoSem.ClaimMapViews
import Derived.JoinedTies
import Derived.KernelRfl
namespace Go.Proofs.Ytcocboigjfjnfac
/- THE CELL 'sum', in the pinned program and in every row, IS THE sha256 OF THE DUMP (.gsa) THAT YtcocboigjfjnfacProg.lean LOADS. Nothing in Lean hashes anything: it is a label: what it is worth is what the hold of that sum in a sandbox is worth. -/
noncomputable def Try.pinned : Pinned := { name := "ytcocboigjfjnfac", sum := "6c567c9795be6070cc7476955247b9365184295b636144331fa20610cc20a9dc", checked := Try.checked }
namespace Rows
def none {H : Type} : Left H := { results := [], args := [] }

/-- 'laws.FnScanDevice': WHATEVER THE INPUT: true; the input reads as it did. -/
def fnScanDeviceSpec : ChangeSpec := { name := "fnScanDevice", fn := fun _ => fun
  | [d] => { results := [.lit (.bool true)], args := [d] }
  | _ => none }
def fnScanDeviceRow : OpenClaim := { program := "ytcocboigjfjnfac", sum := "6c567c9795be6070cc7476955247b9365184295b636144331fa20610cc20a9dc", func := "loop.example/tiervolume/laws.FnScanDevice", spec := "fnScanDevice", unfollowed := true, recurses := true, apart := false }
def FnScanDeviceSaid : Prop := fnScanDeviceRow.holds Try.pinned (OpenSpec.ofChange fnScanDeviceSpec)

/-- ITS FALSE NEIGHBOUR: 'it returns false'. Refute it at one input. -/
def fnScanDeviceWrong : ChangeSpec := { name := "fnScanDevice", fn := fun _ => fun
  | [d] => { results := [.lit (.bool false)], args := [d] }
  | _ => none }
def FnScanDeviceWrongFalsely : Prop := fnScanDeviceRow.holds Try.pinned (OpenSpec.ofChange fnScanDeviceWrong)

/-- 'laws.FnScanFound': WHATEVER THE INPUT: true; the input reads as it did. -/
def fnScanFoundSpec : ChangeSpec := { name := "fnScanFound", fn := fun _ => fun
  | [d] => { results := [.lit (.bool true)], args := [d] }
  | _ => none }
def fnScanFoundRow : OpenClaim := { program := "ytcocboigjfjnfac", sum := "6c567c9795be6070cc7476955247b9365184295b636144331fa20610cc20a9dc", func := "loop.example/tiervolume/laws.FnScanFound", spec := "fnScanFound", unfollowed := true, recurses := true, apart := false }
def FnScanFoundSaid : Prop := fnScanFoundRow.holds Try.pinned (OpenSpec.ofChange fnScanFoundSpec)

/-- ITS FALSE NEIGHBOUR: 'it returns false'. Refute it at one input. -/
def fnScanFoundWrong : ChangeSpec := { name := "fnScanFound", fn := fun _ => fun
  | [d] => { results := [.lit (.bool false)], args := [d] }
  | _ => none }
def FnScanFoundWrongFalsely : Prop := fnScanFoundRow.holds Try.pinned (OpenSpec.ofChange fnScanFoundWrong)

/-- 'laws.FnExactScanDevice': WHATEVER THE INPUT: true; the input reads as it did. -/
def fnExactScanDeviceSpec : ChangeSpec := { name := "fnExactScanDevice", fn := fun _ => fun
  | [d] => { results := [.lit (.bool true)], args := [d] }
  | _ => none }
def fnExactScanDeviceRow : OpenClaim := { program := "ytcocboigjfjnfac", sum := "6c567c9795be6070cc7476955247b9365184295b636144331fa20610cc20a9dc", func := "loop.example/tiervolume/laws.FnExactScanDevice", spec := "fnExactScanDevice", unfollowed := true, recurses := true, apart := false }
def FnExactScanDeviceSaid : Prop := fnExactScanDeviceRow.holds Try.pinned (OpenSpec.ofChange fnExactScanDeviceSpec)

/-- ITS FALSE NEIGHBOUR: 'it returns false'. Refute it at one input. -/
def fnExactScanDeviceWrong : ChangeSpec := { name := "fnExactScanDevice", fn := fun _ => fun
  | [d] => { results := [.lit (.bool false)], args := [d] }
  | _ => none }
def FnExactScanDeviceWrongFalsely : Prop := fnExactScanDeviceRow.holds Try.pinned (OpenSpec.ofChange fnExactScanDeviceWrong)

/- THE SECOND FORM. 'bulk': how many values and letters a reading holds, each counted each time it is reached (what is shared counts as often as it is met; a slice's spare places count too). A statement '..UptoSaid' is the law's where the arguments, and the package variables that the reading takes, are together of bulk at most 1048576: NARROWER than '..Said'. Prove '..Said' where nothing that the law and all that it calls make is longer than what came in: it says more and counts as full. Else prove '..UptoSaid'. A law counts once. -/
mutual
def uptoBulk {H : Type} : DataW H → Nat
  | .lit (.string bytes) => bytes.length + 1
  | .lit _ => 1
  | .nil => 1
  | .ptr d => uptoBulk d + 1
  | .slice elems spare => uptoBulkAll elems + uptoBulkAll spare + 1
  | .agg parts => uptoBulkAll parts + 1
  | .iface _ d => uptoBulk d + 1
  | .map entries => uptoBulkEntries entries + 1
  | .held _ => 1
def uptoBulkAll {H : Type} : List (DataW H) → Nat
  | [] => 0
  | d :: r => uptoBulk d + uptoBulkAll r
def uptoBulkEntries {H : Type} : List (Lit × DataW H) → Nat
  | [] => 0
  | x :: r => uptoBulkEntry x + uptoBulkEntries r
def uptoBulkEntry {H : Type} : Lit × DataW H → Nat
  | (.string bytes, d) => bytes.length + uptoBulk d + 1
  | (_, d) => uptoBulk d + 1
 end
def uptoSmall : (H : Type) → List (DataW H) → Bool := fun _ ds => decide (uptoBulkAll ds ≤ 1048576)
def OpenSpec.upto (s : _root_.Go.ChangeSpec) : _root_.Go.OpenSpec := { _root_.Go.OpenSpec.ofChange s with cond := some uptoSmall }

/-- 'laws.FnScanDevice', WHERE WHAT IT READS IS OF BULK AT MOST 1048576: true; the input reads as it did. -/
def fnScanDeviceUptoRow : OpenClaim := { program := "ytcocboigjfjnfac", sum := "6c567c9795be6070cc7476955247b9365184295b636144331fa20610cc20a9dc", func := "loop.example/tiervolume/laws.FnScanDevice", spec := "fnScanDevice", unfollowed := true, recurses := true, apart := false, narrowed := true }
def FnScanDeviceUptoSaid : Prop := fnScanDeviceUptoRow.holds Try.pinned (OpenSpec.upto fnScanDeviceSpec)

/-- 'laws.FnScanFound', WHERE WHAT IT READS IS OF BULK AT MOST 1048576: true; the input reads as it did. -/
def fnScanFoundUptoRow : OpenClaim := { program := "ytcocboigjfjnfac", sum := "6c567c9795be6070cc7476955247b9365184295b636144331fa20610cc20a9dc", func := "loop.example/tiervolume/laws.FnScanFound", spec := "fnScanFound", unfollowed := true, recurses := true, apart := false, narrowed := true }
def FnScanFoundUptoSaid : Prop := fnScanFoundUptoRow.holds Try.pinned (OpenSpec.upto fnScanFoundSpec)

/-- 'laws.FnExactScanDevice', WHERE WHAT IT READS IS OF BULK AT MOST 1048576: true; the input reads as it did. -/
def fnExactScanDeviceUptoRow : OpenClaim := { program := "ytcocboigjfjnfac", sum := "6c567c9795be6070cc7476955247b9365184295b636144331fa20610cc20a9dc", func := "loop.example/tiervolume/laws.FnExactScanDevice", spec := "fnExactScanDevice", unfollowed := true, recurses := true, apart := false, narrowed := true }
def FnExactScanDeviceUptoSaid : Prop := fnExactScanDeviceUptoRow.holds Try.pinned (OpenSpec.upto fnExactScanDeviceSpec)

end Rows
end Go.Proofs.Ytcocboigjfjnfac
