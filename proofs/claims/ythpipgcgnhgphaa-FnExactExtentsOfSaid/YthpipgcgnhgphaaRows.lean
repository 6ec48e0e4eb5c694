/-
  No cell of these rows narrows 'for every input' (looked for: loops, veiled, ifaces, maps, wideKeys, modest, calm, conditions, laid).
  DERIVED. THE GIVEN ROWS OF THIS SEAT. 5 by the template 'for every input the law returns true; each argument reads behind the call as it read before'; 0 by the template 'total and deterministic' (their statements: YthpipgcgnhgphaaTotals.lean).
  GIVEN WITH THE SEED: the statements are not yours to turn. If you find one false, say at which input.
  Laid BY PROGRAM, IN A SANDBOX (cutbox-rows.mjs): the forced cells as the released guide's own fill.sh prints them over the translation 03f4b0d08ed428bc… (all of the seat's roots in one cut). By AI agents, Wed Nov 11 2026. No macro, syntax, notation, axiom, sorry.
-/
import Derived.Test.YthpipgcgnhgphaaChecked
import GoSem.Claim
import GoSem.ClaimJoined
import GoSem.ClaimMapViews
import Derived.JoinedTies
import Derived.KernelRfl
namespace Go.Proofs.Ythpipgcgnhgphaa
/- THE CELL 'sum', in the pinned program and in every row, IS THE sha256 OF THE DUMP (.gsa) THAT YthpipgcgnhgphaaProg.lean LOADS. Nothing in Lean hashes anything: it is a label: what it is worth is what the hold of that sum in a sandbox is worth. -/
noncomputable def Try.pinned : Pinned := { name := "ythpipgcgnhgphaa", sum := "03f4b0d08ed428bc678c1b30d2f23882639333dd50ba48cb480b787ea25a5d3c", checked := Try.checked }
namespace Rows
def none {H : Type} : Left H := { results := [], args := [] }

/-- 'laws.FnExactExtentsValid': WHATEVER THE INPUT: true; the input reads as it did. -/
def fnExactExtentsValidSpec : ChangeSpec := { name := "fnExactExtentsValid", fn := fun _ => fun
  | [d] => { results := [.lit (.bool true)], args := [d] }
  | _ => none }
def fnExactExtentsValidRow : OpenClaim := { program := "ythpipgcgnhgphaa", sum := "03f4b0d08ed428bc678c1b30d2f23882639333dd50ba48cb480b787ea25a5d3c", func := "loop.example/tiervolume/laws.FnExactExtentsValid", spec := "fnExactExtentsValid", apart := false }
def FnExactExtentsValidSaid : Prop := fnExactExtentsValidRow.holds Try.pinned (OpenSpec.ofChange fnExactExtentsValidSpec)

/-- ITS FALSE NEIGHBOUR: 'it returns false'. Refute it at one input. -/
def fnExactExtentsValidWrong : ChangeSpec := { name := "fnExactExtentsValid", fn := fun _ => fun
  | [d] => { results := [.lit (.bool false)], args := [d] }
  | _ => none }
def FnExactExtentsValidWrongFalsely : Prop := fnExactExtentsValidRow.holds Try.pinned (OpenSpec.ofChange fnExactExtentsValidWrong)

/-- 'laws.FnExactExtentsOf': WHATEVER THE INPUT: true; the input reads as it did. -/
def fnExactExtentsOfSpec : ChangeSpec := { name := "fnExactExtentsOf", fn := fun _ => fun
  | [d] => { results := [.lit (.bool true)], args := [d] }
  | _ => none }
def fnExactExtentsOfRow : OpenClaim := { program := "ythpipgcgnhgphaa", sum := "03f4b0d08ed428bc678c1b30d2f23882639333dd50ba48cb480b787ea25a5d3c", func := "loop.example/tiervolume/laws.FnExactExtentsOf", spec := "fnExactExtentsOf", unfollowed := true, recurses := true, apart := false }
def FnExactExtentsOfSaid : Prop := fnExactExtentsOfRow.holds Try.pinned (OpenSpec.ofChange fnExactExtentsOfSpec)

/-- ITS FALSE NEIGHBOUR: 'it returns false'. Refute it at one input. -/
def fnExactExtentsOfWrong : ChangeSpec := { name := "fnExactExtentsOf", fn := fun _ => fun
  | [d] => { results := [.lit (.bool false)], args := [d] }
  | _ => none }
def FnExactExtentsOfWrongFalsely : Prop := fnExactExtentsOfRow.holds Try.pinned (OpenSpec.ofChange fnExactExtentsOfWrong)

/-- 'laws.FnExactExtentsBlocks': WHATEVER THE INPUT: true; the input reads as it did. -/
def fnExactExtentsBlocksSpec : ChangeSpec := { name := "fnExactExtentsBlocks", fn := fun _ => fun
  | [d] => { results := [.lit (.bool true)], args := [d] }
  | _ => none }
def fnExactExtentsBlocksRow : OpenClaim := { program := "ythpipgcgnhgphaa", sum := "03f4b0d08ed428bc678c1b30d2f23882639333dd50ba48cb480b787ea25a5d3c", func := "loop.example/tiervolume/laws.FnExactExtentsBlocks", spec := "fnExactExtentsBlocks", apart := false }
def FnExactExtentsBlocksSaid : Prop := fnExactExtentsBlocksRow.holds Try.pinned (OpenSpec.ofChange fnExactExtentsBlocksSpec)

/-- ITS FALSE NEIGHBOUR: 'it returns false'. Refute it at one input. -/
def fnExactExtentsBlocksWrong : ChangeSpec := { name := "fnExactExtentsBlocks", fn := fun _ => fun
  | [d] => { results := [.lit (.bool false)], args := [d] }
  | _ => none }
def FnExactExtentsBlocksWrongFalsely : Prop := fnExactExtentsBlocksRow.holds Try.pinned (OpenSpec.ofChange fnExactExtentsBlocksWrong)

/-- 'laws.FnExactExtentsJoin': WHATEVER THE INPUT: true; the input reads as it did. -/
def fnExactExtentsJoinSpec : ChangeSpec := { name := "fnExactExtentsJoin", fn := fun _ => fun
  | [d1, d2] => { results := [.lit (.bool true)], args := [d1, d2] }
  | _ => none }
def fnExactExtentsJoinRow : OpenClaim := { program := "ythpipgcgnhgphaa", sum := "03f4b0d08ed428bc678c1b30d2f23882639333dd50ba48cb480b787ea25a5d3c", func := "loop.example/tiervolume/laws.FnExactExtentsJoin", spec := "fnExactExtentsJoin", apart := false }
def FnExactExtentsJoinSaid : Prop := fnExactExtentsJoinRow.holds Try.pinned (OpenSpec.ofChange fnExactExtentsJoinSpec)

/-- ITS FALSE NEIGHBOUR: 'it returns false'. Refute it at one input. -/
def fnExactExtentsJoinWrong : ChangeSpec := { name := "fnExactExtentsJoin", fn := fun _ => fun
  | [d1, d2] => { results := [.lit (.bool false)], args := [d1, d2] }
  | _ => none }
def FnExactExtentsJoinWrongFalsely : Prop := fnExactExtentsJoinRow.holds Try.pinned (OpenSpec.ofChange fnExactExtentsJoinWrong)

/-- 'laws.FnExactExtentsWithout': WHATEVER THE INPUT: true; the input reads as it did. -/
def fnExactExtentsWithoutSpec : ChangeSpec := { name := "fnExactExtentsWithout", fn := fun _ => fun
  | [d1, d2] => { results := [.lit (.bool true)], args := [d1, d2] }
  | _ => none }
def fnExactExtentsWithoutRow : OpenClaim := { program := "ythpipgcgnhgphaa", sum := "03f4b0d08ed428bc678c1b30d2f23882639333dd50ba48cb480b787ea25a5d3c", func := "loop.example/tiervolume/laws.FnExactExtentsWithout", spec := "fnExactExtentsWithout", apart := false }
def FnExactExtentsWithoutSaid : Prop := fnExactExtentsWithoutRow.holds Try.pinned (OpenSpec.ofChange fnExactExtentsWithoutSpec)

/-- ITS FALSE NEIGHBOUR: 'it returns false'. Refute it at one input. -/
def fnExactExtentsWithoutWrong : ChangeSpec := { name := "fnExactExtentsWithout", fn := fun _ => fun
  | [d1, d2] => { results := [.lit (.bool false)], args := [d1, d2] }
  | _ => none }
def FnExactExtentsWithoutWrongFalsely : Prop := fnExactExtentsWithoutRow.holds Try.pinned (OpenSpec.ofChange fnExactExtentsWithoutWrong)

/- THE SECOND FORM. 'bulk': how many values and letters a reading holds, each counted each time it is reached (what is shared counts as often as it is met; a slice's spare places count too). A statement '..UptoSaid' is the law's where the arguments, and the package variables that the reading takes, are together of bulk at most 1048576: NARROWER than '..Said'. Prove '..Said' where nothing that the law and all that it calls make is longer than what came in: it says more and counts as full. Else prove '..UptoSaid'. A law counts once. -/
mutual
def uptoBulk {H : Type} : DataW H → Nat
  | .lit (.string bytes) => bytes.length + 1
  | .lit _ => 1
  | .nil => 1
  | .ptr d => uptoBulk d + 1
  | .slice elems spare => uptoBulkAll elems + uptoBulkAll spare + 1
  | .agg parts => uptoBulkAll parts + 1
  | .iface _ d => uptoBulk d + 1
  | .map entries => uptoBulkEntries entries + 1
  | .held _ => 1
def uptoBulkAll {H : Type} : List (DataW H) → Nat
  | [] => 0
  | d :: r => uptoBulk d + uptoBulkAll r
def uptoBulkEntries {H : Type} : List (Lit × DataW H) → Nat
  | [] => 0
  | x :: r => uptoBulkEntry x + uptoBulkEntries r
def uptoBulkEntry {H : Type} : Lit × DataW H → Nat
  | (.string bytes, d) => bytes.length + uptoBulk d + 1
  | (_, d) => uptoBulk d + 1
 end
def uptoSmall : (H : Type) → List (DataW H) → Bool := fun _ ds => decide (uptoBulkAll ds ≤ 1048576)
def OpenSpec.upto (s : _root_.Go.ChangeSpec) : _root_.Go.OpenSpec := { _root_.Go.OpenSpec.ofChange s with cond := some uptoSmall }

/-- 'laws.FnExactExtentsValid', WHERE WHAT IT READS IS OF BULK AT MOST 1048576: true; the input reads as it did. -/
def fnExactExtentsValidUptoRow : OpenClaim := { program := "ythpipgcgnhgphaa", sum := "03f4b0d08ed428bc678c1b30d2f23882639333dd50ba48cb480b787ea25a5d3c", func := "loop.example/tiervolume/laws.FnExactExtentsValid", spec := "fnExactExtentsValid", apart := false, narrowed := true }
def FnExactExtentsValidUptoSaid : Prop := fnExactExtentsValidUptoRow.holds Try.pinned (OpenSpec.upto fnExactExtentsValidSpec)

/-- 'laws.FnExactExtentsOf', WHERE WHAT IT READS IS OF BULK AT MOST 1048576: true; the input reads as it did. -/
def fnExactExtentsOfUptoRow : OpenClaim := { program := "ythpipgcgnhgphaa", sum := "03f4b0d08ed428bc678c1b30d2f23882639333dd50ba48cb480b787ea25a5d3c", func := "loop.example/tiervolume/laws.FnExactExtentsOf", spec := "fnExactExtentsOf", unfollowed := true, recurses := true, apart := false, narrowed := true }
def FnExactExtentsOfUptoSaid : Prop := fnExactExtentsOfUptoRow.holds Try.pinned (OpenSpec.upto fnExactExtentsOfSpec)

/-- 'laws.FnExactExtentsBlocks', WHERE WHAT IT READS IS OF BULK AT MOST 1048576: true; the input reads as it did. -/
def fnExactExtentsBlocksUptoRow : OpenClaim := { program := "ythpipgcgnhgphaa", sum := "03f4b0d08ed428bc678c1b30d2f23882639333dd50ba48cb480b787ea25a5d3c", func := "loop.example/tiervolume/laws.FnExactExtentsBlocks", spec := "fnExactExtentsBlocks", apart := false, narrowed := true }
def FnExactExtentsBlocksUptoSaid : Prop := fnExactExtentsBlocksUptoRow.holds Try.pinned (OpenSpec.upto fnExactExtentsBlocksSpec)

/-- 'laws.FnExactExtentsJoin', WHERE WHAT IT READS IS OF BULK AT MOST 1048576: true; the input reads as it did. -/
def fnExactExtentsJoinUptoRow : OpenClaim := { program := "ythpipgcgnhgphaa", sum := "03f4b0d08ed428bc678c1b30d2f23882639333dd50ba48cb480b787ea25a5d3c", func := "loop.example/tiervolume/laws.FnExactExtentsJoin", spec := "fnExactExtentsJoin", apart := false, narrowed := true }
def FnExactExtentsJoinUptoSaid : Prop := fnExactExtentsJoinUptoRow.holds Try.pinned (OpenSpec.upto fnExactExtentsJoinSpec)

/-- 'laws.FnExactExtentsWithout', WHERE WHAT IT READS IS OF BULK AT MOST 1048576: true; the input reads as it did. -/
def fnExactExtentsWithoutUptoRow : OpenClaim := { program := "ythpipgcgnhgphaa", sum := "03f4b0d08ed428bc678c1b30d2f23882639333dd50ba48cb480b787ea25a5d3c", func := "loop.example/tiervolume/laws.FnExactExtentsWithout", spec := "fnExactExtentsWithout", apart := false, narrowed := true }
def FnExactExtentsWithoutUptoSaid : Prop := fnExactExtentsWithoutUptoRow.holds Try.pinned (OpenSpec.upto fnExactExtentsWithoutSpec)

end Rows
end Go.Proofs.Ythpipgcgnhgphaa
