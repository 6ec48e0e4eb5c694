/-
  No cell of these rows narrows 'for every input' (looked for: loops, veiled, ifaces, maps, wideKeys, modest, calm, conditions, laid).
  DERIVED. THE GIVEN ROWS OF THIS SEAT. 5 by the template 'for every input the law returns true; each argument reads behind the call as it read before'; 0 by the template 'total and deterministic' (their statements: YtdhknodhmnnenaaTotals.lean).
  GIVEN WITH THE SEED: the statements are not yours to turn. If you find one false, say at which input.
  Laid BY PROGRAM, IN A SANDBOX (cutbox-rows.mjs): the forced cells as the released guide's own fill.sh prints them over the translation c6914c9d67c096ee… (all of the seat's roots in one cut). By AI agents, Wed Nov 11 2026. No macro, syntax, notation, axiom, sorry.
-/
import Derived.Test.YtdhknodhmnnenaaChecked
import GoSem.Claim
import GoSem.ClaimJoined
import GoSem.ClaimMapViews
import Derived.JoinedTies
import Derived.KernelRfl
namespace Go.Proofs.Ytdhknodhmnnenaa
/- THE CELL 'sum', in the pinned program and in every row, IS THE sha256 OF THE DUMP (.gsa) THAT YtdhknodhmnnenaaProg.lean LOADS. Nothing in Lean hashes anything: it is a label: what it is worth is what the hold of that sum in a sandbox is worth. -/
noncomputable def Try.pinned : Pinned := { name := "ytdhknodhmnnenaa", sum := "c6914c9d67c096eeba215b9e46feb8bca79957384660a247a00c7f87627ef24b", checked := Try.checked }
namespace Rows
def none {H : Type} : Left H := { results := [], args := [] }

/-- 'laws.FnExactMapValid': WHATEVER THE INPUT: true; the input reads as it did. -/
def fnExactMapValidSpec : ChangeSpec := { name := "fnExactMapValid", fn := fun _ => fun
  | [d] => { results := [.lit (.bool true)], args := [d] }
  | _ => none }
def fnExactMapValidRow : OpenClaim := { program := "ytdhknodhmnnenaa", sum := "c6914c9d67c096eeba215b9e46feb8bca79957384660a247a00c7f87627ef24b", func := "loop.example/tiervolume/laws.FnExactMapValid", spec := "fnExactMapValid", apart := false }
def FnExactMapValidSaid : Prop := fnExactMapValidRow.holds Try.pinned (OpenSpec.ofChange fnExactMapValidSpec)

/-- ITS FALSE NEIGHBOUR: 'it returns false'. Refute it at one input. -/
def fnExactMapValidWrong : ChangeSpec := { name := "fnExactMapValid", fn := fun _ => fun
  | [d] => { results := [.lit (.bool false)], args := [d] }
  | _ => none }
def FnExactMapValidWrongFalsely : Prop := fnExactMapValidRow.holds Try.pinned (OpenSpec.ofChange fnExactMapValidWrong)

/-- 'laws.FnExactMapApply': WHATEVER THE INPUT: true; the input reads as it did. -/
def fnExactMapApplySpec : ChangeSpec := { name := "fnExactMapApply", fn := fun _ => fun
  | [d1, d2, d3, d4] => { results := [.lit (.bool true)], args := [d1, d2, d3, d4] }
  | _ => none }
def fnExactMapApplyRow : OpenClaim := { program := "ytdhknodhmnnenaa", sum := "c6914c9d67c096eeba215b9e46feb8bca79957384660a247a00c7f87627ef24b", func := "loop.example/tiervolume/laws.FnExactMapApply", spec := "fnExactMapApply", unfollowed := true, recurses := true, apart := false }
def FnExactMapApplySaid : Prop := fnExactMapApplyRow.holds Try.pinned (OpenSpec.ofChange fnExactMapApplySpec)

/-- ITS FALSE NEIGHBOUR: 'it returns false'. Refute it at one input. -/
def fnExactMapApplyWrong : ChangeSpec := { name := "fnExactMapApply", fn := fun _ => fun
  | [d1, d2, d3, d4] => { results := [.lit (.bool false)], args := [d1, d2, d3, d4] }
  | _ => none }
def FnExactMapApplyWrongFalsely : Prop := fnExactMapApplyRow.holds Try.pinned (OpenSpec.ofChange fnExactMapApplyWrong)

/-- 'laws.FnExactMapIn': WHATEVER THE INPUT: true; the input reads as it did. -/
def fnExactMapInSpec : ChangeSpec := { name := "fnExactMapIn", fn := fun _ => fun
  | [d1, d2] => { results := [.lit (.bool true)], args := [d1, d2] }
  | _ => none }
def fnExactMapInRow : OpenClaim := { program := "ytdhknodhmnnenaa", sum := "c6914c9d67c096eeba215b9e46feb8bca79957384660a247a00c7f87627ef24b", func := "loop.example/tiervolume/laws.FnExactMapIn", spec := "fnExactMapIn", unfollowed := true, recurses := true, apart := false }
def FnExactMapInSaid : Prop := fnExactMapInRow.holds Try.pinned (OpenSpec.ofChange fnExactMapInSpec)

/-- ITS FALSE NEIGHBOUR: 'it returns false'. Refute it at one input. -/
def fnExactMapInWrong : ChangeSpec := { name := "fnExactMapIn", fn := fun _ => fun
  | [d1, d2] => { results := [.lit (.bool false)], args := [d1, d2] }
  | _ => none }
def FnExactMapInWrongFalsely : Prop := fnExactMapInRow.holds Try.pinned (OpenSpec.ofChange fnExactMapInWrong)

/-- 'laws.FnExactMapIds': WHATEVER THE INPUT: true; the input reads as it did. -/
def fnExactMapIdsSpec : ChangeSpec := { name := "fnExactMapIds", fn := fun _ => fun
  | [d] => { results := [.lit (.bool true)], args := [d] }
  | _ => none }
def fnExactMapIdsRow : OpenClaim := { program := "ytdhknodhmnnenaa", sum := "c6914c9d67c096eeba215b9e46feb8bca79957384660a247a00c7f87627ef24b", func := "loop.example/tiervolume/laws.FnExactMapIds", spec := "fnExactMapIds", unfollowed := true, recurses := true, apart := false }
def FnExactMapIdsSaid : Prop := fnExactMapIdsRow.holds Try.pinned (OpenSpec.ofChange fnExactMapIdsSpec)

/-- ITS FALSE NEIGHBOUR: 'it returns false'. Refute it at one input. -/
def fnExactMapIdsWrong : ChangeSpec := { name := "fnExactMapIds", fn := fun _ => fun
  | [d] => { results := [.lit (.bool false)], args := [d] }
  | _ => none }
def FnExactMapIdsWrongFalsely : Prop := fnExactMapIdsRow.holds Try.pinned (OpenSpec.ofChange fnExactMapIdsWrong)

/-- 'laws.FnExactMapTier': WHATEVER THE INPUT: true; the input reads as it did. -/
def fnExactMapTierSpec : ChangeSpec := { name := "fnExactMapTier", fn := fun _ => fun
  | [d1, d2] => { results := [.lit (.bool true)], args := [d1, d2] }
  | _ => none }
def fnExactMapTierRow : OpenClaim := { program := "ytdhknodhmnnenaa", sum := "c6914c9d67c096eeba215b9e46feb8bca79957384660a247a00c7f87627ef24b", func := "loop.example/tiervolume/laws.FnExactMapTier", spec := "fnExactMapTier", unfollowed := true, recurses := true, apart := false }
def FnExactMapTierSaid : Prop := fnExactMapTierRow.holds Try.pinned (OpenSpec.ofChange fnExactMapTierSpec)

/-- ITS FALSE NEIGHBOUR: 'it returns false'. Refute it at one input. -/
def fnExactMapTierWrong : ChangeSpec := { name := "fnExactMapTier", fn := fun _ => fun
  | [d1, d2] => { results := [.lit (.bool false)], args := [d1, d2] }
  | _ => none }
def FnExactMapTierWrongFalsely : Prop := fnExactMapTierRow.holds Try.pinned (OpenSpec.ofChange fnExactMapTierWrong)

/- THE SECOND FORM. 'bulk': how many values and letters a reading holds, each counted each time it is reached (what is shared counts as often as it is met; a slice's spare places count too). A statement '..UptoSaid' is the law's where the arguments, and the package variables that the reading takes, are together of bulk at most 1048576: NARROWER than '..Said'. Prove '..Said' where nothing that the law and all that it calls make is longer than what came in: it says more and counts as full. Else prove '..UptoSaid'. A law counts once. -/
mutual
def uptoBulk {H : Type} : DataW H → Nat
  | .lit (.string bytes) => bytes.length + 1
  | .lit _ => 1
  | .nil => 1
  | .ptr d => uptoBulk d + 1
  | .slice elems spare => uptoBulkAll elems + uptoBulkAll spare + 1
  | .agg parts => uptoBulkAll parts + 1
  | .iface _ d => uptoBulk d + 1
  | .map entries => uptoBulkEntries entries + 1
  | .held _ => 1
def uptoBulkAll {H : Type} : List (DataW H) → Nat
  | [] => 0
  | d :: r => uptoBulk d + uptoBulkAll r
def uptoBulkEntries {H : Type} : List (Lit × DataW H) → Nat
  | [] => 0
  | x :: r => uptoBulkEntry x + uptoBulkEntries r
def uptoBulkEntry {H : Type} : Lit × DataW H → Nat
  | (.string bytes, d) => bytes.length + uptoBulk d + 1
  | (_, d) => uptoBulk d + 1
 end
def uptoSmall : (H : Type) → List (DataW H) → Bool := fun _ ds => decide (uptoBulkAll ds ≤ 1048576)
def OpenSpec.upto (s : _root_.Go.ChangeSpec) : _root_.Go.OpenSpec := { _root_.Go.OpenSpec.ofChange s with cond := some uptoSmall }

/-- 'laws.FnExactMapValid', WHERE WHAT IT READS IS OF BULK AT MOST 1048576: true; the input reads as it did. -/
def fnExactMapValidUptoRow : OpenClaim := { program := "ytdhknodhmnnenaa", sum := "c6914c9d67c096eeba215b9e46feb8bca79957384660a247a00c7f87627ef24b", func := "loop.example/tiervolume/laws.FnExactMapValid", spec := "fnExactMapValid", apart := false, narrowed := true }
def FnExactMapValidUptoSaid : Prop := fnExactMapValidUptoRow.holds Try.pinned (OpenSpec.upto fnExactMapValidSpec)

/-- 'laws.FnExactMapApply', WHERE WHAT IT READS IS OF BULK AT MOST 1048576: true; the input reads as it did. -/
def fnExactMapApplyUptoRow : OpenClaim := { program := "ytdhknodhmnnenaa", sum := "c6914c9d67c096eeba215b9e46feb8bca79957384660a247a00c7f87627ef24b", func := "loop.example/tiervolume/laws.FnExactMapApply", spec := "fnExactMapApply", unfollowed := true, recurses := true, apart := false, narrowed := true }
def FnExactMapApplyUptoSaid : Prop := fnExactMapApplyUptoRow.holds Try.pinned (OpenSpec.upto fnExactMapApplySpec)

/-- 'laws.FnExactMapIn', WHERE WHAT IT READS IS OF BULK AT MOST 1048576: true; the input reads as it did. -/
def fnExactMapInUptoRow : OpenClaim := { program := "ytdhknodhmnnenaa", sum := "c6914c9d67c096eeba215b9e46feb8bca79957384660a247a00c7f87627ef24b", func := "loop.example/tiervolume/laws.FnExactMapIn", spec := "fnExactMapIn", unfollowed := true, recurses := true, apart := false, narrowed := true }
def FnExactMapInUptoSaid : Prop := fnExactMapInUptoRow.holds Try.pinned (OpenSpec.upto fnExactMapInSpec)

/-- 'laws.FnExactMapIds', WHERE WHAT IT READS IS OF BULK AT MOST 1048576: true; the input reads as it did. -/
def fnExactMapIdsUptoRow : OpenClaim := { program := "ytdhknodhmnnenaa", sum := "c6914c9d67c096eeba215b9e46feb8bca79957384660a247a00c7f87627ef24b", func := "loop.example/tiervolume/laws.FnExactMapIds", spec := "fnExactMapIds", unfollowed := true, recurses := true, apart := false, narrowed := true }
def FnExactMapIdsUptoSaid : Prop := fnExactMapIdsUptoRow.holds Try.pinned (OpenSpec.upto fnExactMapIdsSpec)

/-- 'laws.FnExactMapTier', WHERE WHAT IT READS IS OF BULK AT MOST 1048576: true; the input reads as it did. -/
def fnExactMapTierUptoRow : OpenClaim := { program := "ytdhknodhmnnenaa", sum := "c6914c9d67c096eeba215b9e46feb8bca79957384660a247a00c7f87627ef24b", func := "loop.example/tiervolume/laws.FnExactMapTier", spec := "fnExactMapTier", unfollowed := true, recurses := true, apart := false, narrowed := true }
def FnExactMapTierUptoSaid : Prop := fnExactMapTierUptoRow.holds Try.pinned (OpenSpec.upto fnExactMapTierSpec)

end Rows
end Go.Proofs.Ytdhknodhmnnenaa
