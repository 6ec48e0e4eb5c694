/-
  No cell of these rows narrows 'for every input' (looked for: loops, veiled, ifaces, maps, wideKeys, modest, calm, conditions, laid).
  DERIVED. THE GIVEN ROWS OF THIS SEAT. 10 by the template 'for every input the law returns true; each argument reads behind the call as it read before'; 0 by the template 'total and deterministic' (their statements: YtgkjbickphdeoaaTotals.lean).
  GIVEN WITH THE SEED: the statements are not yours to turn. If you find one false, say at which input.
  Laid BY PROGRAM, IN A SANDBOX (cutbox-rows.mjs): the forced cells as the released guide's own fill.sh prints them over the translation a3f2203efcd2dc69… (all of the seat's roots in one cut). By AI agents, Wed Nov 11 2026. No macro, syntax, notation, axiom, sorry.
-/
import Derived.Test.YtgkjbickphdeoaaChecked
import GoSem.Claim
import GoSem.ClaimJoined
import GoSem.ClaimMapViews
import Derived.JoinedTies
import Derived.KernelRfl
namespace Go.Proofs.Ytgkjbickphdeoaa
/- THE CELL 'sum', in the pinned program and in every row, IS THE sha256 OF THE DUMP (.gsa) THAT YtgkjbickphdeoaaProg.lean LOADS. Nothing in Lean hashes anything: it is a label: what it is worth is what the hold of that sum in a sandbox is worth. -/
noncomputable def Try.pinned : Pinned := { name := "ytgkjbickphdeoaa", sum := "a3f2203efcd2dc692c1ae0e598f12b7f3dc9544df3c21061588aa10e464811ec", checked := Try.checked }
namespace Rows
def none {H : Type} : Left H := { results := [], args := [] }

/-- 'laws.FnApply': WHATEVER THE INPUT: true; the input reads as it did. -/
def fnApplySpec : ChangeSpec := { name := "fnApply", fn := fun _ => fun
  | [d] => { results := [.lit (.bool true)], args := [d] }
  | _ => none }
def fnApplyRow : OpenClaim := { program := "ytgkjbickphdeoaa", sum := "a3f2203efcd2dc692c1ae0e598f12b7f3dc9544df3c21061588aa10e464811ec", func := "loop.example/tiervolume/laws.FnApply", spec := "fnApply", unfollowed := true, recurses := true, apart := false }
def FnApplySaid : Prop := fnApplyRow.holds Try.pinned (OpenSpec.ofChange fnApplySpec)

/-- ITS FALSE NEIGHBOUR: 'it returns false'. Refute it at one input. -/
def fnApplyWrong : ChangeSpec := { name := "fnApply", fn := fun _ => fun
  | [d] => { results := [.lit (.bool false)], args := [d] }
  | _ => none }
def FnApplyWrongFalsely : Prop := fnApplyRow.holds Try.pinned (OpenSpec.ofChange fnApplyWrong)

/-- 'laws.FnApplyHot': WHATEVER THE INPUT: true; the input reads as it did. -/
def fnApplyHotSpec : ChangeSpec := { name := "fnApplyHot", fn := fun _ => fun
  | [d] => { results := [.lit (.bool true)], args := [d] }
  | _ => none }
def fnApplyHotRow : OpenClaim := { program := "ytgkjbickphdeoaa", sum := "a3f2203efcd2dc692c1ae0e598f12b7f3dc9544df3c21061588aa10e464811ec", func := "loop.example/tiervolume/laws.FnApplyHot", spec := "fnApplyHot", unfollowed := true, recurses := true, apart := false }
def FnApplyHotSaid : Prop := fnApplyHotRow.holds Try.pinned (OpenSpec.ofChange fnApplyHotSpec)

/-- ITS FALSE NEIGHBOUR: 'it returns false'. Refute it at one input. -/
def fnApplyHotWrong : ChangeSpec := { name := "fnApplyHot", fn := fun _ => fun
  | [d] => { results := [.lit (.bool false)], args := [d] }
  | _ => none }
def FnApplyHotWrongFalsely : Prop := fnApplyHotRow.holds Try.pinned (OpenSpec.ofChange fnApplyHotWrong)

/-- 'laws.FnApplyWord': WHATEVER THE INPUT: true; the input reads as it did. -/
def fnApplyWordSpec : ChangeSpec := { name := "fnApplyWord", fn := fun _ => fun
  | [d] => { results := [.lit (.bool true)], args := [d] }
  | _ => none }
def fnApplyWordRow : OpenClaim := { program := "ytgkjbickphdeoaa", sum := "a3f2203efcd2dc692c1ae0e598f12b7f3dc9544df3c21061588aa10e464811ec", func := "loop.example/tiervolume/laws.FnApplyWord", spec := "fnApplyWord", unfollowed := true, recurses := true, apart := false }
def FnApplyWordSaid : Prop := fnApplyWordRow.holds Try.pinned (OpenSpec.ofChange fnApplyWordSpec)

/-- ITS FALSE NEIGHBOUR: 'it returns false'. Refute it at one input. -/
def fnApplyWordWrong : ChangeSpec := { name := "fnApplyWord", fn := fun _ => fun
  | [d] => { results := [.lit (.bool false)], args := [d] }
  | _ => none }
def FnApplyWordWrongFalsely : Prop := fnApplyWordRow.holds Try.pinned (OpenSpec.ofChange fnApplyWordWrong)

/-- 'laws.FnApplyCold': WHATEVER THE INPUT: true; the input reads as it did. -/
def fnApplyColdSpec : ChangeSpec := { name := "fnApplyCold", fn := fun _ => fun
  | [d] => { results := [.lit (.bool true)], args := [d] }
  | _ => none }
def fnApplyColdRow : OpenClaim := { program := "ytgkjbickphdeoaa", sum := "a3f2203efcd2dc692c1ae0e598f12b7f3dc9544df3c21061588aa10e464811ec", func := "loop.example/tiervolume/laws.FnApplyCold", spec := "fnApplyCold", unfollowed := true, recurses := true, apart := false }
def FnApplyColdSaid : Prop := fnApplyColdRow.holds Try.pinned (OpenSpec.ofChange fnApplyColdSpec)

/-- ITS FALSE NEIGHBOUR: 'it returns false'. Refute it at one input. -/
def fnApplyColdWrong : ChangeSpec := { name := "fnApplyCold", fn := fun _ => fun
  | [d] => { results := [.lit (.bool false)], args := [d] }
  | _ => none }
def FnApplyColdWrongFalsely : Prop := fnApplyColdRow.holds Try.pinned (OpenSpec.ofChange fnApplyColdWrong)

/-- 'laws.FnApplyOthers': WHATEVER THE INPUT: true; the input reads as it did. -/
def fnApplyOthersSpec : ChangeSpec := { name := "fnApplyOthers", fn := fun _ => fun
  | [d] => { results := [.lit (.bool true)], args := [d] }
  | _ => none }
def fnApplyOthersRow : OpenClaim := { program := "ytgkjbickphdeoaa", sum := "a3f2203efcd2dc692c1ae0e598f12b7f3dc9544df3c21061588aa10e464811ec", func := "loop.example/tiervolume/laws.FnApplyOthers", spec := "fnApplyOthers", unfollowed := true, recurses := true, apart := false }
def FnApplyOthersSaid : Prop := fnApplyOthersRow.holds Try.pinned (OpenSpec.ofChange fnApplyOthersSpec)

/-- ITS FALSE NEIGHBOUR: 'it returns false'. Refute it at one input. -/
def fnApplyOthersWrong : ChangeSpec := { name := "fnApplyOthers", fn := fun _ => fun
  | [d] => { results := [.lit (.bool false)], args := [d] }
  | _ => none }
def FnApplyOthersWrongFalsely : Prop := fnApplyOthersRow.holds Try.pinned (OpenSpec.ofChange fnApplyOthersWrong)

/-- 'laws.FnApplyBad': WHATEVER THE INPUT: true; the input reads as it did. -/
def fnApplyBadSpec : ChangeSpec := { name := "fnApplyBad", fn := fun _ => fun
  | [d] => { results := [.lit (.bool true)], args := [d] }
  | _ => none }
def fnApplyBadRow : OpenClaim := { program := "ytgkjbickphdeoaa", sum := "a3f2203efcd2dc692c1ae0e598f12b7f3dc9544df3c21061588aa10e464811ec", func := "loop.example/tiervolume/laws.FnApplyBad", spec := "fnApplyBad", unfollowed := true, recurses := true, apart := false }
def FnApplyBadSaid : Prop := fnApplyBadRow.holds Try.pinned (OpenSpec.ofChange fnApplyBadSpec)

/-- ITS FALSE NEIGHBOUR: 'it returns false'. Refute it at one input. -/
def fnApplyBadWrong : ChangeSpec := { name := "fnApplyBad", fn := fun _ => fun
  | [d] => { results := [.lit (.bool false)], args := [d] }
  | _ => none }
def FnApplyBadWrongFalsely : Prop := fnApplyBadRow.holds Try.pinned (OpenSpec.ofChange fnApplyBadWrong)

/-- 'laws.FnMapIn': WHATEVER THE INPUT: true; the input reads as it did. -/
def fnMapInSpec : ChangeSpec := { name := "fnMapIn", fn := fun _ => fun
  | [d] => { results := [.lit (.bool true)], args := [d] }
  | _ => none }
def fnMapInRow : OpenClaim := { program := "ytgkjbickphdeoaa", sum := "a3f2203efcd2dc692c1ae0e598f12b7f3dc9544df3c21061588aa10e464811ec", func := "loop.example/tiervolume/laws.FnMapIn", spec := "fnMapIn", unfollowed := true, recurses := true, apart := false }
def FnMapInSaid : Prop := fnMapInRow.holds Try.pinned (OpenSpec.ofChange fnMapInSpec)

/-- ITS FALSE NEIGHBOUR: 'it returns false'. Refute it at one input. -/
def fnMapInWrong : ChangeSpec := { name := "fnMapIn", fn := fun _ => fun
  | [d] => { results := [.lit (.bool false)], args := [d] }
  | _ => none }
def FnMapInWrongFalsely : Prop := fnMapInRow.holds Try.pinned (OpenSpec.ofChange fnMapInWrong)

/-- 'laws.FnMapIds': WHATEVER THE INPUT: true; the input reads as it did. -/
def fnMapIdsSpec : ChangeSpec := { name := "fnMapIds", fn := fun _ => fun
  | [d] => { results := [.lit (.bool true)], args := [d] }
  | _ => none }
def fnMapIdsRow : OpenClaim := { program := "ytgkjbickphdeoaa", sum := "a3f2203efcd2dc692c1ae0e598f12b7f3dc9544df3c21061588aa10e464811ec", func := "loop.example/tiervolume/laws.FnMapIds", spec := "fnMapIds", unfollowed := true, recurses := true, apart := false }
def FnMapIdsSaid : Prop := fnMapIdsRow.holds Try.pinned (OpenSpec.ofChange fnMapIdsSpec)

/-- ITS FALSE NEIGHBOUR: 'it returns false'. Refute it at one input. -/
def fnMapIdsWrong : ChangeSpec := { name := "fnMapIds", fn := fun _ => fun
  | [d] => { results := [.lit (.bool false)], args := [d] }
  | _ => none }
def FnMapIdsWrongFalsely : Prop := fnMapIdsRow.holds Try.pinned (OpenSpec.ofChange fnMapIdsWrong)

/-- 'laws.FnMapTier': WHATEVER THE INPUT: true; the input reads as it did. -/
def fnMapTierSpec : ChangeSpec := { name := "fnMapTier", fn := fun _ => fun
  | [d] => { results := [.lit (.bool true)], args := [d] }
  | _ => none }
def fnMapTierRow : OpenClaim := { program := "ytgkjbickphdeoaa", sum := "a3f2203efcd2dc692c1ae0e598f12b7f3dc9544df3c21061588aa10e464811ec", func := "loop.example/tiervolume/laws.FnMapTier", spec := "fnMapTier", unfollowed := true, recurses := true, apart := false }
def FnMapTierSaid : Prop := fnMapTierRow.holds Try.pinned (OpenSpec.ofChange fnMapTierSpec)

/-- ITS FALSE NEIGHBOUR: 'it returns false'. Refute it at one input. -/
def fnMapTierWrong : ChangeSpec := { name := "fnMapTier", fn := fun _ => fun
  | [d] => { results := [.lit (.bool false)], args := [d] }
  | _ => none }
def FnMapTierWrongFalsely : Prop := fnMapTierRow.holds Try.pinned (OpenSpec.ofChange fnMapTierWrong)

/-- 'laws.FnMapPart': WHATEVER THE INPUT: true; the input reads as it did. -/
def fnMapPartSpec : ChangeSpec := { name := "fnMapPart", fn := fun _ => fun
  | [d1, d2] => { results := [.lit (.bool true)], args := [d1, d2] }
  | _ => none }
def fnMapPartRow : OpenClaim := { program := "ytgkjbickphdeoaa", sum := "a3f2203efcd2dc692c1ae0e598f12b7f3dc9544df3c21061588aa10e464811ec", func := "loop.example/tiervolume/laws.FnMapPart", spec := "fnMapPart", apart := false }
def FnMapPartSaid : Prop := fnMapPartRow.holds Try.pinned (OpenSpec.ofChange fnMapPartSpec)

/-- ITS FALSE NEIGHBOUR: 'it returns false'. Refute it at one input. -/
def fnMapPartWrong : ChangeSpec := { name := "fnMapPart", fn := fun _ => fun
  | [d1, d2] => { results := [.lit (.bool false)], args := [d1, d2] }
  | _ => none }
def FnMapPartWrongFalsely : Prop := fnMapPartRow.holds Try.pinned (OpenSpec.ofChange fnMapPartWrong)

/- THE SECOND FORM. 'bulk': how many values and letters a reading holds, each counted each time it is reached (what is shared counts as often as it is met; a slice's spare places count too). A statement '..UptoSaid' is the law's where the arguments, and the package variables that the reading takes, are together of bulk at most 1048576: NARROWER than '..Said'. Prove '..Said' where nothing that the law and all that it calls make is longer than what came in: it says more and counts as full. Else prove '..UptoSaid'. A law counts once. -/
mutual
def uptoBulk {H : Type} : DataW H → Nat
  | .lit (.string bytes) => bytes.length + 1
  | .lit _ => 1
  | .nil => 1
  | .ptr d => uptoBulk d + 1
  | .slice elems spare => uptoBulkAll elems + uptoBulkAll spare + 1
  | .agg parts => uptoBulkAll parts + 1
  | .iface _ d => uptoBulk d + 1
  | .map entries => uptoBulkEntries entries + 1
  | .held _ => 1
def uptoBulkAll {H : Type} : List (DataW H) → Nat
  | [] => 0
  | d :: r => uptoBulk d + uptoBulkAll r
def uptoBulkEntries {H : Type} : List (Lit × DataW H) → Nat
  | [] => 0
  | x :: r => uptoBulkEntry x + uptoBulkEntries r
def uptoBulkEntry {H : Type} : Lit × DataW H → Nat
  | (.string bytes, d) => bytes.length + uptoBulk d + 1
  | (_, d) => uptoBulk d + 1
 end
def uptoSmall : (H : Type) → List (DataW H) → Bool := fun _ ds => decide (uptoBulkAll ds ≤ 1048576)
def OpenSpec.upto (s : _root_.Go.ChangeSpec) : _root_.Go.OpenSpec := { _root_.Go.OpenSpec.ofChange s with cond := some uptoSmall }

/-- 'laws.FnApply', WHERE WHAT IT READS IS OF BULK AT MOST 1048576: true; the input reads as it did. -/
def fnApplyUptoRow : OpenClaim := { program := "ytgkjbickphdeoaa", sum := "a3f2203efcd2dc692c1ae0e598f12b7f3dc9544df3c21061588aa10e464811ec", func := "loop.example/tiervolume/laws.FnApply", spec := "fnApply", unfollowed := true, recurses := true, apart := false, narrowed := true }
def FnApplyUptoSaid : Prop := fnApplyUptoRow.holds Try.pinned (OpenSpec.upto fnApplySpec)

/-- 'laws.FnApplyHot', WHERE WHAT IT READS IS OF BULK AT MOST 1048576: true; the input reads as it did. -/
def fnApplyHotUptoRow : OpenClaim := { program := "ytgkjbickphdeoaa", sum := "a3f2203efcd2dc692c1ae0e598f12b7f3dc9544df3c21061588aa10e464811ec", func := "loop.example/tiervolume/laws.FnApplyHot", spec := "fnApplyHot", unfollowed := true, recurses := true, apart := false, narrowed := true }
def FnApplyHotUptoSaid : Prop := fnApplyHotUptoRow.holds Try.pinned (OpenSpec.upto fnApplyHotSpec)

/-- 'laws.FnApplyWord', WHERE WHAT IT READS IS OF BULK AT MOST 1048576: true; the input reads as it did. -/
def fnApplyWordUptoRow : OpenClaim := { program := "ytgkjbickphdeoaa", sum := "a3f2203efcd2dc692c1ae0e598f12b7f3dc9544df3c21061588aa10e464811ec", func := "loop.example/tiervolume/laws.FnApplyWord", spec := "fnApplyWord", unfollowed := true, recurses := true, apart := false, narrowed := true }
def FnApplyWordUptoSaid : Prop := fnApplyWordUptoRow.holds Try.pinned (OpenSpec.upto fnApplyWordSpec)

/-- 'laws.FnApplyCold', WHERE WHAT IT READS IS OF BULK AT MOST 1048576: true; the input reads as it did. -/
def fnApplyColdUptoRow : OpenClaim := { program := "ytgkjbickphdeoaa", sum := "a3f2203efcd2dc692c1ae0e598f12b7f3dc9544df3c21061588aa10e464811ec", func := "loop.example/tiervolume/laws.FnApplyCold", spec := "fnApplyCold", unfollowed := true, recurses := true, apart := false, narrowed := true }
def FnApplyColdUptoSaid : Prop := fnApplyColdUptoRow.holds Try.pinned (OpenSpec.upto fnApplyColdSpec)

/-- 'laws.FnApplyOthers', WHERE WHAT IT READS IS OF BULK AT MOST 1048576: true; the input reads as it did. -/
def fnApplyOthersUptoRow : OpenClaim := { program := "ytgkjbickphdeoaa", sum := "a3f2203efcd2dc692c1ae0e598f12b7f3dc9544df3c21061588aa10e464811ec", func := "loop.example/tiervolume/laws.FnApplyOthers", spec := "fnApplyOthers", unfollowed := true, recurses := true, apart := false, narrowed := true }
def FnApplyOthersUptoSaid : Prop := fnApplyOthersUptoRow.holds Try.pinned (OpenSpec.upto fnApplyOthersSpec)

/-- 'laws.FnApplyBad', WHERE WHAT IT READS IS OF BULK AT MOST 1048576: true; the input reads as it did. -/
def fnApplyBadUptoRow : OpenClaim := { program := "ytgkjbickphdeoaa", sum := "a3f2203efcd2dc692c1ae0e598f12b7f3dc9544df3c21061588aa10e464811ec", func := "loop.example/tiervolume/laws.FnApplyBad", spec := "fnApplyBad", unfollowed := true, recurses := true, apart := false, narrowed := true }
def FnApplyBadUptoSaid : Prop := fnApplyBadUptoRow.holds Try.pinned (OpenSpec.upto fnApplyBadSpec)

/-- 'laws.FnMapIn', WHERE WHAT IT READS IS OF BULK AT MOST 1048576: true; the input reads as it did. -/
def fnMapInUptoRow : OpenClaim := { program := "ytgkjbickphdeoaa", sum := "a3f2203efcd2dc692c1ae0e598f12b7f3dc9544df3c21061588aa10e464811ec", func := "loop.example/tiervolume/laws.FnMapIn", spec := "fnMapIn", unfollowed := true, recurses := true, apart := false, narrowed := true }
def FnMapInUptoSaid : Prop := fnMapInUptoRow.holds Try.pinned (OpenSpec.upto fnMapInSpec)

/-- 'laws.FnMapIds', WHERE WHAT IT READS IS OF BULK AT MOST 1048576: true; the input reads as it did. -/
def fnMapIdsUptoRow : OpenClaim := { program := "ytgkjbickphdeoaa", sum := "a3f2203efcd2dc692c1ae0e598f12b7f3dc9544df3c21061588aa10e464811ec", func := "loop.example/tiervolume/laws.FnMapIds", spec := "fnMapIds", unfollowed := true, recurses := true, apart := false, narrowed := true }
def FnMapIdsUptoSaid : Prop := fnMapIdsUptoRow.holds Try.pinned (OpenSpec.upto fnMapIdsSpec)

/-- 'laws.FnMapTier', WHERE WHAT IT READS IS OF BULK AT MOST 1048576: true; the input reads as it did. -/
def fnMapTierUptoRow : OpenClaim := { program := "ytgkjbickphdeoaa", sum := "a3f2203efcd2dc692c1ae0e598f12b7f3dc9544df3c21061588aa10e464811ec", func := "loop.example/tiervolume/laws.FnMapTier", spec := "fnMapTier", unfollowed := true, recurses := true, apart := false, narrowed := true }
def FnMapTierUptoSaid : Prop := fnMapTierUptoRow.holds Try.pinned (OpenSpec.upto fnMapTierSpec)

/-- 'laws.FnMapPart', WHERE WHAT IT READS IS OF BULK AT MOST 1048576: true; the input reads as it did. -/
def fnMapPartUptoRow : OpenClaim := { program := "ytgkjbickphdeoaa", sum := "a3f2203efcd2dc692c1ae0e598f12b7f3dc9544df3c21061588aa10e464811ec", func := "loop.example/tiervolume/laws.FnMapPart", spec := "fnMapPart", apart := false, narrowed := true }
def FnMapPartUptoSaid : Prop := fnMapPartUptoRow.holds Try.pinned (OpenSpec.upto fnMapPartSpec)

end Rows
end Go.Proofs.Ytgkjbickphdeoaa
