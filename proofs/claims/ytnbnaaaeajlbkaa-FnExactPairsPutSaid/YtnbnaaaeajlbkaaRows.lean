/-
  No cell of these rows narrows 'for every input' (looked for: loops, veiled, ifaces, maps, wideKeys, modest, calm, conditions, laid).
  DERIVED. THE GIVEN ROWS OF THIS SEAT. 7 by the template 'for every input the law returns true; each argument reads behind the call as it read before'; 0 by the template 'total and deterministic' (their statements: YtnbnaaaeajlbkaaTotals.lean).
  GIVEN WITH THE SEED: the statements are not yours to turn. If you find one false, say at which input.
  Laid BY PROGRAM, IN A SANDBOX (cutbox-rows.mjs): the forced cells as the released guide's own fill.sh prints them over the translation 0d25c4fef7ce887e… (all of the seat's roots in one cut). By AI agents, Wed Nov 11 2026. No macro, syntax, notation, axiom, sorry.
-/
import Derived.Test.YtnbnaaaeajlbkaaChecked
import GoSem.Claim
import GoSem.ClaimJoined
import GoSem.ClaimMapViews
import Derived.JoinedTies
import Derived.KernelRfl
namespace Go.Proofs.Ytnbnaaaeajlbkaa
/- THE CELL 'sum', in the pinned program and in every row, IS THE sha256 OF THE DUMP (.gsa) THAT YtnbnaaaeajlbkaaProg.lean LOADS. Nothing in Lean hashes anything: it is a label: what it is worth is what the hold of that sum in a sandbox is worth. -/
noncomputable def Try.pinned : Pinned := { name := "ytnbnaaaeajlbkaa", sum := "0d25c4fef7ce887e68e17576d82782c55b740d219a172d6a4f4cf770c3f11e90", checked := Try.checked }
namespace Rows
def none {H : Type} : Left H := { results := [], args := [] }

/-- 'laws.FnPairsPut': WHATEVER THE INPUT: true; the input reads as it did. -/
def fnPairsPutSpec : ChangeSpec := { name := "fnPairsPut", fn := fun _ => fun
  | [d] => { results := [.lit (.bool true)], args := [d] }
  | _ => none }
def fnPairsPutRow : OpenClaim := { program := "ytnbnaaaeajlbkaa", sum := "0d25c4fef7ce887e68e17576d82782c55b740d219a172d6a4f4cf770c3f11e90", func := "loop.example/tiervolume/laws.FnPairsPut", spec := "fnPairsPut", unfollowed := true, recurses := true, apart := false }
def FnPairsPutSaid : Prop := fnPairsPutRow.holds Try.pinned (OpenSpec.ofChange fnPairsPutSpec)

/-- ITS FALSE NEIGHBOUR: 'it returns false'. Refute it at one input. -/
def fnPairsPutWrong : ChangeSpec := { name := "fnPairsPut", fn := fun _ => fun
  | [d] => { results := [.lit (.bool false)], args := [d] }
  | _ => none }
def FnPairsPutWrongFalsely : Prop := fnPairsPutRow.holds Try.pinned (OpenSpec.ofChange fnPairsPutWrong)

/-- 'laws.FnPairsGet': WHATEVER THE INPUT: true; the input reads as it did. -/
def fnPairsGetSpec : ChangeSpec := { name := "fnPairsGet", fn := fun _ => fun
  | [d] => { results := [.lit (.bool true)], args := [d] }
  | _ => none }
def fnPairsGetRow : OpenClaim := { program := "ytnbnaaaeajlbkaa", sum := "0d25c4fef7ce887e68e17576d82782c55b740d219a172d6a4f4cf770c3f11e90", func := "loop.example/tiervolume/laws.FnPairsGet", spec := "fnPairsGet", unfollowed := true, recurses := true, apart := false }
def FnPairsGetSaid : Prop := fnPairsGetRow.holds Try.pinned (OpenSpec.ofChange fnPairsGetSpec)

/-- ITS FALSE NEIGHBOUR: 'it returns false'. Refute it at one input. -/
def fnPairsGetWrong : ChangeSpec := { name := "fnPairsGet", fn := fun _ => fun
  | [d] => { results := [.lit (.bool false)], args := [d] }
  | _ => none }
def FnPairsGetWrongFalsely : Prop := fnPairsGetRow.holds Try.pinned (OpenSpec.ofChange fnPairsGetWrong)

/-- 'laws.FnPairsPart': WHATEVER THE INPUT: true; the input reads as it did. -/
def fnPairsPartSpec : ChangeSpec := { name := "fnPairsPart", fn := fun _ => fun
  | [d1, d2] => { results := [.lit (.bool true)], args := [d1, d2] }
  | _ => none }
def fnPairsPartRow : OpenClaim := { program := "ytnbnaaaeajlbkaa", sum := "0d25c4fef7ce887e68e17576d82782c55b740d219a172d6a4f4cf770c3f11e90", func := "loop.example/tiervolume/laws.FnPairsPart", spec := "fnPairsPart", unfollowed := true, recurses := true, apart := false }
def FnPairsPartSaid : Prop := fnPairsPartRow.holds Try.pinned (OpenSpec.ofChange fnPairsPartSpec)

/-- ITS FALSE NEIGHBOUR: 'it returns false'. Refute it at one input. -/
def fnPairsPartWrong : ChangeSpec := { name := "fnPairsPart", fn := fun _ => fun
  | [d1, d2] => { results := [.lit (.bool false)], args := [d1, d2] }
  | _ => none }
def FnPairsPartWrongFalsely : Prop := fnPairsPartRow.holds Try.pinned (OpenSpec.ofChange fnPairsPartWrong)

/-- 'laws.FnPairsOdd': WHATEVER THE INPUT: true; the input reads as it did. -/
def fnPairsOddSpec : ChangeSpec := { name := "fnPairsOdd", fn := fun _ => fun
  | [d] => { results := [.lit (.bool true)], args := [d] }
  | _ => none }
def fnPairsOddRow : OpenClaim := { program := "ytnbnaaaeajlbkaa", sum := "0d25c4fef7ce887e68e17576d82782c55b740d219a172d6a4f4cf770c3f11e90", func := "loop.example/tiervolume/laws.FnPairsOdd", spec := "fnPairsOdd", unfollowed := true, recurses := true, apart := false }
def FnPairsOddSaid : Prop := fnPairsOddRow.holds Try.pinned (OpenSpec.ofChange fnPairsOddSpec)

/-- ITS FALSE NEIGHBOUR: 'it returns false'. Refute it at one input. -/
def fnPairsOddWrong : ChangeSpec := { name := "fnPairsOdd", fn := fun _ => fun
  | [d] => { results := [.lit (.bool false)], args := [d] }
  | _ => none }
def FnPairsOddWrongFalsely : Prop := fnPairsOddRow.holds Try.pinned (OpenSpec.ofChange fnPairsOddWrong)

/-- 'laws.FnPairsValue': WHATEVER THE INPUT: true; the input reads as it did. -/
def fnPairsValueSpec : ChangeSpec := { name := "fnPairsValue", fn := fun _ => fun
  | [d] => { results := [.lit (.bool true)], args := [d] }
  | _ => none }
def fnPairsValueRow : OpenClaim := { program := "ytnbnaaaeajlbkaa", sum := "0d25c4fef7ce887e68e17576d82782c55b740d219a172d6a4f4cf770c3f11e90", func := "loop.example/tiervolume/laws.FnPairsValue", spec := "fnPairsValue", unfollowed := true, recurses := true, apart := false }
def FnPairsValueSaid : Prop := fnPairsValueRow.holds Try.pinned (OpenSpec.ofChange fnPairsValueSpec)

/-- ITS FALSE NEIGHBOUR: 'it returns false'. Refute it at one input. -/
def fnPairsValueWrong : ChangeSpec := { name := "fnPairsValue", fn := fun _ => fun
  | [d] => { results := [.lit (.bool false)], args := [d] }
  | _ => none }
def FnPairsValueWrongFalsely : Prop := fnPairsValueRow.holds Try.pinned (OpenSpec.ofChange fnPairsValueWrong)

/-- 'laws.FnExactPairsPut': WHATEVER THE INPUT: true; the input reads as it did. -/
def fnExactPairsPutSpec : ChangeSpec := { name := "fnExactPairsPut", fn := fun _ => fun
  | [d] => { results := [.lit (.bool true)], args := [d] }
  | _ => none }
def fnExactPairsPutRow : OpenClaim := { program := "ytnbnaaaeajlbkaa", sum := "0d25c4fef7ce887e68e17576d82782c55b740d219a172d6a4f4cf770c3f11e90", func := "loop.example/tiervolume/laws.FnExactPairsPut", spec := "fnExactPairsPut", unfollowed := true, recurses := true, apart := false }
def FnExactPairsPutSaid : Prop := fnExactPairsPutRow.holds Try.pinned (OpenSpec.ofChange fnExactPairsPutSpec)

/-- ITS FALSE NEIGHBOUR: 'it returns false'. Refute it at one input. -/
def fnExactPairsPutWrong : ChangeSpec := { name := "fnExactPairsPut", fn := fun _ => fun
  | [d] => { results := [.lit (.bool false)], args := [d] }
  | _ => none }
def FnExactPairsPutWrongFalsely : Prop := fnExactPairsPutRow.holds Try.pinned (OpenSpec.ofChange fnExactPairsPutWrong)

/-- 'laws.FnExactPairsGet': WHATEVER THE INPUT: true; the input reads as it did. -/
def fnExactPairsGetSpec : ChangeSpec := { name := "fnExactPairsGet", fn := fun _ => fun
  | [d] => { results := [.lit (.bool true)], args := [d] }
  | _ => none }
def fnExactPairsGetRow : OpenClaim := { program := "ytnbnaaaeajlbkaa", sum := "0d25c4fef7ce887e68e17576d82782c55b740d219a172d6a4f4cf770c3f11e90", func := "loop.example/tiervolume/laws.FnExactPairsGet", spec := "fnExactPairsGet", unfollowed := true, recurses := true, apart := false }
def FnExactPairsGetSaid : Prop := fnExactPairsGetRow.holds Try.pinned (OpenSpec.ofChange fnExactPairsGetSpec)

/-- ITS FALSE NEIGHBOUR: 'it returns false'. Refute it at one input. -/
def fnExactPairsGetWrong : ChangeSpec := { name := "fnExactPairsGet", fn := fun _ => fun
  | [d] => { results := [.lit (.bool false)], args := [d] }
  | _ => none }
def FnExactPairsGetWrongFalsely : Prop := fnExactPairsGetRow.holds Try.pinned (OpenSpec.ofChange fnExactPairsGetWrong)

/- THE SECOND FORM. 'bulk': how many values and letters a reading holds, each counted each time it is reached (what is shared counts as often as it is met; a slice's spare places count too). A statement '..UptoSaid' is the law's where the arguments, and the package variables that the reading takes, are together of bulk at most 1048576: NARROWER than '..Said'. Prove '..Said' where nothing that the law and all that it calls make is longer than what came in: it says more and counts as full. Else prove '..UptoSaid'. A law counts once. -/
mutual
def uptoBulk {H : Type} : DataW H → Nat
  | .lit (.string bytes) => bytes.length + 1
  | .lit _ => 1
  | .nil => 1
  | .ptr d => uptoBulk d + 1
  | .slice elems spare => uptoBulkAll elems + uptoBulkAll spare + 1
  | .agg parts => uptoBulkAll parts + 1
  | .iface _ d => uptoBulk d + 1
  | .map entries => uptoBulkEntries entries + 1
  | .held _ => 1
def uptoBulkAll {H : Type} : List (DataW H) → Nat
  | [] => 0
  | d :: r => uptoBulk d + uptoBulkAll r
def uptoBulkEntries {H : Type} : List (Lit × DataW H) → Nat
  | [] => 0
  | x :: r => uptoBulkEntry x + uptoBulkEntries r
def uptoBulkEntry {H : Type} : Lit × DataW H → Nat
  | (.string bytes, d) => bytes.length + uptoBulk d + 1
  | (_, d) => uptoBulk d + 1
 end
def uptoSmall : (H : Type) → List (DataW H) → Bool := fun _ ds => decide (uptoBulkAll ds ≤ 1048576)
def OpenSpec.upto (s : _root_.Go.ChangeSpec) : _root_.Go.OpenSpec := { _root_.Go.OpenSpec.ofChange s with cond := some uptoSmall }

/-- 'laws.FnPairsPut', WHERE WHAT IT READS IS OF BULK AT MOST 1048576: true; the input reads as it did. -/
def fnPairsPutUptoRow : OpenClaim := { program := "ytnbnaaaeajlbkaa", sum := "0d25c4fef7ce887e68e17576d82782c55b740d219a172d6a4f4cf770c3f11e90", func := "loop.example/tiervolume/laws.FnPairsPut", spec := "fnPairsPut", unfollowed := true, recurses := true, apart := false, narrowed := true }
def FnPairsPutUptoSaid : Prop := fnPairsPutUptoRow.holds Try.pinned (OpenSpec.upto fnPairsPutSpec)

/-- 'laws.FnPairsGet', WHERE WHAT IT READS IS OF BULK AT MOST 1048576: true; the input reads as it did. -/
def fnPairsGetUptoRow : OpenClaim := { program := "ytnbnaaaeajlbkaa", sum := "0d25c4fef7ce887e68e17576d82782c55b740d219a172d6a4f4cf770c3f11e90", func := "loop.example/tiervolume/laws.FnPairsGet", spec := "fnPairsGet", unfollowed := true, recurses := true, apart := false, narrowed := true }
def FnPairsGetUptoSaid : Prop := fnPairsGetUptoRow.holds Try.pinned (OpenSpec.upto fnPairsGetSpec)

/-- 'laws.FnPairsPart', WHERE WHAT IT READS IS OF BULK AT MOST 1048576: true; the input reads as it did. -/
def fnPairsPartUptoRow : OpenClaim := { program := "ytnbnaaaeajlbkaa", sum := "0d25c4fef7ce887e68e17576d82782c55b740d219a172d6a4f4cf770c3f11e90", func := "loop.example/tiervolume/laws.FnPairsPart", spec := "fnPairsPart", unfollowed := true, recurses := true, apart := false, narrowed := true }
def FnPairsPartUptoSaid : Prop := fnPairsPartUptoRow.holds Try.pinned (OpenSpec.upto fnPairsPartSpec)

/-- 'laws.FnPairsOdd', WHERE WHAT IT READS IS OF BULK AT MOST 1048576: true; the input reads as it did. -/
def fnPairsOddUptoRow : OpenClaim := { program := "ytnbnaaaeajlbkaa", sum := "0d25c4fef7ce887e68e17576d82782c55b740d219a172d6a4f4cf770c3f11e90", func := "loop.example/tiervolume/laws.FnPairsOdd", spec := "fnPairsOdd", unfollowed := true, recurses := true, apart := false, narrowed := true }
def FnPairsOddUptoSaid : Prop := fnPairsOddUptoRow.holds Try.pinned (OpenSpec.upto fnPairsOddSpec)

/-- 'laws.FnPairsValue', WHERE WHAT IT READS IS OF BULK AT MOST 1048576: true; the input reads as it did. -/
def fnPairsValueUptoRow : OpenClaim := { program := "ytnbnaaaeajlbkaa", sum := "0d25c4fef7ce887e68e17576d82782c55b740d219a172d6a4f4cf770c3f11e90", func := "loop.example/tiervolume/laws.FnPairsValue", spec := "fnPairsValue", unfollowed := true, recurses := true, apart := false, narrowed := true }
def FnPairsValueUptoSaid : Prop := fnPairsValueUptoRow.holds Try.pinned (OpenSpec.upto fnPairsValueSpec)

/-- 'laws.FnExactPairsPut', WHERE WHAT IT READS IS OF BULK AT MOST 1048576: true; the input reads as it did. -/
def fnExactPairsPutUptoRow : OpenClaim := { program := "ytnbnaaaeajlbkaa", sum := "0d25c4fef7ce887e68e17576d82782c55b740d219a172d6a4f4cf770c3f11e90", func := "loop.example/tiervolume/laws.FnExactPairsPut", spec := "fnExactPairsPut", unfollowed := true, recurses := true, apart := false, narrowed := true }
def FnExactPairsPutUptoSaid : Prop := fnExactPairsPutUptoRow.holds Try.pinned (OpenSpec.upto fnExactPairsPutSpec)

/-- 'laws.FnExactPairsGet', WHERE WHAT IT READS IS OF BULK AT MOST 1048576: true; the input reads as it did. -/
def fnExactPairsGetUptoRow : OpenClaim := { program := "ytnbnaaaeajlbkaa", sum := "0d25c4fef7ce887e68e17576d82782c55b740d219a172d6a4f4cf770c3f11e90", func := "loop.example/tiervolume/laws.FnExactPairsGet", spec := "fnExactPairsGet", unfollowed := true, recurses := true, apart := false, narrowed := true }
def FnExactPairsGetUptoSaid : Prop := fnExactPairsGetUptoRow.holds Try.pinned (OpenSpec.upto fnExactPairsGetSpec)

end Rows
end Go.Proofs.Ytnbnaaaeajlbkaa
