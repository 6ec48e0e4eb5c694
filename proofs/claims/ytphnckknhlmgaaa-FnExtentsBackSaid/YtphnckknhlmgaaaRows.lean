/-
  No cell of these rows narrows 'for every input' (looked for: loops, veiled, ifaces, maps, wideKeys, modest, calm, conditions, laid).
  DERIVED. THE GIVEN ROWS OF THIS SEAT. 7 by the template 'for every input the law returns true; each argument reads behind the call as it read before'; 0 by the template 'total and deterministic' (their statements: YtphnckknhlmgaaaTotals.lean).
  GIVEN WITH THE SEED: the statements are not yours to turn. If you find one false, say at which input.
  Laid BY PROGRAM, IN A SANDBOX (cutbox-rows.mjs): the forced cells as the released guide's own fill.sh prints them over the translation e250ed162543a90d… (all of the seat's roots in one cut). By AI agents, Wed Nov 11 2026. No macro, syntax, notation, axiom, sorry.
-/
import Derived.Test.YtphnckknhlmgaaaChecked
import GoSem.Claim
import GoSem.ClaimJoined
import GoSem.ClaimMapViews
import Derived.JoinedTies
import Derived.KernelRfl
namespace Go.Proofs.Ytphnckknhlmgaaa
/- THE CELL 'sum', in the pinned program and in every row, IS THE sha256 OF THE DUMP (.gsa) THAT YtphnckknhlmgaaaProg.lean LOADS. Nothing in Lean hashes anything: it is a label: what it is worth is what the hold of that sum in a sandbox is worth. -/
noncomputable def Try.pinned : Pinned := { name := "ytphnckknhlmgaaa", sum := "e250ed162543a90d71ff8332274758b72551d4bcfe50e1605c9b42e746ea7fdd", checked := Try.checked }
namespace Rows
def none {H : Type} : Left H := { results := [], args := [] }

/-- 'laws.FnExtents': WHATEVER THE INPUT: true; the input reads as it did. -/
def fnExtentsSpec : ChangeSpec := { name := "fnExtents", fn := fun _ => fun
  | [d] => { results := [.lit (.bool true)], args := [d] }
  | _ => none }
def fnExtentsRow : OpenClaim := { program := "ytphnckknhlmgaaa", sum := "e250ed162543a90d71ff8332274758b72551d4bcfe50e1605c9b42e746ea7fdd", func := "loop.example/tiervolume/laws.FnExtents", spec := "fnExtents", unfollowed := true, recurses := true, apart := false }
def FnExtentsSaid : Prop := fnExtentsRow.holds Try.pinned (OpenSpec.ofChange fnExtentsSpec)

/-- ITS FALSE NEIGHBOUR: 'it returns false'. Refute it at one input. -/
def fnExtentsWrong : ChangeSpec := { name := "fnExtents", fn := fun _ => fun
  | [d] => { results := [.lit (.bool false)], args := [d] }
  | _ => none }
def FnExtentsWrongFalsely : Prop := fnExtentsRow.holds Try.pinned (OpenSpec.ofChange fnExtentsWrong)

/-- 'laws.FnExtentsBack': WHATEVER THE INPUT: true; the input reads as it did. -/
def fnExtentsBackSpec : ChangeSpec := { name := "fnExtentsBack", fn := fun _ => fun
  | [d] => { results := [.lit (.bool true)], args := [d] }
  | _ => none }
def fnExtentsBackRow : OpenClaim := { program := "ytphnckknhlmgaaa", sum := "e250ed162543a90d71ff8332274758b72551d4bcfe50e1605c9b42e746ea7fdd", func := "loop.example/tiervolume/laws.FnExtentsBack", spec := "fnExtentsBack", unfollowed := true, recurses := true, apart := false }
def FnExtentsBackSaid : Prop := fnExtentsBackRow.holds Try.pinned (OpenSpec.ofChange fnExtentsBackSpec)

/-- ITS FALSE NEIGHBOUR: 'it returns false'. Refute it at one input. -/
def fnExtentsBackWrong : ChangeSpec := { name := "fnExtentsBack", fn := fun _ => fun
  | [d] => { results := [.lit (.bool false)], args := [d] }
  | _ => none }
def FnExtentsBackWrongFalsely : Prop := fnExtentsBackRow.holds Try.pinned (OpenSpec.ofChange fnExtentsBackWrong)

/-- 'laws.FnExtentsJoin': WHATEVER THE INPUT: true; the input reads as it did. -/
def fnExtentsJoinSpec : ChangeSpec := { name := "fnExtentsJoin", fn := fun _ => fun
  | [d] => { results := [.lit (.bool true)], args := [d] }
  | _ => none }
def fnExtentsJoinRow : OpenClaim := { program := "ytphnckknhlmgaaa", sum := "e250ed162543a90d71ff8332274758b72551d4bcfe50e1605c9b42e746ea7fdd", func := "loop.example/tiervolume/laws.FnExtentsJoin", spec := "fnExtentsJoin", apart := false }
def FnExtentsJoinSaid : Prop := fnExtentsJoinRow.holds Try.pinned (OpenSpec.ofChange fnExtentsJoinSpec)

/-- ITS FALSE NEIGHBOUR: 'it returns false'. Refute it at one input. -/
def fnExtentsJoinWrong : ChangeSpec := { name := "fnExtentsJoin", fn := fun _ => fun
  | [d] => { results := [.lit (.bool false)], args := [d] }
  | _ => none }
def FnExtentsJoinWrongFalsely : Prop := fnExtentsJoinRow.holds Try.pinned (OpenSpec.ofChange fnExtentsJoinWrong)

/-- 'laws.FnExtentsWithout': WHATEVER THE INPUT: true; the input reads as it did. -/
def fnExtentsWithoutSpec : ChangeSpec := { name := "fnExtentsWithout", fn := fun _ => fun
  | [d] => { results := [.lit (.bool true)], args := [d] }
  | _ => none }
def fnExtentsWithoutRow : OpenClaim := { program := "ytphnckknhlmgaaa", sum := "e250ed162543a90d71ff8332274758b72551d4bcfe50e1605c9b42e746ea7fdd", func := "loop.example/tiervolume/laws.FnExtentsWithout", spec := "fnExtentsWithout", apart := false }
def FnExtentsWithoutSaid : Prop := fnExtentsWithoutRow.holds Try.pinned (OpenSpec.ofChange fnExtentsWithoutSpec)

/-- ITS FALSE NEIGHBOUR: 'it returns false'. Refute it at one input. -/
def fnExtentsWithoutWrong : ChangeSpec := { name := "fnExtentsWithout", fn := fun _ => fun
  | [d] => { results := [.lit (.bool false)], args := [d] }
  | _ => none }
def FnExtentsWithoutWrongFalsely : Prop := fnExtentsWithoutRow.holds Try.pinned (OpenSpec.ofChange fnExtentsWithoutWrong)

/-- 'laws.FnExtentsParts': WHATEVER THE INPUT: true; the input reads as it did. -/
def fnExtentsPartsSpec : ChangeSpec := { name := "fnExtentsParts", fn := fun _ => fun
  | [d] => { results := [.lit (.bool true)], args := [d] }
  | _ => none }
def fnExtentsPartsRow : OpenClaim := { program := "ytphnckknhlmgaaa", sum := "e250ed162543a90d71ff8332274758b72551d4bcfe50e1605c9b42e746ea7fdd", func := "loop.example/tiervolume/laws.FnExtentsParts", spec := "fnExtentsParts", apart := false }
def FnExtentsPartsSaid : Prop := fnExtentsPartsRow.holds Try.pinned (OpenSpec.ofChange fnExtentsPartsSpec)

/-- ITS FALSE NEIGHBOUR: 'it returns false'. Refute it at one input. -/
def fnExtentsPartsWrong : ChangeSpec := { name := "fnExtentsParts", fn := fun _ => fun
  | [d] => { results := [.lit (.bool false)], args := [d] }
  | _ => none }
def FnExtentsPartsWrongFalsely : Prop := fnExtentsPartsRow.holds Try.pinned (OpenSpec.ofChange fnExtentsPartsWrong)

/-- 'laws.FnExtentsFew': WHATEVER THE INPUT: true; the input reads as it did. -/
def fnExtentsFewSpec : ChangeSpec := { name := "fnExtentsFew", fn := fun _ => fun
  | [d] => { results := [.lit (.bool true)], args := [d] }
  | _ => none }
def fnExtentsFewRow : OpenClaim := { program := "ytphnckknhlmgaaa", sum := "e250ed162543a90d71ff8332274758b72551d4bcfe50e1605c9b42e746ea7fdd", func := "loop.example/tiervolume/laws.FnExtentsFew", spec := "fnExtentsFew", apart := false }
def FnExtentsFewSaid : Prop := fnExtentsFewRow.holds Try.pinned (OpenSpec.ofChange fnExtentsFewSpec)

/-- ITS FALSE NEIGHBOUR: 'it returns false'. Refute it at one input. -/
def fnExtentsFewWrong : ChangeSpec := { name := "fnExtentsFew", fn := fun _ => fun
  | [d] => { results := [.lit (.bool false)], args := [d] }
  | _ => none }
def FnExtentsFewWrongFalsely : Prop := fnExtentsFewRow.holds Try.pinned (OpenSpec.ofChange fnExtentsFewWrong)

/-- 'laws.FnExtentsPart': WHATEVER THE INPUT: true; the input reads as it did. -/
def fnExtentsPartSpec : ChangeSpec := { name := "fnExtentsPart", fn := fun _ => fun
  | [d1, d2] => { results := [.lit (.bool true)], args := [d1, d2] }
  | _ => none }
def fnExtentsPartRow : OpenClaim := { program := "ytphnckknhlmgaaa", sum := "e250ed162543a90d71ff8332274758b72551d4bcfe50e1605c9b42e746ea7fdd", func := "loop.example/tiervolume/laws.FnExtentsPart", spec := "fnExtentsPart", apart := false }
def FnExtentsPartSaid : Prop := fnExtentsPartRow.holds Try.pinned (OpenSpec.ofChange fnExtentsPartSpec)

/-- ITS FALSE NEIGHBOUR: 'it returns false'. Refute it at one input. -/
def fnExtentsPartWrong : ChangeSpec := { name := "fnExtentsPart", fn := fun _ => fun
  | [d1, d2] => { results := [.lit (.bool false)], args := [d1, d2] }
  | _ => none }
def FnExtentsPartWrongFalsely : Prop := fnExtentsPartRow.holds Try.pinned (OpenSpec.ofChange fnExtentsPartWrong)

/- THE SECOND FORM. 'bulk': how many values and letters a reading holds, each counted each time it is reached (what is shared counts as often as it is met; a slice's spare places count too). A statement '..UptoSaid' is the law's where the arguments, and the package variables that the reading takes, are together of bulk at most 1048576: NARROWER than '..Said'. Prove '..Said' where nothing that the law and all that it calls make is longer than what came in: it says more and counts as full. Else prove '..UptoSaid'. A law counts once. -/
mutual
def uptoBulk {H : Type} : DataW H → Nat
  | .lit (.string bytes) => bytes.length + 1
  | .lit _ => 1
  | .nil => 1
  | .ptr d => uptoBulk d + 1
  | .slice elems spare => uptoBulkAll elems + uptoBulkAll spare + 1
  | .agg parts => uptoBulkAll parts + 1
  | .iface _ d => uptoBulk d + 1
  | .map entries => uptoBulkEntries entries + 1
  | .held _ => 1
def uptoBulkAll {H : Type} : List (DataW H) → Nat
  | [] => 0
  | d :: r => uptoBulk d + uptoBulkAll r
def uptoBulkEntries {H : Type} : List (Lit × DataW H) → Nat
  | [] => 0
  | x :: r => uptoBulkEntry x + uptoBulkEntries r
def uptoBulkEntry {H : Type} : Lit × DataW H → Nat
  | (.string bytes, d) => bytes.length + uptoBulk d + 1
  | (_, d) => uptoBulk d + 1
 end
def uptoSmall : (H : Type) → List (DataW H) → Bool := fun _ ds => decide (uptoBulkAll ds ≤ 1048576)
def OpenSpec.upto (s : _root_.Go.ChangeSpec) : _root_.Go.OpenSpec := { _root_.Go.OpenSpec.ofChange s with cond := some uptoSmall }

/-- 'laws.FnExtents', WHERE WHAT IT READS IS OF BULK AT MOST 1048576: true; the input reads as it did. -/
def fnExtentsUptoRow : OpenClaim := { program := "ytphnckknhlmgaaa", sum := "e250ed162543a90d71ff8332274758b72551d4bcfe50e1605c9b42e746ea7fdd", func := "loop.example/tiervolume/laws.FnExtents", spec := "fnExtents", unfollowed := true, recurses := true, apart := false, narrowed := true }
def FnExtentsUptoSaid : Prop := fnExtentsUptoRow.holds Try.pinned (OpenSpec.upto fnExtentsSpec)

/-- 'laws.FnExtentsBack', WHERE WHAT IT READS IS OF BULK AT MOST 1048576: true; the input reads as it did. -/
def fnExtentsBackUptoRow : OpenClaim := { program := "ytphnckknhlmgaaa", sum := "e250ed162543a90d71ff8332274758b72551d4bcfe50e1605c9b42e746ea7fdd", func := "loop.example/tiervolume/laws.FnExtentsBack", spec := "fnExtentsBack", unfollowed := true, recurses := true, apart := false, narrowed := true }
def FnExtentsBackUptoSaid : Prop := fnExtentsBackUptoRow.holds Try.pinned (OpenSpec.upto fnExtentsBackSpec)

/-- 'laws.FnExtentsJoin', WHERE WHAT IT READS IS OF BULK AT MOST 1048576: true; the input reads as it did. -/
def fnExtentsJoinUptoRow : OpenClaim := { program := "ytphnckknhlmgaaa", sum := "e250ed162543a90d71ff8332274758b72551d4bcfe50e1605c9b42e746ea7fdd", func := "loop.example/tiervolume/laws.FnExtentsJoin", spec := "fnExtentsJoin", apart := false, narrowed := true }
def FnExtentsJoinUptoSaid : Prop := fnExtentsJoinUptoRow.holds Try.pinned (OpenSpec.upto fnExtentsJoinSpec)

/-- 'laws.FnExtentsWithout', WHERE WHAT IT READS IS OF BULK AT MOST 1048576: true; the input reads as it did. -/
def fnExtentsWithoutUptoRow : OpenClaim := { program := "ytphnckknhlmgaaa", sum := "e250ed162543a90d71ff8332274758b72551d4bcfe50e1605c9b42e746ea7fdd", func := "loop.example/tiervolume/laws.FnExtentsWithout", spec := "fnExtentsWithout", apart := false, narrowed := true }
def FnExtentsWithoutUptoSaid : Prop := fnExtentsWithoutUptoRow.holds Try.pinned (OpenSpec.upto fnExtentsWithoutSpec)

/-- 'laws.FnExtentsParts', WHERE WHAT IT READS IS OF BULK AT MOST 1048576: true; the input reads as it did. -/
def fnExtentsPartsUptoRow : OpenClaim := { program := "ytphnckknhlmgaaa", sum := "e250ed162543a90d71ff8332274758b72551d4bcfe50e1605c9b42e746ea7fdd", func := "loop.example/tiervolume/laws.FnExtentsParts", spec := "fnExtentsParts", apart := false, narrowed := true }
def FnExtentsPartsUptoSaid : Prop := fnExtentsPartsUptoRow.holds Try.pinned (OpenSpec.upto fnExtentsPartsSpec)

/-- 'laws.FnExtentsFew', WHERE WHAT IT READS IS OF BULK AT MOST 1048576: true; the input reads as it did. -/
def fnExtentsFewUptoRow : OpenClaim := { program := "ytphnckknhlmgaaa", sum := "e250ed162543a90d71ff8332274758b72551d4bcfe50e1605c9b42e746ea7fdd", func := "loop.example/tiervolume/laws.FnExtentsFew", spec := "fnExtentsFew", apart := false, narrowed := true }
def FnExtentsFewUptoSaid : Prop := fnExtentsFewUptoRow.holds Try.pinned (OpenSpec.upto fnExtentsFewSpec)

/-- 'laws.FnExtentsPart', WHERE WHAT IT READS IS OF BULK AT MOST 1048576: true; the input reads as it did. -/
def fnExtentsPartUptoRow : OpenClaim := { program := "ytphnckknhlmgaaa", sum := "e250ed162543a90d71ff8332274758b72551d4bcfe50e1605c9b42e746ea7fdd", func := "loop.example/tiervolume/laws.FnExtentsPart", spec := "fnExtentsPart", apart := false, narrowed := true }
def FnExtentsPartUptoSaid : Prop := fnExtentsPartUptoRow.holds Try.pinned (OpenSpec.upto fnExtentsPartSpec)

end Rows
end Go.Proofs.Ytphnckknhlmgaaa
