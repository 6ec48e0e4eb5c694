/-
  No cell of these rows narrows 'for every input' (looked for: loops, veiled, ifaces, maps, wideKeys, modest, calm, conditions, laid).
  DERIVED. THE GIVEN ROWS OF THIS SEAT. 8 by the template 'for every input the law returns true; each argument reads behind the call as it read before'; 0 by the template 'total and deterministic' (their statements: YteeeioiaogogmaaTotals.lean).
  GIVEN WITH THE SEED: the statements are not yours to turn. If you find one false, say at which input.
  Laid BY PROGRAM, IN A SANDBOX (cutbox-rows.mjs): the forced cells as the released guide's own fill.sh prints them over the translation aee34d43d7acd658… (all of the seat's roots in one cut). By AI agents, Wed Nov 11 2026. No macro, syntax, notation, axiom, sorry.
-/
import Derived.Test.YteeeioiaogogmaaChecked
import GoSem.Claim
import GoSem.ClaimJoined
import GoSem.ClaimMapViews
import Derived.JoinedTies
import Derived.KernelRfl
namespace Go.Proofs.Yteeeioiaogogmaa
/- THE CELL 'sum', in the pinned program and in every row, IS THE sha256 OF THE DUMP (.gsa) THAT YteeeioiaogogmaaProg.lean LOADS. Nothing in Lean hashes anything: it is a label: what it is worth is what the hold of that sum in a sandbox is worth. -/
noncomputable def Try.pinned : Pinned := { name := "yteeeioiaogogmaa", sum := "aee34d43d7acd658716747d93a2f4fa7769e6e89146e5e87e7267b6bd610d0b2", checked := Try.checked }
namespace Rows
def none {H : Type} : Left H := { results := [], args := [] }

/-- 'laws.FnStorePut': WHATEVER THE INPUT: true; the input reads as it did. -/
def fnStorePutSpec : ChangeSpec := { name := "fnStorePut", fn := fun _ => fun
  | [d] => { results := [.lit (.bool true)], args := [d] }
  | _ => none }
def fnStorePutRow : OpenClaim := { program := "yteeeioiaogogmaa", sum := "aee34d43d7acd658716747d93a2f4fa7769e6e89146e5e87e7267b6bd610d0b2", func := "loop.example/tiervolume/laws.FnStorePut", spec := "fnStorePut", unfollowed := true, recurses := true, apart := false }
def FnStorePutSaid : Prop := fnStorePutRow.holds Try.pinned (OpenSpec.ofChange fnStorePutSpec)

/-- ITS FALSE NEIGHBOUR: 'it returns false'. Refute it at one input. -/
def fnStorePutWrong : ChangeSpec := { name := "fnStorePut", fn := fun _ => fun
  | [d] => { results := [.lit (.bool false)], args := [d] }
  | _ => none }
def FnStorePutWrongFalsely : Prop := fnStorePutRow.holds Try.pinned (OpenSpec.ofChange fnStorePutWrong)

/-- 'laws.FnStoreOthers': WHATEVER THE INPUT: true; the input reads as it did. -/
def fnStoreOthersSpec : ChangeSpec := { name := "fnStoreOthers", fn := fun _ => fun
  | [d] => { results := [.lit (.bool true)], args := [d] }
  | _ => none }
def fnStoreOthersRow : OpenClaim := { program := "yteeeioiaogogmaa", sum := "aee34d43d7acd658716747d93a2f4fa7769e6e89146e5e87e7267b6bd610d0b2", func := "loop.example/tiervolume/laws.FnStoreOthers", spec := "fnStoreOthers", unfollowed := true, recurses := true, apart := false }
def FnStoreOthersSaid : Prop := fnStoreOthersRow.holds Try.pinned (OpenSpec.ofChange fnStoreOthersSpec)

/-- ITS FALSE NEIGHBOUR: 'it returns false'. Refute it at one input. -/
def fnStoreOthersWrong : ChangeSpec := { name := "fnStoreOthers", fn := fun _ => fun
  | [d] => { results := [.lit (.bool false)], args := [d] }
  | _ => none }
def FnStoreOthersWrongFalsely : Prop := fnStoreOthersRow.holds Try.pinned (OpenSpec.ofChange fnStoreOthersWrong)

/-- 'laws.FnStoreThere': WHATEVER THE INPUT: true; the input reads as it did. -/
def fnStoreThereSpec : ChangeSpec := { name := "fnStoreThere", fn := fun _ => fun
  | [d] => { results := [.lit (.bool true)], args := [d] }
  | _ => none }
def fnStoreThereRow : OpenClaim := { program := "yteeeioiaogogmaa", sum := "aee34d43d7acd658716747d93a2f4fa7769e6e89146e5e87e7267b6bd610d0b2", func := "loop.example/tiervolume/laws.FnStoreThere", spec := "fnStoreThere", unfollowed := true, recurses := true, apart := false }
def FnStoreThereSaid : Prop := fnStoreThereRow.holds Try.pinned (OpenSpec.ofChange fnStoreThereSpec)

/-- ITS FALSE NEIGHBOUR: 'it returns false'. Refute it at one input. -/
def fnStoreThereWrong : ChangeSpec := { name := "fnStoreThere", fn := fun _ => fun
  | [d] => { results := [.lit (.bool false)], args := [d] }
  | _ => none }
def FnStoreThereWrongFalsely : Prop := fnStoreThereRow.holds Try.pinned (OpenSpec.ofChange fnStoreThereWrong)

/-- 'laws.FnStoreFull': WHATEVER THE INPUT: true; the input reads as it did. -/
def fnStoreFullSpec : ChangeSpec := { name := "fnStoreFull", fn := fun _ => fun
  | [d] => { results := [.lit (.bool true)], args := [d] }
  | _ => none }
def fnStoreFullRow : OpenClaim := { program := "yteeeioiaogogmaa", sum := "aee34d43d7acd658716747d93a2f4fa7769e6e89146e5e87e7267b6bd610d0b2", func := "loop.example/tiervolume/laws.FnStoreFull", spec := "fnStoreFull", unfollowed := true, recurses := true, apart := false }
def FnStoreFullSaid : Prop := fnStoreFullRow.holds Try.pinned (OpenSpec.ofChange fnStoreFullSpec)

/-- ITS FALSE NEIGHBOUR: 'it returns false'. Refute it at one input. -/
def fnStoreFullWrong : ChangeSpec := { name := "fnStoreFull", fn := fun _ => fun
  | [d] => { results := [.lit (.bool false)], args := [d] }
  | _ => none }
def FnStoreFullWrongFalsely : Prop := fnStoreFullRow.holds Try.pinned (OpenSpec.ofChange fnStoreFullWrong)

/-- 'laws.FnStoreGet': WHATEVER THE INPUT: true; the input reads as it did. -/
def fnStoreGetSpec : ChangeSpec := { name := "fnStoreGet", fn := fun _ => fun
  | [d] => { results := [.lit (.bool true)], args := [d] }
  | _ => none }
def fnStoreGetRow : OpenClaim := { program := "yteeeioiaogogmaa", sum := "aee34d43d7acd658716747d93a2f4fa7769e6e89146e5e87e7267b6bd610d0b2", func := "loop.example/tiervolume/laws.FnStoreGet", spec := "fnStoreGet", apart := false }
def FnStoreGetSaid : Prop := fnStoreGetRow.holds Try.pinned (OpenSpec.ofChange fnStoreGetSpec)

/-- ITS FALSE NEIGHBOUR: 'it returns false'. Refute it at one input. -/
def fnStoreGetWrong : ChangeSpec := { name := "fnStoreGet", fn := fun _ => fun
  | [d] => { results := [.lit (.bool false)], args := [d] }
  | _ => none }
def FnStoreGetWrongFalsely : Prop := fnStoreGetRow.holds Try.pinned (OpenSpec.ofChange fnStoreGetWrong)

/-- 'laws.FnStoreKeep': WHATEVER THE INPUT: true; the input reads as it did. -/
def fnStoreKeepSpec : ChangeSpec := { name := "fnStoreKeep", fn := fun _ => fun
  | [d] => { results := [.lit (.bool true)], args := [d] }
  | _ => none }
def fnStoreKeepRow : OpenClaim := { program := "yteeeioiaogogmaa", sum := "aee34d43d7acd658716747d93a2f4fa7769e6e89146e5e87e7267b6bd610d0b2", func := "loop.example/tiervolume/laws.FnStoreKeep", spec := "fnStoreKeep", unfollowed := true, recurses := true, apart := false }
def FnStoreKeepSaid : Prop := fnStoreKeepRow.holds Try.pinned (OpenSpec.ofChange fnStoreKeepSpec)

/-- ITS FALSE NEIGHBOUR: 'it returns false'. Refute it at one input. -/
def fnStoreKeepWrong : ChangeSpec := { name := "fnStoreKeep", fn := fun _ => fun
  | [d] => { results := [.lit (.bool false)], args := [d] }
  | _ => none }
def FnStoreKeepWrongFalsely : Prop := fnStoreKeepRow.holds Try.pinned (OpenSpec.ofChange fnStoreKeepWrong)

/-- 'laws.FnStoreKeepTwice': WHATEVER THE INPUT: true; the input reads as it did. -/
def fnStoreKeepTwiceSpec : ChangeSpec := { name := "fnStoreKeepTwice", fn := fun _ => fun
  | [d] => { results := [.lit (.bool true)], args := [d] }
  | _ => none }
def fnStoreKeepTwiceRow : OpenClaim := { program := "yteeeioiaogogmaa", sum := "aee34d43d7acd658716747d93a2f4fa7769e6e89146e5e87e7267b6bd610d0b2", func := "loop.example/tiervolume/laws.FnStoreKeepTwice", spec := "fnStoreKeepTwice", unfollowed := true, recurses := true, apart := false }
def FnStoreKeepTwiceSaid : Prop := fnStoreKeepTwiceRow.holds Try.pinned (OpenSpec.ofChange fnStoreKeepTwiceSpec)

/-- ITS FALSE NEIGHBOUR: 'it returns false'. Refute it at one input. -/
def fnStoreKeepTwiceWrong : ChangeSpec := { name := "fnStoreKeepTwice", fn := fun _ => fun
  | [d] => { results := [.lit (.bool false)], args := [d] }
  | _ => none }
def FnStoreKeepTwiceWrongFalsely : Prop := fnStoreKeepTwiceRow.holds Try.pinned (OpenSpec.ofChange fnStoreKeepTwiceWrong)

/-- 'laws.FnStorePart': WHATEVER THE INPUT: true; the input reads as it did. -/
def fnStorePartSpec : ChangeSpec := { name := "fnStorePart", fn := fun _ => fun
  | [d1, d2] => { results := [.lit (.bool true)], args := [d1, d2] }
  | _ => none }
def fnStorePartRow : OpenClaim := { program := "yteeeioiaogogmaa", sum := "aee34d43d7acd658716747d93a2f4fa7769e6e89146e5e87e7267b6bd610d0b2", func := "loop.example/tiervolume/laws.FnStorePart", spec := "fnStorePart", apart := false }
def FnStorePartSaid : Prop := fnStorePartRow.holds Try.pinned (OpenSpec.ofChange fnStorePartSpec)

/-- ITS FALSE NEIGHBOUR: 'it returns false'. Refute it at one input. -/
def fnStorePartWrong : ChangeSpec := { name := "fnStorePart", fn := fun _ => fun
  | [d1, d2] => { results := [.lit (.bool false)], args := [d1, d2] }
  | _ => none }
def FnStorePartWrongFalsely : Prop := fnStorePartRow.holds Try.pinned (OpenSpec.ofChange fnStorePartWrong)

/- THE SECOND FORM. 'bulk': how many values and letters a reading holds, each counted each time it is reached (what is shared counts as often as it is met; a slice's spare places count too). A statement '..UptoSaid' is the law's where the arguments, and the package variables that the reading takes, are together of bulk at most 1048576: NARROWER than '..Said'. Prove '..Said' where nothing that the law and all that it calls make is longer than what came in: it says more and counts as full. Else prove '..UptoSaid'. A law counts once. -/
mutual
def uptoBulk {H : Type} : DataW H → Nat
  | .lit (.string bytes) => bytes.length + 1
  | .lit _ => 1
  | .nil => 1
  | .ptr d => uptoBulk d + 1
  | .slice elems spare => uptoBulkAll elems + uptoBulkAll spare + 1
  | .agg parts => uptoBulkAll parts + 1
  | .iface _ d => uptoBulk d + 1
  | .map entries => uptoBulkEntries entries + 1
  | .held _ => 1
def uptoBulkAll {H : Type} : List (DataW H) → Nat
  | [] => 0
  | d :: r => uptoBulk d + uptoBulkAll r
def uptoBulkEntries {H : Type} : List (Lit × DataW H) → Nat
  | [] => 0
  | x :: r => uptoBulkEntry x + uptoBulkEntries r
def uptoBulkEntry {H : Type} : Lit × DataW H → Nat
  | (.string bytes, d) => bytes.length + uptoBulk d + 1
  | (_, d) => uptoBulk d + 1
 end
def uptoSmall : (H : Type) → List (DataW H) → Bool := fun _ ds => decide (uptoBulkAll ds ≤ 1048576)
def OpenSpec.upto (s : _root_.Go.ChangeSpec) : _root_.Go.OpenSpec := { _root_.Go.OpenSpec.ofChange s with cond := some uptoSmall }

/-- 'laws.FnStorePut', WHERE WHAT IT READS IS OF BULK AT MOST 1048576: true; the input reads as it did. -/
def fnStorePutUptoRow : OpenClaim := { program := "yteeeioiaogogmaa", sum := "aee34d43d7acd658716747d93a2f4fa7769e6e89146e5e87e7267b6bd610d0b2", func := "loop.example/tiervolume/laws.FnStorePut", spec := "fnStorePut", unfollowed := true, recurses := true, apart := false, narrowed := true }
def FnStorePutUptoSaid : Prop := fnStorePutUptoRow.holds Try.pinned (OpenSpec.upto fnStorePutSpec)

/-- 'laws.FnStoreOthers', WHERE WHAT IT READS IS OF BULK AT MOST 1048576: true; the input reads as it did. -/
def fnStoreOthersUptoRow : OpenClaim := { program := "yteeeioiaogogmaa", sum := "aee34d43d7acd658716747d93a2f4fa7769e6e89146e5e87e7267b6bd610d0b2", func := "loop.example/tiervolume/laws.FnStoreOthers", spec := "fnStoreOthers", unfollowed := true, recurses := true, apart := false, narrowed := true }
def FnStoreOthersUptoSaid : Prop := fnStoreOthersUptoRow.holds Try.pinned (OpenSpec.upto fnStoreOthersSpec)

/-- 'laws.FnStoreThere', WHERE WHAT IT READS IS OF BULK AT MOST 1048576: true; the input reads as it did. -/
def fnStoreThereUptoRow : OpenClaim := { program := "yteeeioiaogogmaa", sum := "aee34d43d7acd658716747d93a2f4fa7769e6e89146e5e87e7267b6bd610d0b2", func := "loop.example/tiervolume/laws.FnStoreThere", spec := "fnStoreThere", unfollowed := true, recurses := true, apart := false, narrowed := true }
def FnStoreThereUptoSaid : Prop := fnStoreThereUptoRow.holds Try.pinned (OpenSpec.upto fnStoreThereSpec)

/-- 'laws.FnStoreFull', WHERE WHAT IT READS IS OF BULK AT MOST 1048576: true; the input reads as it did. -/
def fnStoreFullUptoRow : OpenClaim := { program := "yteeeioiaogogmaa", sum := "aee34d43d7acd658716747d93a2f4fa7769e6e89146e5e87e7267b6bd610d0b2", func := "loop.example/tiervolume/laws.FnStoreFull", spec := "fnStoreFull", unfollowed := true, recurses := true, apart := false, narrowed := true }
def FnStoreFullUptoSaid : Prop := fnStoreFullUptoRow.holds Try.pinned (OpenSpec.upto fnStoreFullSpec)

/-- 'laws.FnStoreGet', WHERE WHAT IT READS IS OF BULK AT MOST 1048576: true; the input reads as it did. -/
def fnStoreGetUptoRow : OpenClaim := { program := "yteeeioiaogogmaa", sum := "aee34d43d7acd658716747d93a2f4fa7769e6e89146e5e87e7267b6bd610d0b2", func := "loop.example/tiervolume/laws.FnStoreGet", spec := "fnStoreGet", apart := false, narrowed := true }
def FnStoreGetUptoSaid : Prop := fnStoreGetUptoRow.holds Try.pinned (OpenSpec.upto fnStoreGetSpec)

/-- 'laws.FnStoreKeep', WHERE WHAT IT READS IS OF BULK AT MOST 1048576: true; the input reads as it did. -/
def fnStoreKeepUptoRow : OpenClaim := { program := "yteeeioiaogogmaa", sum := "aee34d43d7acd658716747d93a2f4fa7769e6e89146e5e87e7267b6bd610d0b2", func := "loop.example/tiervolume/laws.FnStoreKeep", spec := "fnStoreKeep", unfollowed := true, recurses := true, apart := false, narrowed := true }
def FnStoreKeepUptoSaid : Prop := fnStoreKeepUptoRow.holds Try.pinned (OpenSpec.upto fnStoreKeepSpec)

/-- 'laws.FnStoreKeepTwice', WHERE WHAT IT READS IS OF BULK AT MOST 1048576: true; the input reads as it did. -/
def fnStoreKeepTwiceUptoRow : OpenClaim := { program := "yteeeioiaogogmaa", sum := "aee34d43d7acd658716747d93a2f4fa7769e6e89146e5e87e7267b6bd610d0b2", func := "loop.example/tiervolume/laws.FnStoreKeepTwice", spec := "fnStoreKeepTwice", unfollowed := true, recurses := true, apart := false, narrowed := true }
def FnStoreKeepTwiceUptoSaid : Prop := fnStoreKeepTwiceUptoRow.holds Try.pinned (OpenSpec.upto fnStoreKeepTwiceSpec)

/-- 'laws.FnStorePart', WHERE WHAT IT READS IS OF BULK AT MOST 1048576: true; the input reads as it did. -/
def fnStorePartUptoRow : OpenClaim := { program := "yteeeioiaogogmaa", sum := "aee34d43d7acd658716747d93a2f4fa7769e6e89146e5e87e7267b6bd610d0b2", func := "loop.example/tiervolume/laws.FnStorePart", spec := "fnStorePart", apart := false, narrowed := true }
def FnStorePartUptoSaid : Prop := fnStorePartUptoRow.holds Try.pinned (OpenSpec.upto fnStorePartSpec)

end Rows
end Go.Proofs.Yteeeioiaogogmaa
