/-
  No cell of these rows narrows 'for every input' (looked for: loops, veiled, ifaces, maps, wideKeys, modest, calm, conditions, laid).
  DERIVED. THE GIVEN ROWS OF THIS SEAT. 12 by the template 'for every input the law returns true; each argument reads behind the call as it read before'; 0 by the template 'total and deterministic' (their statements: YtapfbkjgmfmepaaTotals.lean).
  GIVEN WITH THE SEED: the statements are not yours to turn. If you find one false, say at which input.
  Laid BY PROGRAM, IN A SANDBOX (cutbox-rows.mjs): the forced cells as the released guide's own fill.sh prints them over the translation 3ed0eb10a04bbba3… (all of the seat's roots in one cut). By AI agents, Wed Nov 11 2026. No macro, syntax, notation, axiom, sorry.
-/
import Derived.Test.YtapfbkjgmfmepaaChecked
import GoSem.Claim
import GoSem.ClaimJoined
import GoSem.ClaimMapViews
import Derived.JoinedTies
import Derived.KernelRfl
namespace Go.Proofs.Ytapfbkjgmfmepaa
/- THE CELL 'sum', in the pinned program and in every row, IS THE sha256 OF THE DUMP (.gsa) THAT YtapfbkjgmfmepaaProg.lean LOADS. Nothing in Lean hashes anything: it is a label: what it is worth is what the hold of that sum in a sandbox is worth. -/
noncomputable def Try.pinned : Pinned := { name := "ytapfbkjgmfmepaa", sum := "3ed0eb10a04bbba3c3b07250beb2caf2811f6918949471193c0cac573a842e24", checked := Try.checked }
namespace Rows
def none {H : Type} : Left H := { results := [], args := [] }

/-- 'laws.FnLayersRead': WHATEVER THE INPUT: true; the input reads as it did. -/
def fnLayersReadSpec : ChangeSpec := { name := "fnLayersRead", fn := fun _ => fun
  | [d] => { results := [.lit (.bool true)], args := [d] }
  | _ => none }
def fnLayersReadRow : OpenClaim := { program := "ytapfbkjgmfmepaa", sum := "3ed0eb10a04bbba3c3b07250beb2caf2811f6918949471193c0cac573a842e24", func := "loop.example/tiervolume/laws.FnLayersRead", spec := "fnLayersRead", unfollowed := true, recurses := true, apart := false }
def FnLayersReadSaid : Prop := fnLayersReadRow.holds Try.pinned (OpenSpec.ofChange fnLayersReadSpec)

/-- ITS FALSE NEIGHBOUR: 'it returns false'. Refute it at one input. -/
def fnLayersReadWrong : ChangeSpec := { name := "fnLayersRead", fn := fun _ => fun
  | [d] => { results := [.lit (.bool false)], args := [d] }
  | _ => none }
def FnLayersReadWrongFalsely : Prop := fnLayersReadRow.holds Try.pinned (OpenSpec.ofChange fnLayersReadWrong)

/-- 'laws.FnLayersWrite': WHATEVER THE INPUT: true; the input reads as it did. -/
def fnLayersWriteSpec : ChangeSpec := { name := "fnLayersWrite", fn := fun _ => fun
  | [d] => { results := [.lit (.bool true)], args := [d] }
  | _ => none }
def fnLayersWriteRow : OpenClaim := { program := "ytapfbkjgmfmepaa", sum := "3ed0eb10a04bbba3c3b07250beb2caf2811f6918949471193c0cac573a842e24", func := "loop.example/tiervolume/laws.FnLayersWrite", spec := "fnLayersWrite", unfollowed := true, recurses := true, apart := false }
def FnLayersWriteSaid : Prop := fnLayersWriteRow.holds Try.pinned (OpenSpec.ofChange fnLayersWriteSpec)

/-- ITS FALSE NEIGHBOUR: 'it returns false'. Refute it at one input. -/
def fnLayersWriteWrong : ChangeSpec := { name := "fnLayersWrite", fn := fun _ => fun
  | [d] => { results := [.lit (.bool false)], args := [d] }
  | _ => none }
def FnLayersWriteWrongFalsely : Prop := fnLayersWriteRow.holds Try.pinned (OpenSpec.ofChange fnLayersWriteWrong)

/-- 'laws.FnLayersSnap': WHATEVER THE INPUT: true; the input reads as it did. -/
def fnLayersSnapSpec : ChangeSpec := { name := "fnLayersSnap", fn := fun _ => fun
  | [d] => { results := [.lit (.bool true)], args := [d] }
  | _ => none }
def fnLayersSnapRow : OpenClaim := { program := "ytapfbkjgmfmepaa", sum := "3ed0eb10a04bbba3c3b07250beb2caf2811f6918949471193c0cac573a842e24", func := "loop.example/tiervolume/laws.FnLayersSnap", spec := "fnLayersSnap", unfollowed := true, recurses := true, apart := false }
def FnLayersSnapSaid : Prop := fnLayersSnapRow.holds Try.pinned (OpenSpec.ofChange fnLayersSnapSpec)

/-- ITS FALSE NEIGHBOUR: 'it returns false'. Refute it at one input. -/
def fnLayersSnapWrong : ChangeSpec := { name := "fnLayersSnap", fn := fun _ => fun
  | [d] => { results := [.lit (.bool false)], args := [d] }
  | _ => none }
def FnLayersSnapWrongFalsely : Prop := fnLayersSnapRow.holds Try.pinned (OpenSpec.ofChange fnLayersSnapWrong)

/-- 'laws.FnLayersKept': WHATEVER THE INPUT: true; the input reads as it did. -/
def fnLayersKeptSpec : ChangeSpec := { name := "fnLayersKept", fn := fun _ => fun
  | [d1, d2] => { results := [.lit (.bool true)], args := [d1, d2] }
  | _ => none }
def fnLayersKeptRow : OpenClaim := { program := "ytapfbkjgmfmepaa", sum := "3ed0eb10a04bbba3c3b07250beb2caf2811f6918949471193c0cac573a842e24", func := "loop.example/tiervolume/laws.FnLayersKept", spec := "fnLayersKept", unfollowed := true, recurses := true, apart := false }
def FnLayersKeptSaid : Prop := fnLayersKeptRow.holds Try.pinned (OpenSpec.ofChange fnLayersKeptSpec)

/-- ITS FALSE NEIGHBOUR: 'it returns false'. Refute it at one input. -/
def fnLayersKeptWrong : ChangeSpec := { name := "fnLayersKept", fn := fun _ => fun
  | [d1, d2] => { results := [.lit (.bool false)], args := [d1, d2] }
  | _ => none }
def FnLayersKeptWrongFalsely : Prop := fnLayersKeptRow.holds Try.pinned (OpenSpec.ofChange fnLayersKeptWrong)

/-- 'laws.FnLayersFold': WHATEVER THE INPUT: true; the input reads as it did. -/
def fnLayersFoldSpec : ChangeSpec := { name := "fnLayersFold", fn := fun _ => fun
  | [d] => { results := [.lit (.bool true)], args := [d] }
  | _ => none }
def fnLayersFoldRow : OpenClaim := { program := "ytapfbkjgmfmepaa", sum := "3ed0eb10a04bbba3c3b07250beb2caf2811f6918949471193c0cac573a842e24", func := "loop.example/tiervolume/laws.FnLayersFold", spec := "fnLayersFold", unfollowed := true, recurses := true, apart := false }
def FnLayersFoldSaid : Prop := fnLayersFoldRow.holds Try.pinned (OpenSpec.ofChange fnLayersFoldSpec)

/-- ITS FALSE NEIGHBOUR: 'it returns false'. Refute it at one input. -/
def fnLayersFoldWrong : ChangeSpec := { name := "fnLayersFold", fn := fun _ => fun
  | [d] => { results := [.lit (.bool false)], args := [d] }
  | _ => none }
def FnLayersFoldWrongFalsely : Prop := fnLayersFoldRow.holds Try.pinned (OpenSpec.ofChange fnLayersFoldWrong)

/-- 'laws.FnLayersFoldState': WHATEVER THE INPUT: true; the input reads as it did. -/
def fnLayersFoldStateSpec : ChangeSpec := { name := "fnLayersFoldState", fn := fun _ => fun
  | [d1, d2] => { results := [.lit (.bool true)], args := [d1, d2] }
  | _ => none }
def fnLayersFoldStateRow : OpenClaim := { program := "ytapfbkjgmfmepaa", sum := "3ed0eb10a04bbba3c3b07250beb2caf2811f6918949471193c0cac573a842e24", func := "loop.example/tiervolume/laws.FnLayersFoldState", spec := "fnLayersFoldState", unfollowed := true, recurses := true, apart := false }
def FnLayersFoldStateSaid : Prop := fnLayersFoldStateRow.holds Try.pinned (OpenSpec.ofChange fnLayersFoldStateSpec)

/-- ITS FALSE NEIGHBOUR: 'it returns false'. Refute it at one input. -/
def fnLayersFoldStateWrong : ChangeSpec := { name := "fnLayersFoldState", fn := fun _ => fun
  | [d1, d2] => { results := [.lit (.bool false)], args := [d1, d2] }
  | _ => none }
def FnLayersFoldStateWrongFalsely : Prop := fnLayersFoldStateRow.holds Try.pinned (OpenSpec.ofChange fnLayersFoldStateWrong)

/-- 'laws.FnLayersDiff': WHATEVER THE INPUT: true; the input reads as it did. -/
def fnLayersDiffSpec : ChangeSpec := { name := "fnLayersDiff", fn := fun _ => fun
  | [d] => { results := [.lit (.bool true)], args := [d] }
  | _ => none }
def fnLayersDiffRow : OpenClaim := { program := "ytapfbkjgmfmepaa", sum := "3ed0eb10a04bbba3c3b07250beb2caf2811f6918949471193c0cac573a842e24", func := "loop.example/tiervolume/laws.FnLayersDiff", spec := "fnLayersDiff", unfollowed := true, recurses := true, apart := false }
def FnLayersDiffSaid : Prop := fnLayersDiffRow.holds Try.pinned (OpenSpec.ofChange fnLayersDiffSpec)

/-- ITS FALSE NEIGHBOUR: 'it returns false'. Refute it at one input. -/
def fnLayersDiffWrong : ChangeSpec := { name := "fnLayersDiff", fn := fun _ => fun
  | [d] => { results := [.lit (.bool false)], args := [d] }
  | _ => none }
def FnLayersDiffWrongFalsely : Prop := fnLayersDiffRow.holds Try.pinned (OpenSpec.ofChange fnLayersDiffWrong)

/-- 'laws.FnLayersPart': WHATEVER THE INPUT: true; the input reads as it did. -/
def fnLayersPartSpec : ChangeSpec := { name := "fnLayersPart", fn := fun _ => fun
  | [d1, d2] => { results := [.lit (.bool true)], args := [d1, d2] }
  | _ => none }
def fnLayersPartRow : OpenClaim := { program := "ytapfbkjgmfmepaa", sum := "3ed0eb10a04bbba3c3b07250beb2caf2811f6918949471193c0cac573a842e24", func := "loop.example/tiervolume/laws.FnLayersPart", spec := "fnLayersPart", unfollowed := true, recurses := true, apart := false }
def FnLayersPartSaid : Prop := fnLayersPartRow.holds Try.pinned (OpenSpec.ofChange fnLayersPartSpec)

/-- ITS FALSE NEIGHBOUR: 'it returns false'. Refute it at one input. -/
def fnLayersPartWrong : ChangeSpec := { name := "fnLayersPart", fn := fun _ => fun
  | [d1, d2] => { results := [.lit (.bool false)], args := [d1, d2] }
  | _ => none }
def FnLayersPartWrongFalsely : Prop := fnLayersPartRow.holds Try.pinned (OpenSpec.ofChange fnLayersPartWrong)

/-- 'laws.FnExactLayersValid': WHATEVER THE INPUT: true; the input reads as it did. -/
def fnExactLayersValidSpec : ChangeSpec := { name := "fnExactLayersValid", fn := fun _ => fun
  | [d] => { results := [.lit (.bool true)], args := [d] }
  | _ => none }
def fnExactLayersValidRow : OpenClaim := { program := "ytapfbkjgmfmepaa", sum := "3ed0eb10a04bbba3c3b07250beb2caf2811f6918949471193c0cac573a842e24", func := "loop.example/tiervolume/laws.FnExactLayersValid", spec := "fnExactLayersValid", unfollowed := true, recurses := true, apart := false }
def FnExactLayersValidSaid : Prop := fnExactLayersValidRow.holds Try.pinned (OpenSpec.ofChange fnExactLayersValidSpec)

/-- ITS FALSE NEIGHBOUR: 'it returns false'. Refute it at one input. -/
def fnExactLayersValidWrong : ChangeSpec := { name := "fnExactLayersValid", fn := fun _ => fun
  | [d] => { results := [.lit (.bool false)], args := [d] }
  | _ => none }
def FnExactLayersValidWrongFalsely : Prop := fnExactLayersValidRow.holds Try.pinned (OpenSpec.ofChange fnExactLayersValidWrong)

/-- 'laws.FnExactLayersRead': WHATEVER THE INPUT: true; the input reads as it did. -/
def fnExactLayersReadSpec : ChangeSpec := { name := "fnExactLayersRead", fn := fun _ => fun
  | [d1, d2] => { results := [.lit (.bool true)], args := [d1, d2] }
  | _ => none }
def fnExactLayersReadRow : OpenClaim := { program := "ytapfbkjgmfmepaa", sum := "3ed0eb10a04bbba3c3b07250beb2caf2811f6918949471193c0cac573a842e24", func := "loop.example/tiervolume/laws.FnExactLayersRead", spec := "fnExactLayersRead", unfollowed := true, recurses := true, apart := false }
def FnExactLayersReadSaid : Prop := fnExactLayersReadRow.holds Try.pinned (OpenSpec.ofChange fnExactLayersReadSpec)

/-- ITS FALSE NEIGHBOUR: 'it returns false'. Refute it at one input. -/
def fnExactLayersReadWrong : ChangeSpec := { name := "fnExactLayersRead", fn := fun _ => fun
  | [d1, d2] => { results := [.lit (.bool false)], args := [d1, d2] }
  | _ => none }
def FnExactLayersReadWrongFalsely : Prop := fnExactLayersReadRow.holds Try.pinned (OpenSpec.ofChange fnExactLayersReadWrong)

/-- 'laws.FnExactLayersWrite': WHATEVER THE INPUT: true; the input reads as it did. -/
def fnExactLayersWriteSpec : ChangeSpec := { name := "fnExactLayersWrite", fn := fun _ => fun
  | [d1, d2] => { results := [.lit (.bool true)], args := [d1, d2] }
  | _ => none }
def fnExactLayersWriteRow : OpenClaim := { program := "ytapfbkjgmfmepaa", sum := "3ed0eb10a04bbba3c3b07250beb2caf2811f6918949471193c0cac573a842e24", func := "loop.example/tiervolume/laws.FnExactLayersWrite", spec := "fnExactLayersWrite", unfollowed := true, recurses := true, apart := false }
def FnExactLayersWriteSaid : Prop := fnExactLayersWriteRow.holds Try.pinned (OpenSpec.ofChange fnExactLayersWriteSpec)

/-- ITS FALSE NEIGHBOUR: 'it returns false'. Refute it at one input. -/
def fnExactLayersWriteWrong : ChangeSpec := { name := "fnExactLayersWrite", fn := fun _ => fun
  | [d1, d2] => { results := [.lit (.bool false)], args := [d1, d2] }
  | _ => none }
def FnExactLayersWriteWrongFalsely : Prop := fnExactLayersWriteRow.holds Try.pinned (OpenSpec.ofChange fnExactLayersWriteWrong)

/-- 'laws.FnExactLayersSnap': WHATEVER THE INPUT: true; the input reads as it did. -/
def fnExactLayersSnapSpec : ChangeSpec := { name := "fnExactLayersSnap", fn := fun _ => fun
  | [d] => { results := [.lit (.bool true)], args := [d] }
  | _ => none }
def fnExactLayersSnapRow : OpenClaim := { program := "ytapfbkjgmfmepaa", sum := "3ed0eb10a04bbba3c3b07250beb2caf2811f6918949471193c0cac573a842e24", func := "loop.example/tiervolume/laws.FnExactLayersSnap", spec := "fnExactLayersSnap", unfollowed := true, recurses := true, apart := false }
def FnExactLayersSnapSaid : Prop := fnExactLayersSnapRow.holds Try.pinned (OpenSpec.ofChange fnExactLayersSnapSpec)

/-- ITS FALSE NEIGHBOUR: 'it returns false'. Refute it at one input. -/
def fnExactLayersSnapWrong : ChangeSpec := { name := "fnExactLayersSnap", fn := fun _ => fun
  | [d] => { results := [.lit (.bool false)], args := [d] }
  | _ => none }
def FnExactLayersSnapWrongFalsely : Prop := fnExactLayersSnapRow.holds Try.pinned (OpenSpec.ofChange fnExactLayersSnapWrong)

/- THE SECOND FORM. 'bulk': how many values and letters a reading holds, each counted each time it is reached (what is shared counts as often as it is met; a slice's spare places count too). A statement '..UptoSaid' is the law's where the arguments, and the package variables that the reading takes, are together of bulk at most 1048576: NARROWER than '..Said'. Prove '..Said' where nothing that the law and all that it calls make is longer than what came in: it says more and counts as full. Else prove '..UptoSaid'. A law counts once. -/
mutual
def uptoBulk {H : Type} : DataW H → Nat
  | .lit (.string bytes) => bytes.length + 1
  | .lit _ => 1
  | .nil => 1
  | .ptr d => uptoBulk d + 1
  | .slice elems spare => uptoBulkAll elems + uptoBulkAll spare + 1
  | .agg parts => uptoBulkAll parts + 1
  | .iface _ d => uptoBulk d + 1
  | .map entries => uptoBulkEntries entries + 1
  | .held _ => 1
def uptoBulkAll {H : Type} : List (DataW H) → Nat
  | [] => 0
  | d :: r => uptoBulk d + uptoBulkAll r
def uptoBulkEntries {H : Type} : List (Lit × DataW H) → Nat
  | [] => 0
  | x :: r => uptoBulkEntry x + uptoBulkEntries r
def uptoBulkEntry {H : Type} : Lit × DataW H → Nat
  | (.string bytes, d) => bytes.length + uptoBulk d + 1
  | (_, d) => uptoBulk d + 1
 end
def uptoSmall : (H : Type) → List (DataW H) → Bool := fun _ ds => decide (uptoBulkAll ds ≤ 1048576)
def OpenSpec.upto (s : _root_.Go.ChangeSpec) : _root_.Go.OpenSpec := { _root_.Go.OpenSpec.ofChange s with cond := some uptoSmall }

/-- 'laws.FnLayersRead', WHERE WHAT IT READS IS OF BULK AT MOST 1048576: true; the input reads as it did. -/
def fnLayersReadUptoRow : OpenClaim := { program := "ytapfbkjgmfmepaa", sum := "3ed0eb10a04bbba3c3b07250beb2caf2811f6918949471193c0cac573a842e24", func := "loop.example/tiervolume/laws.FnLayersRead", spec := "fnLayersRead", unfollowed := true, recurses := true, apart := false, narrowed := true }
def FnLayersReadUptoSaid : Prop := fnLayersReadUptoRow.holds Try.pinned (OpenSpec.upto fnLayersReadSpec)

/-- 'laws.FnLayersWrite', WHERE WHAT IT READS IS OF BULK AT MOST 1048576: true; the input reads as it did. -/
def fnLayersWriteUptoRow : OpenClaim := { program := "ytapfbkjgmfmepaa", sum := "3ed0eb10a04bbba3c3b07250beb2caf2811f6918949471193c0cac573a842e24", func := "loop.example/tiervolume/laws.FnLayersWrite", spec := "fnLayersWrite", unfollowed := true, recurses := true, apart := false, narrowed := true }
def FnLayersWriteUptoSaid : Prop := fnLayersWriteUptoRow.holds Try.pinned (OpenSpec.upto fnLayersWriteSpec)

/-- 'laws.FnLayersSnap', WHERE WHAT IT READS IS OF BULK AT MOST 1048576: true; the input reads as it did. -/
def fnLayersSnapUptoRow : OpenClaim := { program := "ytapfbkjgmfmepaa", sum := "3ed0eb10a04bbba3c3b07250beb2caf2811f6918949471193c0cac573a842e24", func := "loop.example/tiervolume/laws.FnLayersSnap", spec := "fnLayersSnap", unfollowed := true, recurses := true, apart := false, narrowed := true }
def FnLayersSnapUptoSaid : Prop := fnLayersSnapUptoRow.holds Try.pinned (OpenSpec.upto fnLayersSnapSpec)

/-- 'laws.FnLayersKept', WHERE WHAT IT READS IS OF BULK AT MOST 1048576: true; the input reads as it did. -/
def fnLayersKeptUptoRow : OpenClaim := { program := "ytapfbkjgmfmepaa", sum := "3ed0eb10a04bbba3c3b07250beb2caf2811f6918949471193c0cac573a842e24", func := "loop.example/tiervolume/laws.FnLayersKept", spec := "fnLayersKept", unfollowed := true, recurses := true, apart := false, narrowed := true }
def FnLayersKeptUptoSaid : Prop := fnLayersKeptUptoRow.holds Try.pinned (OpenSpec.upto fnLayersKeptSpec)

/-- 'laws.FnLayersFold', WHERE WHAT IT READS IS OF BULK AT MOST 1048576: true; the input reads as it did. -/
def fnLayersFoldUptoRow : OpenClaim := { program := "ytapfbkjgmfmepaa", sum := "3ed0eb10a04bbba3c3b07250beb2caf2811f6918949471193c0cac573a842e24", func := "loop.example/tiervolume/laws.FnLayersFold", spec := "fnLayersFold", unfollowed := true, recurses := true, apart := false, narrowed := true }
def FnLayersFoldUptoSaid : Prop := fnLayersFoldUptoRow.holds Try.pinned (OpenSpec.upto fnLayersFoldSpec)

/-- 'laws.FnLayersFoldState', WHERE WHAT IT READS IS OF BULK AT MOST 1048576: true; the input reads as it did. -/
def fnLayersFoldStateUptoRow : OpenClaim := { program := "ytapfbkjgmfmepaa", sum := "3ed0eb10a04bbba3c3b07250beb2caf2811f6918949471193c0cac573a842e24", func := "loop.example/tiervolume/laws.FnLayersFoldState", spec := "fnLayersFoldState", unfollowed := true, recurses := true, apart := false, narrowed := true }
def FnLayersFoldStateUptoSaid : Prop := fnLayersFoldStateUptoRow.holds Try.pinned (OpenSpec.upto fnLayersFoldStateSpec)

/-- 'laws.FnLayersDiff', WHERE WHAT IT READS IS OF BULK AT MOST 1048576: true; the input reads as it did. -/
def fnLayersDiffUptoRow : OpenClaim := { program := "ytapfbkjgmfmepaa", sum := "3ed0eb10a04bbba3c3b07250beb2caf2811f6918949471193c0cac573a842e24", func := "loop.example/tiervolume/laws.FnLayersDiff", spec := "fnLayersDiff", unfollowed := true, recurses := true, apart := false, narrowed := true }
def FnLayersDiffUptoSaid : Prop := fnLayersDiffUptoRow.holds Try.pinned (OpenSpec.upto fnLayersDiffSpec)

/-- 'laws.FnLayersPart', WHERE WHAT IT READS IS OF BULK AT MOST 1048576: true; the input reads as it did. -/
def fnLayersPartUptoRow : OpenClaim := { program := "ytapfbkjgmfmepaa", sum := "3ed0eb10a04bbba3c3b07250beb2caf2811f6918949471193c0cac573a842e24", func := "loop.example/tiervolume/laws.FnLayersPart", spec := "fnLayersPart", unfollowed := true, recurses := true, apart := false, narrowed := true }
def FnLayersPartUptoSaid : Prop := fnLayersPartUptoRow.holds Try.pinned (OpenSpec.upto fnLayersPartSpec)

/-- 'laws.FnExactLayersValid', WHERE WHAT IT READS IS OF BULK AT MOST 1048576: true; the input reads as it did. -/
def fnExactLayersValidUptoRow : OpenClaim := { program := "ytapfbkjgmfmepaa", sum := "3ed0eb10a04bbba3c3b07250beb2caf2811f6918949471193c0cac573a842e24", func := "loop.example/tiervolume/laws.FnExactLayersValid", spec := "fnExactLayersValid", unfollowed := true, recurses := true, apart := false, narrowed := true }
def FnExactLayersValidUptoSaid : Prop := fnExactLayersValidUptoRow.holds Try.pinned (OpenSpec.upto fnExactLayersValidSpec)

/-- 'laws.FnExactLayersRead', WHERE WHAT IT READS IS OF BULK AT MOST 1048576: true; the input reads as it did. -/
def fnExactLayersReadUptoRow : OpenClaim := { program := "ytapfbkjgmfmepaa", sum := "3ed0eb10a04bbba3c3b07250beb2caf2811f6918949471193c0cac573a842e24", func := "loop.example/tiervolume/laws.FnExactLayersRead", spec := "fnExactLayersRead", unfollowed := true, recurses := true, apart := false, narrowed := true }
def FnExactLayersReadUptoSaid : Prop := fnExactLayersReadUptoRow.holds Try.pinned (OpenSpec.upto fnExactLayersReadSpec)

/-- 'laws.FnExactLayersWrite', WHERE WHAT IT READS IS OF BULK AT MOST 1048576: true; the input reads as it did. -/
def fnExactLayersWriteUptoRow : OpenClaim := { program := "ytapfbkjgmfmepaa", sum := "3ed0eb10a04bbba3c3b07250beb2caf2811f6918949471193c0cac573a842e24", func := "loop.example/tiervolume/laws.FnExactLayersWrite", spec := "fnExactLayersWrite", unfollowed := true, recurses := true, apart := false, narrowed := true }
def FnExactLayersWriteUptoSaid : Prop := fnExactLayersWriteUptoRow.holds Try.pinned (OpenSpec.upto fnExactLayersWriteSpec)

/-- 'laws.FnExactLayersSnap', WHERE WHAT IT READS IS OF BULK AT MOST 1048576: true; the input reads as it did. -/
def fnExactLayersSnapUptoRow : OpenClaim := { program := "ytapfbkjgmfmepaa", sum := "3ed0eb10a04bbba3c3b07250beb2caf2811f6918949471193c0cac573a842e24", func := "loop.example/tiervolume/laws.FnExactLayersSnap", spec := "fnExactLayersSnap", unfollowed := true, recurses := true, apart := false, narrowed := true }
def FnExactLayersSnapUptoSaid : Prop := fnExactLayersSnapUptoRow.holds Try.pinned (OpenSpec.upto fnExactLayersSnapSpec)

end Rows
end Go.Proofs.Ytapfbkjgmfmepaa
