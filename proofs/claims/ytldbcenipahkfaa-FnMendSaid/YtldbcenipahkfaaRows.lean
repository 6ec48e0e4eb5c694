/-
  No cell of these rows narrows 'for every input' (looked for: loops, veiled, ifaces, maps, wideKeys, modest, calm, conditions, laid).
  DERIVED. THE GIVEN ROWS OF THIS SEAT. 13 by the template 'for every input the law returns true; each argument reads behind the call as it read before'; 0 by the template 'total and deterministic' (their statements: YtldbcenipahkfaaTotals.lean).
  GIVEN WITH THE SEED: the statements are not yours to turn. If you find one false, say at which input.
  Laid BY PROGRAM, IN A SANDBOX (cutbox-rows.mjs): the forced cells as the released guide's own fill.sh prints them over the translation 7d0403579464c783… (all of the seat's roots in one cut). By AI agents, Wed Nov 11 2026. No macro, syntax, notation, axiom, sorry.
-/
import Derived.Test.YtldbcenipahkfaaChecked
import GoSem.Claim
import GoSem.ClaimJoined
import GoSem.ClaimMapViews
import Derived.JoinedTies
import Derived.KernelRfl
namespace Go.Proofs.Ytldbcenipahkfaa
/- THE CELL 'sum', in the pinned program and in every row, IS THE sha256 OF THE DUMP (.gsa) THAT YtldbcenipahkfaaProg.lean LOADS. Nothing in Lean hashes anything: it is a label: what it is worth is what the hold of that sum in a sandbox is worth. -/
noncomputable def Try.pinned : Pinned := { name := "ytldbcenipahkfaa", sum := "7d0403579464c783a46acfd8f95778e36db296c579a866923c8b68ccd61d5259", checked := Try.checked }
namespace Rows
def none {H : Type} : Left H := { results := [], args := [] }

/-- 'laws.FnColumnsCheck': WHATEVER THE INPUT: true; the input reads as it did. -/
def fnColumnsCheckSpec : ChangeSpec := { name := "fnColumnsCheck", fn := fun _ => fun
  | [d] => { results := [.lit (.bool true)], args := [d] }
  | _ => none }
def fnColumnsCheckRow : OpenClaim := { program := "ytldbcenipahkfaa", sum := "7d0403579464c783a46acfd8f95778e36db296c579a866923c8b68ccd61d5259", func := "loop.example/tiervolume/laws.FnColumnsCheck", spec := "fnColumnsCheck", unfollowed := true, recurses := true, apart := false }
def FnColumnsCheckSaid : Prop := fnColumnsCheckRow.holds Try.pinned (OpenSpec.ofChange fnColumnsCheckSpec)

/-- ITS FALSE NEIGHBOUR: 'it returns false'. Refute it at one input. -/
def fnColumnsCheckWrong : ChangeSpec := { name := "fnColumnsCheck", fn := fun _ => fun
  | [d] => { results := [.lit (.bool false)], args := [d] }
  | _ => none }
def FnColumnsCheckWrongFalsely : Prop := fnColumnsCheckRow.holds Try.pinned (OpenSpec.ofChange fnColumnsCheckWrong)

/-- 'laws.FnColumnsSum': WHATEVER THE INPUT: true; the input reads as it did. -/
def fnColumnsSumSpec : ChangeSpec := { name := "fnColumnsSum", fn := fun _ => fun
  | [d] => { results := [.lit (.bool true)], args := [d] }
  | _ => none }
def fnColumnsSumRow : OpenClaim := { program := "ytldbcenipahkfaa", sum := "7d0403579464c783a46acfd8f95778e36db296c579a866923c8b68ccd61d5259", func := "loop.example/tiervolume/laws.FnColumnsSum", spec := "fnColumnsSum", unfollowed := true, recurses := true, apart := false }
def FnColumnsSumSaid : Prop := fnColumnsSumRow.holds Try.pinned (OpenSpec.ofChange fnColumnsSumSpec)

/-- ITS FALSE NEIGHBOUR: 'it returns false'. Refute it at one input. -/
def fnColumnsSumWrong : ChangeSpec := { name := "fnColumnsSum", fn := fun _ => fun
  | [d] => { results := [.lit (.bool false)], args := [d] }
  | _ => none }
def FnColumnsSumWrongFalsely : Prop := fnColumnsSumRow.holds Try.pinned (OpenSpec.ofChange fnColumnsSumWrong)

/-- 'laws.FnColumnsTwo': WHATEVER THE INPUT: true; the input reads as it did. -/
def fnColumnsTwoSpec : ChangeSpec := { name := "fnColumnsTwo", fn := fun _ => fun
  | [d1, d2] => { results := [.lit (.bool true)], args := [d1, d2] }
  | _ => none }
def fnColumnsTwoRow : OpenClaim := { program := "ytldbcenipahkfaa", sum := "7d0403579464c783a46acfd8f95778e36db296c579a866923c8b68ccd61d5259", func := "loop.example/tiervolume/laws.FnColumnsTwo", spec := "fnColumnsTwo", unfollowed := true, recurses := true, apart := false }
def FnColumnsTwoSaid : Prop := fnColumnsTwoRow.holds Try.pinned (OpenSpec.ofChange fnColumnsTwoSpec)

/-- ITS FALSE NEIGHBOUR: 'it returns false'. Refute it at one input. -/
def fnColumnsTwoWrong : ChangeSpec := { name := "fnColumnsTwo", fn := fun _ => fun
  | [d1, d2] => { results := [.lit (.bool false)], args := [d1, d2] }
  | _ => none }
def FnColumnsTwoWrongFalsely : Prop := fnColumnsTwoRow.holds Try.pinned (OpenSpec.ofChange fnColumnsTwoWrong)

/-- 'laws.FnMend': WHATEVER THE INPUT: true; the input reads as it did. -/
def fnMendSpec : ChangeSpec := { name := "fnMend", fn := fun _ => fun
  | [d] => { results := [.lit (.bool true)], args := [d] }
  | _ => none }
def fnMendRow : OpenClaim := { program := "ytldbcenipahkfaa", sum := "7d0403579464c783a46acfd8f95778e36db296c579a866923c8b68ccd61d5259", func := "loop.example/tiervolume/laws.FnMend", spec := "fnMend", unfollowed := true, recurses := true, apart := false }
def FnMendSaid : Prop := fnMendRow.holds Try.pinned (OpenSpec.ofChange fnMendSpec)

/-- ITS FALSE NEIGHBOUR: 'it returns false'. Refute it at one input. -/
def fnMendWrong : ChangeSpec := { name := "fnMend", fn := fun _ => fun
  | [d] => { results := [.lit (.bool false)], args := [d] }
  | _ => none }
def FnMendWrongFalsely : Prop := fnMendRow.holds Try.pinned (OpenSpec.ofChange fnMendWrong)

/-- 'laws.FnMendOne': WHATEVER THE INPUT: true; the input reads as it did. -/
def fnMendOneSpec : ChangeSpec := { name := "fnMendOne", fn := fun _ => fun
  | [d1, d2] => { results := [.lit (.bool true)], args := [d1, d2] }
  | _ => none }
def fnMendOneRow : OpenClaim := { program := "ytldbcenipahkfaa", sum := "7d0403579464c783a46acfd8f95778e36db296c579a866923c8b68ccd61d5259", func := "loop.example/tiervolume/laws.FnMendOne", spec := "fnMendOne", unfollowed := true, recurses := true, apart := false }
def FnMendOneSaid : Prop := fnMendOneRow.holds Try.pinned (OpenSpec.ofChange fnMendOneSpec)

/-- ITS FALSE NEIGHBOUR: 'it returns false'. Refute it at one input. -/
def fnMendOneWrong : ChangeSpec := { name := "fnMendOne", fn := fun _ => fun
  | [d1, d2] => { results := [.lit (.bool false)], args := [d1, d2] }
  | _ => none }
def FnMendOneWrongFalsely : Prop := fnMendOneRow.holds Try.pinned (OpenSpec.ofChange fnMendOneWrong)

/-- 'laws.FnMendGood': WHATEVER THE INPUT: true; the input reads as it did. -/
def fnMendGoodSpec : ChangeSpec := { name := "fnMendGood", fn := fun _ => fun
  | [d] => { results := [.lit (.bool true)], args := [d] }
  | _ => none }
def fnMendGoodRow : OpenClaim := { program := "ytldbcenipahkfaa", sum := "7d0403579464c783a46acfd8f95778e36db296c579a866923c8b68ccd61d5259", func := "loop.example/tiervolume/laws.FnMendGood", spec := "fnMendGood", unfollowed := true, recurses := true, apart := false }
def FnMendGoodSaid : Prop := fnMendGoodRow.holds Try.pinned (OpenSpec.ofChange fnMendGoodSpec)

/-- ITS FALSE NEIGHBOUR: 'it returns false'. Refute it at one input. -/
def fnMendGoodWrong : ChangeSpec := { name := "fnMendGood", fn := fun _ => fun
  | [d] => { results := [.lit (.bool false)], args := [d] }
  | _ => none }
def FnMendGoodWrongFalsely : Prop := fnMendGoodRow.holds Try.pinned (OpenSpec.ofChange fnMendGoodWrong)

/-- 'laws.FnFill': WHATEVER THE INPUT: true; the input reads as it did. -/
def fnFillSpec : ChangeSpec := { name := "fnFill", fn := fun _ => fun
  | [d] => { results := [.lit (.bool true)], args := [d] }
  | _ => none }
def fnFillRow : OpenClaim := { program := "ytldbcenipahkfaa", sum := "7d0403579464c783a46acfd8f95778e36db296c579a866923c8b68ccd61d5259", func := "loop.example/tiervolume/laws.FnFill", spec := "fnFill", unfollowed := true, recurses := true, apart := false }
def FnFillSaid : Prop := fnFillRow.holds Try.pinned (OpenSpec.ofChange fnFillSpec)

/-- ITS FALSE NEIGHBOUR: 'it returns false'. Refute it at one input. -/
def fnFillWrong : ChangeSpec := { name := "fnFill", fn := fun _ => fun
  | [d] => { results := [.lit (.bool false)], args := [d] }
  | _ => none }
def FnFillWrongFalsely : Prop := fnFillRow.holds Try.pinned (OpenSpec.ofChange fnFillWrong)

/-- 'laws.FnFillTwo': WHATEVER THE INPUT: true; the input reads as it did. -/
def fnFillTwoSpec : ChangeSpec := { name := "fnFillTwo", fn := fun _ => fun
  | [d1, d2] => { results := [.lit (.bool true)], args := [d1, d2] }
  | _ => none }
def fnFillTwoRow : OpenClaim := { program := "ytldbcenipahkfaa", sum := "7d0403579464c783a46acfd8f95778e36db296c579a866923c8b68ccd61d5259", func := "loop.example/tiervolume/laws.FnFillTwo", spec := "fnFillTwo", unfollowed := true, recurses := true, apart := false }
def FnFillTwoSaid : Prop := fnFillTwoRow.holds Try.pinned (OpenSpec.ofChange fnFillTwoSpec)

/-- ITS FALSE NEIGHBOUR: 'it returns false'. Refute it at one input. -/
def fnFillTwoWrong : ChangeSpec := { name := "fnFillTwo", fn := fun _ => fun
  | [d1, d2] => { results := [.lit (.bool false)], args := [d1, d2] }
  | _ => none }
def FnFillTwoWrongFalsely : Prop := fnFillTwoRow.holds Try.pinned (OpenSpec.ofChange fnFillTwoWrong)

/-- 'laws.FnFillSame': WHATEVER THE INPUT: true; the input reads as it did. -/
def fnFillSameSpec : ChangeSpec := { name := "fnFillSame", fn := fun _ => fun
  | [d1, d2] => { results := [.lit (.bool true)], args := [d1, d2] }
  | _ => none }
def fnFillSameRow : OpenClaim := { program := "ytldbcenipahkfaa", sum := "7d0403579464c783a46acfd8f95778e36db296c579a866923c8b68ccd61d5259", func := "loop.example/tiervolume/laws.FnFillSame", spec := "fnFillSame", unfollowed := true, recurses := true, apart := false }
def FnFillSameSaid : Prop := fnFillSameRow.holds Try.pinned (OpenSpec.ofChange fnFillSameSpec)

/-- ITS FALSE NEIGHBOUR: 'it returns false'. Refute it at one input. -/
def fnFillSameWrong : ChangeSpec := { name := "fnFillSame", fn := fun _ => fun
  | [d1, d2] => { results := [.lit (.bool false)], args := [d1, d2] }
  | _ => none }
def FnFillSameWrongFalsely : Prop := fnFillSameRow.holds Try.pinned (OpenSpec.ofChange fnFillSameWrong)

/-- 'laws.FnExactColumnsCheck': WHATEVER THE INPUT: true; the input reads as it did. -/
def fnExactColumnsCheckSpec : ChangeSpec := { name := "fnExactColumnsCheck", fn := fun _ => fun
  | [d] => { results := [.lit (.bool true)], args := [d] }
  | _ => none }
def fnExactColumnsCheckRow : OpenClaim := { program := "ytldbcenipahkfaa", sum := "7d0403579464c783a46acfd8f95778e36db296c579a866923c8b68ccd61d5259", func := "loop.example/tiervolume/laws.FnExactColumnsCheck", spec := "fnExactColumnsCheck", unfollowed := true, recurses := true, apart := false }
def FnExactColumnsCheckSaid : Prop := fnExactColumnsCheckRow.holds Try.pinned (OpenSpec.ofChange fnExactColumnsCheckSpec)

/-- ITS FALSE NEIGHBOUR: 'it returns false'. Refute it at one input. -/
def fnExactColumnsCheckWrong : ChangeSpec := { name := "fnExactColumnsCheck", fn := fun _ => fun
  | [d] => { results := [.lit (.bool false)], args := [d] }
  | _ => none }
def FnExactColumnsCheckWrongFalsely : Prop := fnExactColumnsCheckRow.holds Try.pinned (OpenSpec.ofChange fnExactColumnsCheckWrong)

/-- 'laws.FnExactColumnsGood': WHATEVER THE INPUT: true; the input reads as it did. -/
def fnExactColumnsGoodSpec : ChangeSpec := { name := "fnExactColumnsGood", fn := fun _ => fun
  | [d1, d2] => { results := [.lit (.bool true)], args := [d1, d2] }
  | _ => none }
def fnExactColumnsGoodRow : OpenClaim := { program := "ytldbcenipahkfaa", sum := "7d0403579464c783a46acfd8f95778e36db296c579a866923c8b68ccd61d5259", func := "loop.example/tiervolume/laws.FnExactColumnsGood", spec := "fnExactColumnsGood", unfollowed := true, recurses := true, apart := false }
def FnExactColumnsGoodSaid : Prop := fnExactColumnsGoodRow.holds Try.pinned (OpenSpec.ofChange fnExactColumnsGoodSpec)

/-- ITS FALSE NEIGHBOUR: 'it returns false'. Refute it at one input. -/
def fnExactColumnsGoodWrong : ChangeSpec := { name := "fnExactColumnsGood", fn := fun _ => fun
  | [d1, d2] => { results := [.lit (.bool false)], args := [d1, d2] }
  | _ => none }
def FnExactColumnsGoodWrongFalsely : Prop := fnExactColumnsGoodRow.holds Try.pinned (OpenSpec.ofChange fnExactColumnsGoodWrong)

/-- 'laws.FnExactColumnsMend': WHATEVER THE INPUT: true; the input reads as it did. -/
def fnExactColumnsMendSpec : ChangeSpec := { name := "fnExactColumnsMend", fn := fun _ => fun
  | [d1, d2] => { results := [.lit (.bool true)], args := [d1, d2] }
  | _ => none }
def fnExactColumnsMendRow : OpenClaim := { program := "ytldbcenipahkfaa", sum := "7d0403579464c783a46acfd8f95778e36db296c579a866923c8b68ccd61d5259", func := "loop.example/tiervolume/laws.FnExactColumnsMend", spec := "fnExactColumnsMend", unfollowed := true, recurses := true, apart := false }
def FnExactColumnsMendSaid : Prop := fnExactColumnsMendRow.holds Try.pinned (OpenSpec.ofChange fnExactColumnsMendSpec)

/-- ITS FALSE NEIGHBOUR: 'it returns false'. Refute it at one input. -/
def fnExactColumnsMendWrong : ChangeSpec := { name := "fnExactColumnsMend", fn := fun _ => fun
  | [d1, d2] => { results := [.lit (.bool false)], args := [d1, d2] }
  | _ => none }
def FnExactColumnsMendWrongFalsely : Prop := fnExactColumnsMendRow.holds Try.pinned (OpenSpec.ofChange fnExactColumnsMendWrong)

/-- 'laws.FnExactColumnsFill': WHATEVER THE INPUT: true; the input reads as it did. -/
def fnExactColumnsFillSpec : ChangeSpec := { name := "fnExactColumnsFill", fn := fun _ => fun
  | [d1, d2, d3, d4] => { results := [.lit (.bool true)], args := [d1, d2, d3, d4] }
  | _ => none }
def fnExactColumnsFillRow : OpenClaim := { program := "ytldbcenipahkfaa", sum := "7d0403579464c783a46acfd8f95778e36db296c579a866923c8b68ccd61d5259", func := "loop.example/tiervolume/laws.FnExactColumnsFill", spec := "fnExactColumnsFill", unfollowed := true, recurses := true, apart := false }
def FnExactColumnsFillSaid : Prop := fnExactColumnsFillRow.holds Try.pinned (OpenSpec.ofChange fnExactColumnsFillSpec)

/-- ITS FALSE NEIGHBOUR: 'it returns false'. Refute it at one input. -/
def fnExactColumnsFillWrong : ChangeSpec := { name := "fnExactColumnsFill", fn := fun _ => fun
  | [d1, d2, d3, d4] => { results := [.lit (.bool false)], args := [d1, d2, d3, d4] }
  | _ => none }
def FnExactColumnsFillWrongFalsely : Prop := fnExactColumnsFillRow.holds Try.pinned (OpenSpec.ofChange fnExactColumnsFillWrong)

/- THE SECOND FORM. 'bulk': how many values and letters a reading holds, each counted each time it is reached (what is shared counts as often as it is met; a slice's spare places count too). A statement '..UptoSaid' is the law's where the arguments, and the package variables that the reading takes, are together of bulk at most 1048576: NARROWER than '..Said'. Prove '..Said' where nothing that the law and all that it calls make is longer than what came in: it says more and counts as full. Else prove '..UptoSaid'. A law counts once. -/
mutual
def uptoBulk {H : Type} : DataW H → Nat
  | .lit (.string bytes) => bytes.length + 1
  | .lit _ => 1
  | .nil => 1
  | .ptr d => uptoBulk d + 1
  | .slice elems spare => uptoBulkAll elems + uptoBulkAll spare + 1
  | .agg parts => uptoBulkAll parts + 1
  | .iface _ d => uptoBulk d + 1
  | .map entries => uptoBulkEntries entries + 1
  | .held _ => 1
def uptoBulkAll {H : Type} : List (DataW H) → Nat
  | [] => 0
  | d :: r => uptoBulk d + uptoBulkAll r
def uptoBulkEntries {H : Type} : List (Lit × DataW H) → Nat
  | [] => 0
  | x :: r => uptoBulkEntry x + uptoBulkEntries r
def uptoBulkEntry {H : Type} : Lit × DataW H → Nat
  | (.string bytes, d) => bytes.length + uptoBulk d + 1
  | (_, d) => uptoBulk d + 1
 end
def uptoSmall : (H : Type) → List (DataW H) → Bool := fun _ ds => decide (uptoBulkAll ds ≤ 1048576)
def OpenSpec.upto (s : _root_.Go.ChangeSpec) : _root_.Go.OpenSpec := { _root_.Go.OpenSpec.ofChange s with cond := some uptoSmall }

/-- 'laws.FnColumnsCheck', WHERE WHAT IT READS IS OF BULK AT MOST 1048576: true; the input reads as it did. -/
def fnColumnsCheckUptoRow : OpenClaim := { program := "ytldbcenipahkfaa", sum := "7d0403579464c783a46acfd8f95778e36db296c579a866923c8b68ccd61d5259", func := "loop.example/tiervolume/laws.FnColumnsCheck", spec := "fnColumnsCheck", unfollowed := true, recurses := true, apart := false, narrowed := true }
def FnColumnsCheckUptoSaid : Prop := fnColumnsCheckUptoRow.holds Try.pinned (OpenSpec.upto fnColumnsCheckSpec)

/-- 'laws.FnColumnsSum', WHERE WHAT IT READS IS OF BULK AT MOST 1048576: true; the input reads as it did. -/
def fnColumnsSumUptoRow : OpenClaim := { program := "ytldbcenipahkfaa", sum := "7d0403579464c783a46acfd8f95778e36db296c579a866923c8b68ccd61d5259", func := "loop.example/tiervolume/laws.FnColumnsSum", spec := "fnColumnsSum", unfollowed := true, recurses := true, apart := false, narrowed := true }
def FnColumnsSumUptoSaid : Prop := fnColumnsSumUptoRow.holds Try.pinned (OpenSpec.upto fnColumnsSumSpec)

/-- 'laws.FnColumnsTwo', WHERE WHAT IT READS IS OF BULK AT MOST 1048576: true; the input reads as it did. -/
def fnColumnsTwoUptoRow : OpenClaim := { program := "ytldbcenipahkfaa", sum := "7d0403579464c783a46acfd8f95778e36db296c579a866923c8b68ccd61d5259", func := "loop.example/tiervolume/laws.FnColumnsTwo", spec := "fnColumnsTwo", unfollowed := true, recurses := true, apart := false, narrowed := true }
def FnColumnsTwoUptoSaid : Prop := fnColumnsTwoUptoRow.holds Try.pinned (OpenSpec.upto fnColumnsTwoSpec)

/-- 'laws.FnMend', WHERE WHAT IT READS IS OF BULK AT MOST 1048576: true; the input reads as it did. -/
def fnMendUptoRow : OpenClaim := { program := "ytldbcenipahkfaa", sum := "7d0403579464c783a46acfd8f95778e36db296c579a866923c8b68ccd61d5259", func := "loop.example/tiervolume/laws.FnMend", spec := "fnMend", unfollowed := true, recurses := true, apart := false, narrowed := true }
def FnMendUptoSaid : Prop := fnMendUptoRow.holds Try.pinned (OpenSpec.upto fnMendSpec)

/-- 'laws.FnMendOne', WHERE WHAT IT READS IS OF BULK AT MOST 1048576: true; the input reads as it did. -/
def fnMendOneUptoRow : OpenClaim := { program := "ytldbcenipahkfaa", sum := "7d0403579464c783a46acfd8f95778e36db296c579a866923c8b68ccd61d5259", func := "loop.example/tiervolume/laws.FnMendOne", spec := "fnMendOne", unfollowed := true, recurses := true, apart := false, narrowed := true }
def FnMendOneUptoSaid : Prop := fnMendOneUptoRow.holds Try.pinned (OpenSpec.upto fnMendOneSpec)

/-- 'laws.FnMendGood', WHERE WHAT IT READS IS OF BULK AT MOST 1048576: true; the input reads as it did. -/
def fnMendGoodUptoRow : OpenClaim := { program := "ytldbcenipahkfaa", sum := "7d0403579464c783a46acfd8f95778e36db296c579a866923c8b68ccd61d5259", func := "loop.example/tiervolume/laws.FnMendGood", spec := "fnMendGood", unfollowed := true, recurses := true, apart := false, narrowed := true }
def FnMendGoodUptoSaid : Prop := fnMendGoodUptoRow.holds Try.pinned (OpenSpec.upto fnMendGoodSpec)

/-- 'laws.FnFill', WHERE WHAT IT READS IS OF BULK AT MOST 1048576: true; the input reads as it did. -/
def fnFillUptoRow : OpenClaim := { program := "ytldbcenipahkfaa", sum := "7d0403579464c783a46acfd8f95778e36db296c579a866923c8b68ccd61d5259", func := "loop.example/tiervolume/laws.FnFill", spec := "fnFill", unfollowed := true, recurses := true, apart := false, narrowed := true }
def FnFillUptoSaid : Prop := fnFillUptoRow.holds Try.pinned (OpenSpec.upto fnFillSpec)

/-- 'laws.FnFillTwo', WHERE WHAT IT READS IS OF BULK AT MOST 1048576: true; the input reads as it did. -/
def fnFillTwoUptoRow : OpenClaim := { program := "ytldbcenipahkfaa", sum := "7d0403579464c783a46acfd8f95778e36db296c579a866923c8b68ccd61d5259", func := "loop.example/tiervolume/laws.FnFillTwo", spec := "fnFillTwo", unfollowed := true, recurses := true, apart := false, narrowed := true }
def FnFillTwoUptoSaid : Prop := fnFillTwoUptoRow.holds Try.pinned (OpenSpec.upto fnFillTwoSpec)

/-- 'laws.FnFillSame', WHERE WHAT IT READS IS OF BULK AT MOST 1048576: true; the input reads as it did. -/
def fnFillSameUptoRow : OpenClaim := { program := "ytldbcenipahkfaa", sum := "7d0403579464c783a46acfd8f95778e36db296c579a866923c8b68ccd61d5259", func := "loop.example/tiervolume/laws.FnFillSame", spec := "fnFillSame", unfollowed := true, recurses := true, apart := false, narrowed := true }
def FnFillSameUptoSaid : Prop := fnFillSameUptoRow.holds Try.pinned (OpenSpec.upto fnFillSameSpec)

/-- 'laws.FnExactColumnsCheck', WHERE WHAT IT READS IS OF BULK AT MOST 1048576: true; the input reads as it did. -/
def fnExactColumnsCheckUptoRow : OpenClaim := { program := "ytldbcenipahkfaa", sum := "7d0403579464c783a46acfd8f95778e36db296c579a866923c8b68ccd61d5259", func := "loop.example/tiervolume/laws.FnExactColumnsCheck", spec := "fnExactColumnsCheck", unfollowed := true, recurses := true, apart := false, narrowed := true }
def FnExactColumnsCheckUptoSaid : Prop := fnExactColumnsCheckUptoRow.holds Try.pinned (OpenSpec.upto fnExactColumnsCheckSpec)

/-- 'laws.FnExactColumnsGood', WHERE WHAT IT READS IS OF BULK AT MOST 1048576: true; the input reads as it did. -/
def fnExactColumnsGoodUptoRow : OpenClaim := { program := "ytldbcenipahkfaa", sum := "7d0403579464c783a46acfd8f95778e36db296c579a866923c8b68ccd61d5259", func := "loop.example/tiervolume/laws.FnExactColumnsGood", spec := "fnExactColumnsGood", unfollowed := true, recurses := true, apart := false, narrowed := true }
def FnExactColumnsGoodUptoSaid : Prop := fnExactColumnsGoodUptoRow.holds Try.pinned (OpenSpec.upto fnExactColumnsGoodSpec)

/-- 'laws.FnExactColumnsMend', WHERE WHAT IT READS IS OF BULK AT MOST 1048576: true; the input reads as it did. -/
def fnExactColumnsMendUptoRow : OpenClaim := { program := "ytldbcenipahkfaa", sum := "7d0403579464c783a46acfd8f95778e36db296c579a866923c8b68ccd61d5259", func := "loop.example/tiervolume/laws.FnExactColumnsMend", spec := "fnExactColumnsMend", unfollowed := true, recurses := true, apart := false, narrowed := true }
def FnExactColumnsMendUptoSaid : Prop := fnExactColumnsMendUptoRow.holds Try.pinned (OpenSpec.upto fnExactColumnsMendSpec)

/-- 'laws.FnExactColumnsFill', WHERE WHAT IT READS IS OF BULK AT MOST 1048576: true; the input reads as it did. -/
def fnExactColumnsFillUptoRow : OpenClaim := { program := "ytldbcenipahkfaa", sum := "7d0403579464c783a46acfd8f95778e36db296c579a866923c8b68ccd61d5259", func := "loop.example/tiervolume/laws.FnExactColumnsFill", spec := "fnExactColumnsFill", unfollowed := true, recurses := true, apart := false, narrowed := true }
def FnExactColumnsFillUptoSaid : Prop := fnExactColumnsFillUptoRow.holds Try.pinned (OpenSpec.upto fnExactColumnsFillSpec)

end Rows
end Go.Proofs.Ytldbcenipahkfaa
