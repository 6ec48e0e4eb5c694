/-
  No cell of these rows narrows 'for every input' (looked for: loops, veiled, ifaces, maps, wideKeys, modest, calm, conditions, laid).
  DERIVED. THE GIVEN ROWS OF THIS SEAT. 11 by the template 'for every input the law returns true; each argument reads behind the call as it read before'; 0 by the template 'total and deterministic' (their statements: YtnkflcibbhoedaaTotals.lean).
  GIVEN WITH THE SEED: the statements are not yours to turn. If you find one false, say at which input.
  Laid BY PROGRAM, IN A SANDBOX (cutbox-rows.mjs): the forced cells as the released guide's own fill.sh prints them over the translation 702aef394ffa8dff… (all of the seat's roots in one cut). By AI agents, Wed Nov 11 2026. No macro, syntax, notation, axiom, sorry.
-/
import Derived.Test.YtnkflcibbhoedaaChecked
import GoSem.Claim
import GoSem.ClaimJoined
import GoSem.ClaimMapViews
import Derived.JoinedTies
import Derived.KernelRfl
namespace Go.Proofs.Ytnkflcibbhoedaa
/- THE CELL 'sum', in the pinned program and in every row, IS THE sha256 OF THE DUMP (.gsa) THAT YtnkflcibbhoedaaProg.lean LOADS. Nothing in Lean hashes anything: it is a label: what it is worth is what the hold of that sum in a sandbox is worth. -/
noncomputable def Try.pinned : Pinned := { name := "ytnkflcibbhoedaa", sum := "702aef394ffa8dff5edb6f6d1bbe9423a50e04add067870a0d1745d5106ec0e3", checked := Try.checked }
namespace Rows
def none {H : Type} : Left H := { results := [], args := [] }

/-- 'laws.FnHeatUse': WHATEVER THE INPUT: true; the input reads as it did. -/
def fnHeatUseSpec : ChangeSpec := { name := "fnHeatUse", fn := fun _ => fun
  | [d] => { results := [.lit (.bool true)], args := [d] }
  | _ => none }
def fnHeatUseRow : OpenClaim := { program := "ytnkflcibbhoedaa", sum := "702aef394ffa8dff5edb6f6d1bbe9423a50e04add067870a0d1745d5106ec0e3", func := "loop.example/tiervolume/laws.FnHeatUse", spec := "fnHeatUse", apart := false }
def FnHeatUseSaid : Prop := fnHeatUseRow.holds Try.pinned (OpenSpec.ofChange fnHeatUseSpec)

/-- ITS FALSE NEIGHBOUR: 'it returns false'. Refute it at one input. -/
def fnHeatUseWrong : ChangeSpec := { name := "fnHeatUse", fn := fun _ => fun
  | [d] => { results := [.lit (.bool false)], args := [d] }
  | _ => none }
def FnHeatUseWrongFalsely : Prop := fnHeatUseRow.holds Try.pinned (OpenSpec.ofChange fnHeatUseWrong)

/-- 'laws.FnHeatUseBad': WHATEVER THE INPUT: true; the input reads as it did. -/
def fnHeatUseBadSpec : ChangeSpec := { name := "fnHeatUseBad", fn := fun _ => fun
  | [d] => { results := [.lit (.bool true)], args := [d] }
  | _ => none }
def fnHeatUseBadRow : OpenClaim := { program := "ytnkflcibbhoedaa", sum := "702aef394ffa8dff5edb6f6d1bbe9423a50e04add067870a0d1745d5106ec0e3", func := "loop.example/tiervolume/laws.FnHeatUseBad", spec := "fnHeatUseBad", apart := false }
def FnHeatUseBadSaid : Prop := fnHeatUseBadRow.holds Try.pinned (OpenSpec.ofChange fnHeatUseBadSpec)

/-- ITS FALSE NEIGHBOUR: 'it returns false'. Refute it at one input. -/
def fnHeatUseBadWrong : ChangeSpec := { name := "fnHeatUseBad", fn := fun _ => fun
  | [d] => { results := [.lit (.bool false)], args := [d] }
  | _ => none }
def FnHeatUseBadWrongFalsely : Prop := fnHeatUseBadRow.holds Try.pinned (OpenSpec.ofChange fnHeatUseBadWrong)

/-- 'laws.FnHeatDecay': WHATEVER THE INPUT: true; the input reads as it did. -/
def fnHeatDecaySpec : ChangeSpec := { name := "fnHeatDecay", fn := fun _ => fun
  | [d] => { results := [.lit (.bool true)], args := [d] }
  | _ => none }
def fnHeatDecayRow : OpenClaim := { program := "ytnkflcibbhoedaa", sum := "702aef394ffa8dff5edb6f6d1bbe9423a50e04add067870a0d1745d5106ec0e3", func := "loop.example/tiervolume/laws.FnHeatDecay", spec := "fnHeatDecay", apart := false }
def FnHeatDecaySaid : Prop := fnHeatDecayRow.holds Try.pinned (OpenSpec.ofChange fnHeatDecaySpec)

/-- ITS FALSE NEIGHBOUR: 'it returns false'. Refute it at one input. -/
def fnHeatDecayWrong : ChangeSpec := { name := "fnHeatDecay", fn := fun _ => fun
  | [d] => { results := [.lit (.bool false)], args := [d] }
  | _ => none }
def FnHeatDecayWrongFalsely : Prop := fnHeatDecayRow.holds Try.pinned (OpenSpec.ofChange fnHeatDecayWrong)

/-- 'laws.FnHeatDecayEnd': WHATEVER THE INPUT: true; the input reads as it did. -/
def fnHeatDecayEndSpec : ChangeSpec := { name := "fnHeatDecayEnd", fn := fun _ => fun
  | [d] => { results := [.lit (.bool true)], args := [d] }
  | _ => none }
def fnHeatDecayEndRow : OpenClaim := { program := "ytnkflcibbhoedaa", sum := "702aef394ffa8dff5edb6f6d1bbe9423a50e04add067870a0d1745d5106ec0e3", func := "loop.example/tiervolume/laws.FnHeatDecayEnd", spec := "fnHeatDecayEnd", apart := false }
def FnHeatDecayEndSaid : Prop := fnHeatDecayEndRow.holds Try.pinned (OpenSpec.ofChange fnHeatDecayEndSpec)

/-- ITS FALSE NEIGHBOUR: 'it returns false'. Refute it at one input. -/
def fnHeatDecayEndWrong : ChangeSpec := { name := "fnHeatDecayEnd", fn := fun _ => fun
  | [d] => { results := [.lit (.bool false)], args := [d] }
  | _ => none }
def FnHeatDecayEndWrongFalsely : Prop := fnHeatDecayEndRow.holds Try.pinned (OpenSpec.ofChange fnHeatDecayEndWrong)

/-- 'laws.FnColdest': WHATEVER THE INPUT: true; the input reads as it did. -/
def fnColdestSpec : ChangeSpec := { name := "fnColdest", fn := fun _ => fun
  | [d] => { results := [.lit (.bool true)], args := [d] }
  | _ => none }
def fnColdestRow : OpenClaim := { program := "ytnkflcibbhoedaa", sum := "702aef394ffa8dff5edb6f6d1bbe9423a50e04add067870a0d1745d5106ec0e3", func := "loop.example/tiervolume/laws.FnColdest", spec := "fnColdest", unfollowed := true, recurses := true, apart := false }
def FnColdestSaid : Prop := fnColdestRow.holds Try.pinned (OpenSpec.ofChange fnColdestSpec)

/-- ITS FALSE NEIGHBOUR: 'it returns false'. Refute it at one input. -/
def fnColdestWrong : ChangeSpec := { name := "fnColdest", fn := fun _ => fun
  | [d] => { results := [.lit (.bool false)], args := [d] }
  | _ => none }
def FnColdestWrongFalsely : Prop := fnColdestRow.holds Try.pinned (OpenSpec.ofChange fnColdestWrong)

/-- 'laws.FnColdestCold': WHATEVER THE INPUT: true; the input reads as it did. -/
def fnColdestColdSpec : ChangeSpec := { name := "fnColdestCold", fn := fun _ => fun
  | [d] => { results := [.lit (.bool true)], args := [d] }
  | _ => none }
def fnColdestColdRow : OpenClaim := { program := "ytnkflcibbhoedaa", sum := "702aef394ffa8dff5edb6f6d1bbe9423a50e04add067870a0d1745d5106ec0e3", func := "loop.example/tiervolume/laws.FnColdestCold", spec := "fnColdestCold", unfollowed := true, recurses := true, apart := false }
def FnColdestColdSaid : Prop := fnColdestColdRow.holds Try.pinned (OpenSpec.ofChange fnColdestColdSpec)

/-- ITS FALSE NEIGHBOUR: 'it returns false'. Refute it at one input. -/
def fnColdestColdWrong : ChangeSpec := { name := "fnColdestCold", fn := fun _ => fun
  | [d] => { results := [.lit (.bool false)], args := [d] }
  | _ => none }
def FnColdestColdWrongFalsely : Prop := fnColdestColdRow.holds Try.pinned (OpenSpec.ofChange fnColdestColdWrong)

/-- 'laws.FnColdestMore': WHATEVER THE INPUT: true; the input reads as it did. -/
def fnColdestMoreSpec : ChangeSpec := { name := "fnColdestMore", fn := fun _ => fun
  | [d] => { results := [.lit (.bool true)], args := [d] }
  | _ => none }
def fnColdestMoreRow : OpenClaim := { program := "ytnkflcibbhoedaa", sum := "702aef394ffa8dff5edb6f6d1bbe9423a50e04add067870a0d1745d5106ec0e3", func := "loop.example/tiervolume/laws.FnColdestMore", spec := "fnColdestMore", unfollowed := true, recurses := true, apart := false }
def FnColdestMoreSaid : Prop := fnColdestMoreRow.holds Try.pinned (OpenSpec.ofChange fnColdestMoreSpec)

/-- ITS FALSE NEIGHBOUR: 'it returns false'. Refute it at one input. -/
def fnColdestMoreWrong : ChangeSpec := { name := "fnColdestMore", fn := fun _ => fun
  | [d] => { results := [.lit (.bool false)], args := [d] }
  | _ => none }
def FnColdestMoreWrongFalsely : Prop := fnColdestMoreRow.holds Try.pinned (OpenSpec.ofChange fnColdestMoreWrong)

/-- 'laws.FnExactHeatValid': WHATEVER THE INPUT: true; the input reads as it did. -/
def fnExactHeatValidSpec : ChangeSpec := { name := "fnExactHeatValid", fn := fun _ => fun
  | [d] => { results := [.lit (.bool true)], args := [d] }
  | _ => none }
def fnExactHeatValidRow : OpenClaim := { program := "ytnkflcibbhoedaa", sum := "702aef394ffa8dff5edb6f6d1bbe9423a50e04add067870a0d1745d5106ec0e3", func := "loop.example/tiervolume/laws.FnExactHeatValid", spec := "fnExactHeatValid", apart := false }
def FnExactHeatValidSaid : Prop := fnExactHeatValidRow.holds Try.pinned (OpenSpec.ofChange fnExactHeatValidSpec)

/-- ITS FALSE NEIGHBOUR: 'it returns false'. Refute it at one input. -/
def fnExactHeatValidWrong : ChangeSpec := { name := "fnExactHeatValid", fn := fun _ => fun
  | [d] => { results := [.lit (.bool false)], args := [d] }
  | _ => none }
def FnExactHeatValidWrongFalsely : Prop := fnExactHeatValidRow.holds Try.pinned (OpenSpec.ofChange fnExactHeatValidWrong)

/-- 'laws.FnExactHeatUse': WHATEVER THE INPUT: true; the input reads as it did. -/
def fnExactHeatUseSpec : ChangeSpec := { name := "fnExactHeatUse", fn := fun _ => fun
  | [d1, d2] => { results := [.lit (.bool true)], args := [d1, d2] }
  | _ => none }
def fnExactHeatUseRow : OpenClaim := { program := "ytnkflcibbhoedaa", sum := "702aef394ffa8dff5edb6f6d1bbe9423a50e04add067870a0d1745d5106ec0e3", func := "loop.example/tiervolume/laws.FnExactHeatUse", spec := "fnExactHeatUse", apart := false }
def FnExactHeatUseSaid : Prop := fnExactHeatUseRow.holds Try.pinned (OpenSpec.ofChange fnExactHeatUseSpec)

/-- ITS FALSE NEIGHBOUR: 'it returns false'. Refute it at one input. -/
def fnExactHeatUseWrong : ChangeSpec := { name := "fnExactHeatUse", fn := fun _ => fun
  | [d1, d2] => { results := [.lit (.bool false)], args := [d1, d2] }
  | _ => none }
def FnExactHeatUseWrongFalsely : Prop := fnExactHeatUseRow.holds Try.pinned (OpenSpec.ofChange fnExactHeatUseWrong)

/-- 'laws.FnExactHeatDecay': WHATEVER THE INPUT: true; the input reads as it did. -/
def fnExactHeatDecaySpec : ChangeSpec := { name := "fnExactHeatDecay", fn := fun _ => fun
  | [d] => { results := [.lit (.bool true)], args := [d] }
  | _ => none }
def fnExactHeatDecayRow : OpenClaim := { program := "ytnkflcibbhoedaa", sum := "702aef394ffa8dff5edb6f6d1bbe9423a50e04add067870a0d1745d5106ec0e3", func := "loop.example/tiervolume/laws.FnExactHeatDecay", spec := "fnExactHeatDecay", apart := false }
def FnExactHeatDecaySaid : Prop := fnExactHeatDecayRow.holds Try.pinned (OpenSpec.ofChange fnExactHeatDecaySpec)

/-- ITS FALSE NEIGHBOUR: 'it returns false'. Refute it at one input. -/
def fnExactHeatDecayWrong : ChangeSpec := { name := "fnExactHeatDecay", fn := fun _ => fun
  | [d] => { results := [.lit (.bool false)], args := [d] }
  | _ => none }
def FnExactHeatDecayWrongFalsely : Prop := fnExactHeatDecayRow.holds Try.pinned (OpenSpec.ofChange fnExactHeatDecayWrong)

/-- 'laws.FnExactHeatColdest': WHATEVER THE INPUT: true; the input reads as it did. -/
def fnExactHeatColdestSpec : ChangeSpec := { name := "fnExactHeatColdest", fn := fun _ => fun
  | [d1, d2, d3] => { results := [.lit (.bool true)], args := [d1, d2, d3] }
  | _ => none }
def fnExactHeatColdestRow : OpenClaim := { program := "ytnkflcibbhoedaa", sum := "702aef394ffa8dff5edb6f6d1bbe9423a50e04add067870a0d1745d5106ec0e3", func := "loop.example/tiervolume/laws.FnExactHeatColdest", spec := "fnExactHeatColdest", unfollowed := true, recurses := true, apart := false }
def FnExactHeatColdestSaid : Prop := fnExactHeatColdestRow.holds Try.pinned (OpenSpec.ofChange fnExactHeatColdestSpec)

/-- ITS FALSE NEIGHBOUR: 'it returns false'. Refute it at one input. -/
def fnExactHeatColdestWrong : ChangeSpec := { name := "fnExactHeatColdest", fn := fun _ => fun
  | [d1, d2, d3] => { results := [.lit (.bool false)], args := [d1, d2, d3] }
  | _ => none }
def FnExactHeatColdestWrongFalsely : Prop := fnExactHeatColdestRow.holds Try.pinned (OpenSpec.ofChange fnExactHeatColdestWrong)

/- THE SECOND FORM. 'bulk': how many values and letters a reading holds, each counted each time it is reached (what is shared counts as often as it is met; a slice's spare places count too). A statement '..UptoSaid' is the law's where the arguments, and the package variables that the reading takes, are together of bulk at most 1048576: NARROWER than '..Said'. Prove '..Said' where nothing that the law and all that it calls make is longer than what came in: it says more and counts as full. Else prove '..UptoSaid'. A law counts once. -/
mutual
def uptoBulk {H : Type} : DataW H → Nat
  | .lit (.string bytes) => bytes.length + 1
  | .lit _ => 1
  | .nil => 1
  | .ptr d => uptoBulk d + 1
  | .slice elems spare => uptoBulkAll elems + uptoBulkAll spare + 1
  | .agg parts => uptoBulkAll parts + 1
  | .iface _ d => uptoBulk d + 1
  | .map entries => uptoBulkEntries entries + 1
  | .held _ => 1
def uptoBulkAll {H : Type} : List (DataW H) → Nat
  | [] => 0
  | d :: r => uptoBulk d + uptoBulkAll r
def uptoBulkEntries {H : Type} : List (Lit × DataW H) → Nat
  | [] => 0
  | x :: r => uptoBulkEntry x + uptoBulkEntries r
def uptoBulkEntry {H : Type} : Lit × DataW H → Nat
  | (.string bytes, d) => bytes.length + uptoBulk d + 1
  | (_, d) => uptoBulk d + 1
 end
def uptoSmall : (H : Type) → List (DataW H) → Bool := fun _ ds => decide (uptoBulkAll ds ≤ 1048576)
def OpenSpec.upto (s : _root_.Go.ChangeSpec) : _root_.Go.OpenSpec := { _root_.Go.OpenSpec.ofChange s with cond := some uptoSmall }

/-- 'laws.FnHeatUse', WHERE WHAT IT READS IS OF BULK AT MOST 1048576: true; the input reads as it did. -/
def fnHeatUseUptoRow : OpenClaim := { program := "ytnkflcibbhoedaa", sum := "702aef394ffa8dff5edb6f6d1bbe9423a50e04add067870a0d1745d5106ec0e3", func := "loop.example/tiervolume/laws.FnHeatUse", spec := "fnHeatUse", apart := false, narrowed := true }
def FnHeatUseUptoSaid : Prop := fnHeatUseUptoRow.holds Try.pinned (OpenSpec.upto fnHeatUseSpec)

/-- 'laws.FnHeatUseBad', WHERE WHAT IT READS IS OF BULK AT MOST 1048576: true; the input reads as it did. -/
def fnHeatUseBadUptoRow : OpenClaim := { program := "ytnkflcibbhoedaa", sum := "702aef394ffa8dff5edb6f6d1bbe9423a50e04add067870a0d1745d5106ec0e3", func := "loop.example/tiervolume/laws.FnHeatUseBad", spec := "fnHeatUseBad", apart := false, narrowed := true }
def FnHeatUseBadUptoSaid : Prop := fnHeatUseBadUptoRow.holds Try.pinned (OpenSpec.upto fnHeatUseBadSpec)

/-- 'laws.FnHeatDecay', WHERE WHAT IT READS IS OF BULK AT MOST 1048576: true; the input reads as it did. -/
def fnHeatDecayUptoRow : OpenClaim := { program := "ytnkflcibbhoedaa", sum := "702aef394ffa8dff5edb6f6d1bbe9423a50e04add067870a0d1745d5106ec0e3", func := "loop.example/tiervolume/laws.FnHeatDecay", spec := "fnHeatDecay", apart := false, narrowed := true }
def FnHeatDecayUptoSaid : Prop := fnHeatDecayUptoRow.holds Try.pinned (OpenSpec.upto fnHeatDecaySpec)

/-- 'laws.FnHeatDecayEnd', WHERE WHAT IT READS IS OF BULK AT MOST 1048576: true; the input reads as it did. -/
def fnHeatDecayEndUptoRow : OpenClaim := { program := "ytnkflcibbhoedaa", sum := "702aef394ffa8dff5edb6f6d1bbe9423a50e04add067870a0d1745d5106ec0e3", func := "loop.example/tiervolume/laws.FnHeatDecayEnd", spec := "fnHeatDecayEnd", apart := false, narrowed := true }
def FnHeatDecayEndUptoSaid : Prop := fnHeatDecayEndUptoRow.holds Try.pinned (OpenSpec.upto fnHeatDecayEndSpec)

/-- 'laws.FnColdest', WHERE WHAT IT READS IS OF BULK AT MOST 1048576: true; the input reads as it did. -/
def fnColdestUptoRow : OpenClaim := { program := "ytnkflcibbhoedaa", sum := "702aef394ffa8dff5edb6f6d1bbe9423a50e04add067870a0d1745d5106ec0e3", func := "loop.example/tiervolume/laws.FnColdest", spec := "fnColdest", unfollowed := true, recurses := true, apart := false, narrowed := true }
def FnColdestUptoSaid : Prop := fnColdestUptoRow.holds Try.pinned (OpenSpec.upto fnColdestSpec)

/-- 'laws.FnColdestCold', WHERE WHAT IT READS IS OF BULK AT MOST 1048576: true; the input reads as it did. -/
def fnColdestColdUptoRow : OpenClaim := { program := "ytnkflcibbhoedaa", sum := "702aef394ffa8dff5edb6f6d1bbe9423a50e04add067870a0d1745d5106ec0e3", func := "loop.example/tiervolume/laws.FnColdestCold", spec := "fnColdestCold", unfollowed := true, recurses := true, apart := false, narrowed := true }
def FnColdestColdUptoSaid : Prop := fnColdestColdUptoRow.holds Try.pinned (OpenSpec.upto fnColdestColdSpec)

/-- 'laws.FnColdestMore', WHERE WHAT IT READS IS OF BULK AT MOST 1048576: true; the input reads as it did. -/
def fnColdestMoreUptoRow : OpenClaim := { program := "ytnkflcibbhoedaa", sum := "702aef394ffa8dff5edb6f6d1bbe9423a50e04add067870a0d1745d5106ec0e3", func := "loop.example/tiervolume/laws.FnColdestMore", spec := "fnColdestMore", unfollowed := true, recurses := true, apart := false, narrowed := true }
def FnColdestMoreUptoSaid : Prop := fnColdestMoreUptoRow.holds Try.pinned (OpenSpec.upto fnColdestMoreSpec)

/-- 'laws.FnExactHeatValid', WHERE WHAT IT READS IS OF BULK AT MOST 1048576: true; the input reads as it did. -/
def fnExactHeatValidUptoRow : OpenClaim := { program := "ytnkflcibbhoedaa", sum := "702aef394ffa8dff5edb6f6d1bbe9423a50e04add067870a0d1745d5106ec0e3", func := "loop.example/tiervolume/laws.FnExactHeatValid", spec := "fnExactHeatValid", apart := false, narrowed := true }
def FnExactHeatValidUptoSaid : Prop := fnExactHeatValidUptoRow.holds Try.pinned (OpenSpec.upto fnExactHeatValidSpec)

/-- 'laws.FnExactHeatUse', WHERE WHAT IT READS IS OF BULK AT MOST 1048576: true; the input reads as it did. -/
def fnExactHeatUseUptoRow : OpenClaim := { program := "ytnkflcibbhoedaa", sum := "702aef394ffa8dff5edb6f6d1bbe9423a50e04add067870a0d1745d5106ec0e3", func := "loop.example/tiervolume/laws.FnExactHeatUse", spec := "fnExactHeatUse", apart := false, narrowed := true }
def FnExactHeatUseUptoSaid : Prop := fnExactHeatUseUptoRow.holds Try.pinned (OpenSpec.upto fnExactHeatUseSpec)

/-- 'laws.FnExactHeatDecay', WHERE WHAT IT READS IS OF BULK AT MOST 1048576: true; the input reads as it did. -/
def fnExactHeatDecayUptoRow : OpenClaim := { program := "ytnkflcibbhoedaa", sum := "702aef394ffa8dff5edb6f6d1bbe9423a50e04add067870a0d1745d5106ec0e3", func := "loop.example/tiervolume/laws.FnExactHeatDecay", spec := "fnExactHeatDecay", apart := false, narrowed := true }
def FnExactHeatDecayUptoSaid : Prop := fnExactHeatDecayUptoRow.holds Try.pinned (OpenSpec.upto fnExactHeatDecaySpec)

/-- 'laws.FnExactHeatColdest', WHERE WHAT IT READS IS OF BULK AT MOST 1048576: true; the input reads as it did. -/
def fnExactHeatColdestUptoRow : OpenClaim := { program := "ytnkflcibbhoedaa", sum := "702aef394ffa8dff5edb6f6d1bbe9423a50e04add067870a0d1745d5106ec0e3", func := "loop.example/tiervolume/laws.FnExactHeatColdest", spec := "fnExactHeatColdest", unfollowed := true, recurses := true, apart := false, narrowed := true }
def FnExactHeatColdestUptoSaid : Prop := fnExactHeatColdestUptoRow.holds Try.pinned (OpenSpec.upto fnExactHeatColdestSpec)

end Rows
end Go.Proofs.Ytnkflcibbhoedaa
