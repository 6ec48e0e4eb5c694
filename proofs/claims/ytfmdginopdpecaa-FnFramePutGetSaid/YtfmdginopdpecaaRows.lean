/-
  No cell of these rows narrows 'for every input' (looked for: loops, veiled, ifaces, maps, wideKeys, modest, calm, conditions, laid).
  DERIVED. THE GIVEN ROWS OF THIS SEAT. 12 by the template 'for every input the law returns true; each argument reads behind the call as it read before'; 0 by the template 'total and deterministic' (their statements: YtfmdginopdpecaaTotals.lean).
  GIVEN WITH THE SEED: the statements are not yours to turn. If you find one false, say at which input.
  Laid BY PROGRAM, IN A SANDBOX (cutbox-rows.mjs): the forced cells as the released guide's own fill.sh prints them over the translation edc74271c2c9bf6d… (all of the seat's roots in one cut). By AI agents, Wed Nov 11 2026. No macro, syntax, notation, axiom, sorry.
-/
import Derived.Test.YtfmdginopdpecaaChecked
import GoSem.Claim
import GoSem.ClaimJoined
import GoSem.ClaimMapViews
import Derived.JoinedTies
import Derived.KernelRfl
namespace Go.Proofs.Ytfmdginopdpecaa
/- THE CELL 'sum', in the pinned program and in every row, IS THE sha256 OF THE DUMP (.gsa) THAT YtfmdginopdpecaaProg.lean LOADS. Nothing in Lean hashes anything: it is a label: what it is worth is what the hold of that sum in a sandbox is worth. -/
noncomputable def Try.pinned : Pinned := { name := "ytfmdginopdpecaa", sum := "edc74271c2c9bf6d4abe671153c779f33e17abfa4780d53a1cfe4ec921b39edc", checked := Try.checked }
namespace Rows
def none {H : Type} : Left H := { results := [], args := [] }

/-- 'laws.FnSumWords': WHATEVER THE INPUT: true; the input reads as it did. -/
def fnSumWordsSpec : ChangeSpec := { name := "fnSumWords", fn := fun _ => fun
  | [d] => { results := [.lit (.bool true)], args := [d] }
  | _ => none }
def fnSumWordsRow : OpenClaim := { program := "ytfmdginopdpecaa", sum := "edc74271c2c9bf6d4abe671153c779f33e17abfa4780d53a1cfe4ec921b39edc", func := "loop.example/tiervolume/laws.FnSumWords", spec := "fnSumWords", apart := false }
def FnSumWordsSaid : Prop := fnSumWordsRow.holds Try.pinned (OpenSpec.ofChange fnSumWordsSpec)

/-- ITS FALSE NEIGHBOUR: 'it returns false'. Refute it at one input. -/
def fnSumWordsWrong : ChangeSpec := { name := "fnSumWords", fn := fun _ => fun
  | [d] => { results := [.lit (.bool false)], args := [d] }
  | _ => none }
def FnSumWordsWrongFalsely : Prop := fnSumWordsRow.holds Try.pinned (OpenSpec.ofChange fnSumWordsWrong)

/-- 'laws.FnSumNext': WHATEVER THE INPUT: true; the input reads as it did. -/
def fnSumNextSpec : ChangeSpec := { name := "fnSumNext", fn := fun _ => fun
  | [d1, d2] => { results := [.lit (.bool true)], args := [d1, d2] }
  | _ => none }
def fnSumNextRow : OpenClaim := { program := "ytfmdginopdpecaa", sum := "edc74271c2c9bf6d4abe671153c779f33e17abfa4780d53a1cfe4ec921b39edc", func := "loop.example/tiervolume/laws.FnSumNext", spec := "fnSumNext", apart := false }
def FnSumNextSaid : Prop := fnSumNextRow.holds Try.pinned (OpenSpec.ofChange fnSumNextSpec)

/-- ITS FALSE NEIGHBOUR: 'it returns false'. Refute it at one input. -/
def fnSumNextWrong : ChangeSpec := { name := "fnSumNext", fn := fun _ => fun
  | [d1, d2] => { results := [.lit (.bool false)], args := [d1, d2] }
  | _ => none }
def FnSumNextWrongFalsely : Prop := fnSumNextRow.holds Try.pinned (OpenSpec.ofChange fnSumNextWrong)

/-- 'laws.FnSumChange': WHATEVER THE INPUT: true; the input reads as it did. -/
def fnSumChangeSpec : ChangeSpec := { name := "fnSumChange", fn := fun _ => fun
  | [d1, d2] => { results := [.lit (.bool true)], args := [d1, d2] }
  | _ => none }
def fnSumChangeRow : OpenClaim := { program := "ytfmdginopdpecaa", sum := "edc74271c2c9bf6d4abe671153c779f33e17abfa4780d53a1cfe4ec921b39edc", func := "loop.example/tiervolume/laws.FnSumChange", spec := "fnSumChange", apart := false }
def FnSumChangeSaid : Prop := fnSumChangeRow.holds Try.pinned (OpenSpec.ofChange fnSumChangeSpec)

/-- ITS FALSE NEIGHBOUR: 'it returns false'. Refute it at one input. -/
def fnSumChangeWrong : ChangeSpec := { name := "fnSumChange", fn := fun _ => fun
  | [d1, d2] => { results := [.lit (.bool false)], args := [d1, d2] }
  | _ => none }
def FnSumChangeWrongFalsely : Prop := fnSumChangeRow.holds Try.pinned (OpenSpec.ofChange fnSumChangeWrong)

/-- 'laws.FnSumSwap': WHATEVER THE INPUT: true; the input reads as it did. -/
def fnSumSwapSpec : ChangeSpec := { name := "fnSumSwap", fn := fun _ => fun
  | [d1, d2] => { results := [.lit (.bool true)], args := [d1, d2] }
  | _ => none }
def fnSumSwapRow : OpenClaim := { program := "ytfmdginopdpecaa", sum := "edc74271c2c9bf6d4abe671153c779f33e17abfa4780d53a1cfe4ec921b39edc", func := "loop.example/tiervolume/laws.FnSumSwap", spec := "fnSumSwap", apart := false }
def FnSumSwapSaid : Prop := fnSumSwapRow.holds Try.pinned (OpenSpec.ofChange fnSumSwapSpec)

/-- ITS FALSE NEIGHBOUR: 'it returns false'. Refute it at one input. -/
def fnSumSwapWrong : ChangeSpec := { name := "fnSumSwap", fn := fun _ => fun
  | [d1, d2] => { results := [.lit (.bool false)], args := [d1, d2] }
  | _ => none }
def FnSumSwapWrongFalsely : Prop := fnSumSwapRow.holds Try.pinned (OpenSpec.ofChange fnSumSwapWrong)

/-- 'laws.FnFramePut': WHATEVER THE INPUT: true; the input reads as it did. -/
def fnFramePutSpec : ChangeSpec := { name := "fnFramePut", fn := fun _ => fun
  | [d] => { results := [.lit (.bool true)], args := [d] }
  | _ => none }
def fnFramePutRow : OpenClaim := { program := "ytfmdginopdpecaa", sum := "edc74271c2c9bf6d4abe671153c779f33e17abfa4780d53a1cfe4ec921b39edc", func := "loop.example/tiervolume/laws.FnFramePut", spec := "fnFramePut", apart := false }
def FnFramePutSaid : Prop := fnFramePutRow.holds Try.pinned (OpenSpec.ofChange fnFramePutSpec)

/-- ITS FALSE NEIGHBOUR: 'it returns false'. Refute it at one input. -/
def fnFramePutWrong : ChangeSpec := { name := "fnFramePut", fn := fun _ => fun
  | [d] => { results := [.lit (.bool false)], args := [d] }
  | _ => none }
def FnFramePutWrongFalsely : Prop := fnFramePutRow.holds Try.pinned (OpenSpec.ofChange fnFramePutWrong)

/-- 'laws.FnFramePutGet': WHATEVER THE INPUT: true; the input reads as it did. -/
def fnFramePutGetSpec : ChangeSpec := { name := "fnFramePutGet", fn := fun _ => fun
  | [d] => { results := [.lit (.bool true)], args := [d] }
  | _ => none }
def fnFramePutGetRow : OpenClaim := { program := "ytfmdginopdpecaa", sum := "edc74271c2c9bf6d4abe671153c779f33e17abfa4780d53a1cfe4ec921b39edc", func := "loop.example/tiervolume/laws.FnFramePutGet", spec := "fnFramePutGet", apart := false }
def FnFramePutGetSaid : Prop := fnFramePutGetRow.holds Try.pinned (OpenSpec.ofChange fnFramePutGetSpec)

/-- ITS FALSE NEIGHBOUR: 'it returns false'. Refute it at one input. -/
def fnFramePutGetWrong : ChangeSpec := { name := "fnFramePutGet", fn := fun _ => fun
  | [d] => { results := [.lit (.bool false)], args := [d] }
  | _ => none }
def FnFramePutGetWrongFalsely : Prop := fnFramePutGetRow.holds Try.pinned (OpenSpec.ofChange fnFramePutGetWrong)

/-- 'laws.FnFramePutBad': WHATEVER THE INPUT: true; the input reads as it did. -/
def fnFramePutBadSpec : ChangeSpec := { name := "fnFramePutBad", fn := fun _ => fun
  | [d] => { results := [.lit (.bool true)], args := [d] }
  | _ => none }
def fnFramePutBadRow : OpenClaim := { program := "ytfmdginopdpecaa", sum := "edc74271c2c9bf6d4abe671153c779f33e17abfa4780d53a1cfe4ec921b39edc", func := "loop.example/tiervolume/laws.FnFramePutBad", spec := "fnFramePutBad", apart := false }
def FnFramePutBadSaid : Prop := fnFramePutBadRow.holds Try.pinned (OpenSpec.ofChange fnFramePutBadSpec)

/-- ITS FALSE NEIGHBOUR: 'it returns false'. Refute it at one input. -/
def fnFramePutBadWrong : ChangeSpec := { name := "fnFramePutBad", fn := fun _ => fun
  | [d] => { results := [.lit (.bool false)], args := [d] }
  | _ => none }
def FnFramePutBadWrongFalsely : Prop := fnFramePutBadRow.holds Try.pinned (OpenSpec.ofChange fnFramePutBadWrong)

/-- 'laws.FnFrameGet': WHATEVER THE INPUT: true; the input reads as it did. -/
def fnFrameGetSpec : ChangeSpec := { name := "fnFrameGet", fn := fun _ => fun
  | [d] => { results := [.lit (.bool true)], args := [d] }
  | _ => none }
def fnFrameGetRow : OpenClaim := { program := "ytfmdginopdpecaa", sum := "edc74271c2c9bf6d4abe671153c779f33e17abfa4780d53a1cfe4ec921b39edc", func := "loop.example/tiervolume/laws.FnFrameGet", spec := "fnFrameGet", apart := false }
def FnFrameGetSaid : Prop := fnFrameGetRow.holds Try.pinned (OpenSpec.ofChange fnFrameGetSpec)

/-- ITS FALSE NEIGHBOUR: 'it returns false'. Refute it at one input. -/
def fnFrameGetWrong : ChangeSpec := { name := "fnFrameGet", fn := fun _ => fun
  | [d] => { results := [.lit (.bool false)], args := [d] }
  | _ => none }
def FnFrameGetWrongFalsely : Prop := fnFrameGetRow.holds Try.pinned (OpenSpec.ofChange fnFrameGetWrong)

/-- 'laws.FnFrameCut': WHATEVER THE INPUT: true; the input reads as it did. -/
def fnFrameCutSpec : ChangeSpec := { name := "fnFrameCut", fn := fun _ => fun
  | [d] => { results := [.lit (.bool true)], args := [d] }
  | _ => none }
def fnFrameCutRow : OpenClaim := { program := "ytfmdginopdpecaa", sum := "edc74271c2c9bf6d4abe671153c779f33e17abfa4780d53a1cfe4ec921b39edc", func := "loop.example/tiervolume/laws.FnFrameCut", spec := "fnFrameCut", apart := false }
def FnFrameCutSaid : Prop := fnFrameCutRow.holds Try.pinned (OpenSpec.ofChange fnFrameCutSpec)

/-- ITS FALSE NEIGHBOUR: 'it returns false'. Refute it at one input. -/
def fnFrameCutWrong : ChangeSpec := { name := "fnFrameCut", fn := fun _ => fun
  | [d] => { results := [.lit (.bool false)], args := [d] }
  | _ => none }
def FnFrameCutWrongFalsely : Prop := fnFrameCutRow.holds Try.pinned (OpenSpec.ofChange fnFrameCutWrong)

/-- 'laws.FnFrameMove': WHATEVER THE INPUT: true; the input reads as it did. -/
def fnFrameMoveSpec : ChangeSpec := { name := "fnFrameMove", fn := fun _ => fun
  | [d] => { results := [.lit (.bool true)], args := [d] }
  | _ => none }
def fnFrameMoveRow : OpenClaim := { program := "ytfmdginopdpecaa", sum := "edc74271c2c9bf6d4abe671153c779f33e17abfa4780d53a1cfe4ec921b39edc", func := "loop.example/tiervolume/laws.FnFrameMove", spec := "fnFrameMove", apart := false }
def FnFrameMoveSaid : Prop := fnFrameMoveRow.holds Try.pinned (OpenSpec.ofChange fnFrameMoveSpec)

/-- ITS FALSE NEIGHBOUR: 'it returns false'. Refute it at one input. -/
def fnFrameMoveWrong : ChangeSpec := { name := "fnFrameMove", fn := fun _ => fun
  | [d] => { results := [.lit (.bool false)], args := [d] }
  | _ => none }
def FnFrameMoveWrongFalsely : Prop := fnFrameMoveRow.holds Try.pinned (OpenSpec.ofChange fnFrameMoveWrong)

/-- 'laws.FnFrameWord': WHATEVER THE INPUT: true; the input reads as it did. -/
def fnFrameWordSpec : ChangeSpec := { name := "fnFrameWord", fn := fun _ => fun
  | [d1, d2] => { results := [.lit (.bool true)], args := [d1, d2] }
  | _ => none }
def fnFrameWordRow : OpenClaim := { program := "ytfmdginopdpecaa", sum := "edc74271c2c9bf6d4abe671153c779f33e17abfa4780d53a1cfe4ec921b39edc", func := "loop.example/tiervolume/laws.FnFrameWord", spec := "fnFrameWord", apart := false }
def FnFrameWordSaid : Prop := fnFrameWordRow.holds Try.pinned (OpenSpec.ofChange fnFrameWordSpec)

/-- ITS FALSE NEIGHBOUR: 'it returns false'. Refute it at one input. -/
def fnFrameWordWrong : ChangeSpec := { name := "fnFrameWord", fn := fun _ => fun
  | [d1, d2] => { results := [.lit (.bool false)], args := [d1, d2] }
  | _ => none }
def FnFrameWordWrongFalsely : Prop := fnFrameWordRow.holds Try.pinned (OpenSpec.ofChange fnFrameWordWrong)

/-- 'laws.FnExactSumWords': WHATEVER THE INPUT: true; the input reads as it did. -/
def fnExactSumWordsSpec : ChangeSpec := { name := "fnExactSumWords", fn := fun _ => fun
  | [d] => { results := [.lit (.bool true)], args := [d] }
  | _ => none }
def fnExactSumWordsRow : OpenClaim := { program := "ytfmdginopdpecaa", sum := "edc74271c2c9bf6d4abe671153c779f33e17abfa4780d53a1cfe4ec921b39edc", func := "loop.example/tiervolume/laws.FnExactSumWords", spec := "fnExactSumWords", apart := false }
def FnExactSumWordsSaid : Prop := fnExactSumWordsRow.holds Try.pinned (OpenSpec.ofChange fnExactSumWordsSpec)

/-- ITS FALSE NEIGHBOUR: 'it returns false'. Refute it at one input. -/
def fnExactSumWordsWrong : ChangeSpec := { name := "fnExactSumWords", fn := fun _ => fun
  | [d] => { results := [.lit (.bool false)], args := [d] }
  | _ => none }
def FnExactSumWordsWrongFalsely : Prop := fnExactSumWordsRow.holds Try.pinned (OpenSpec.ofChange fnExactSumWordsWrong)

/- THE SECOND FORM. 'bulk': how many values and letters a reading holds, each counted each time it is reached (what is shared counts as often as it is met; a slice's spare places count too). A statement '..UptoSaid' is the law's where the arguments, and the package variables that the reading takes, are together of bulk at most 1048576: NARROWER than '..Said'. Prove '..Said' where nothing that the law and all that it calls make is longer than what came in: it says more and counts as full. Else prove '..UptoSaid'. A law counts once. -/
mutual
def uptoBulk {H : Type} : DataW H → Nat
  | .lit (.string bytes) => bytes.length + 1
  | .lit _ => 1
  | .nil => 1
  | .ptr d => uptoBulk d + 1
  | .slice elems spare => uptoBulkAll elems + uptoBulkAll spare + 1
  | .agg parts => uptoBulkAll parts + 1
  | .iface _ d => uptoBulk d + 1
  | .map entries => uptoBulkEntries entries + 1
  | .held _ => 1
def uptoBulkAll {H : Type} : List (DataW H) → Nat
  | [] => 0
  | d :: r => uptoBulk d + uptoBulkAll r
def uptoBulkEntries {H : Type} : List (Lit × DataW H) → Nat
  | [] => 0
  | x :: r => uptoBulkEntry x + uptoBulkEntries r
def uptoBulkEntry {H : Type} : Lit × DataW H → Nat
  | (.string bytes, d) => bytes.length + uptoBulk d + 1
  | (_, d) => uptoBulk d + 1
 end
def uptoSmall : (H : Type) → List (DataW H) → Bool := fun _ ds => decide (uptoBulkAll ds ≤ 1048576)
def OpenSpec.upto (s : _root_.Go.ChangeSpec) : _root_.Go.OpenSpec := { _root_.Go.OpenSpec.ofChange s with cond := some uptoSmall }

/-- 'laws.FnSumWords', WHERE WHAT IT READS IS OF BULK AT MOST 1048576: true; the input reads as it did. -/
def fnSumWordsUptoRow : OpenClaim := { program := "ytfmdginopdpecaa", sum := "edc74271c2c9bf6d4abe671153c779f33e17abfa4780d53a1cfe4ec921b39edc", func := "loop.example/tiervolume/laws.FnSumWords", spec := "fnSumWords", apart := false, narrowed := true }
def FnSumWordsUptoSaid : Prop := fnSumWordsUptoRow.holds Try.pinned (OpenSpec.upto fnSumWordsSpec)

/-- 'laws.FnSumNext', WHERE WHAT IT READS IS OF BULK AT MOST 1048576: true; the input reads as it did. -/
def fnSumNextUptoRow : OpenClaim := { program := "ytfmdginopdpecaa", sum := "edc74271c2c9bf6d4abe671153c779f33e17abfa4780d53a1cfe4ec921b39edc", func := "loop.example/tiervolume/laws.FnSumNext", spec := "fnSumNext", apart := false, narrowed := true }
def FnSumNextUptoSaid : Prop := fnSumNextUptoRow.holds Try.pinned (OpenSpec.upto fnSumNextSpec)

/-- 'laws.FnSumChange', WHERE WHAT IT READS IS OF BULK AT MOST 1048576: true; the input reads as it did. -/
def fnSumChangeUptoRow : OpenClaim := { program := "ytfmdginopdpecaa", sum := "edc74271c2c9bf6d4abe671153c779f33e17abfa4780d53a1cfe4ec921b39edc", func := "loop.example/tiervolume/laws.FnSumChange", spec := "fnSumChange", apart := false, narrowed := true }
def FnSumChangeUptoSaid : Prop := fnSumChangeUptoRow.holds Try.pinned (OpenSpec.upto fnSumChangeSpec)

/-- 'laws.FnSumSwap', WHERE WHAT IT READS IS OF BULK AT MOST 1048576: true; the input reads as it did. -/
def fnSumSwapUptoRow : OpenClaim := { program := "ytfmdginopdpecaa", sum := "edc74271c2c9bf6d4abe671153c779f33e17abfa4780d53a1cfe4ec921b39edc", func := "loop.example/tiervolume/laws.FnSumSwap", spec := "fnSumSwap", apart := false, narrowed := true }
def FnSumSwapUptoSaid : Prop := fnSumSwapUptoRow.holds Try.pinned (OpenSpec.upto fnSumSwapSpec)

/-- 'laws.FnFramePut', WHERE WHAT IT READS IS OF BULK AT MOST 1048576: true; the input reads as it did. -/
def fnFramePutUptoRow : OpenClaim := { program := "ytfmdginopdpecaa", sum := "edc74271c2c9bf6d4abe671153c779f33e17abfa4780d53a1cfe4ec921b39edc", func := "loop.example/tiervolume/laws.FnFramePut", spec := "fnFramePut", apart := false, narrowed := true }
def FnFramePutUptoSaid : Prop := fnFramePutUptoRow.holds Try.pinned (OpenSpec.upto fnFramePutSpec)

/-- 'laws.FnFramePutGet', WHERE WHAT IT READS IS OF BULK AT MOST 1048576: true; the input reads as it did. -/
def fnFramePutGetUptoRow : OpenClaim := { program := "ytfmdginopdpecaa", sum := "edc74271c2c9bf6d4abe671153c779f33e17abfa4780d53a1cfe4ec921b39edc", func := "loop.example/tiervolume/laws.FnFramePutGet", spec := "fnFramePutGet", apart := false, narrowed := true }
def FnFramePutGetUptoSaid : Prop := fnFramePutGetUptoRow.holds Try.pinned (OpenSpec.upto fnFramePutGetSpec)

/-- 'laws.FnFramePutBad', WHERE WHAT IT READS IS OF BULK AT MOST 1048576: true; the input reads as it did. -/
def fnFramePutBadUptoRow : OpenClaim := { program := "ytfmdginopdpecaa", sum := "edc74271c2c9bf6d4abe671153c779f33e17abfa4780d53a1cfe4ec921b39edc", func := "loop.example/tiervolume/laws.FnFramePutBad", spec := "fnFramePutBad", apart := false, narrowed := true }
def FnFramePutBadUptoSaid : Prop := fnFramePutBadUptoRow.holds Try.pinned (OpenSpec.upto fnFramePutBadSpec)

/-- 'laws.FnFrameGet', WHERE WHAT IT READS IS OF BULK AT MOST 1048576: true; the input reads as it did. -/
def fnFrameGetUptoRow : OpenClaim := { program := "ytfmdginopdpecaa", sum := "edc74271c2c9bf6d4abe671153c779f33e17abfa4780d53a1cfe4ec921b39edc", func := "loop.example/tiervolume/laws.FnFrameGet", spec := "fnFrameGet", apart := false, narrowed := true }
def FnFrameGetUptoSaid : Prop := fnFrameGetUptoRow.holds Try.pinned (OpenSpec.upto fnFrameGetSpec)

/-- 'laws.FnFrameCut', WHERE WHAT IT READS IS OF BULK AT MOST 1048576: true; the input reads as it did. -/
def fnFrameCutUptoRow : OpenClaim := { program := "ytfmdginopdpecaa", sum := "edc74271c2c9bf6d4abe671153c779f33e17abfa4780d53a1cfe4ec921b39edc", func := "loop.example/tiervolume/laws.FnFrameCut", spec := "fnFrameCut", apart := false, narrowed := true }
def FnFrameCutUptoSaid : Prop := fnFrameCutUptoRow.holds Try.pinned (OpenSpec.upto fnFrameCutSpec)

/-- 'laws.FnFrameMove', WHERE WHAT IT READS IS OF BULK AT MOST 1048576: true; the input reads as it did. -/
def fnFrameMoveUptoRow : OpenClaim := { program := "ytfmdginopdpecaa", sum := "edc74271c2c9bf6d4abe671153c779f33e17abfa4780d53a1cfe4ec921b39edc", func := "loop.example/tiervolume/laws.FnFrameMove", spec := "fnFrameMove", apart := false, narrowed := true }
def FnFrameMoveUptoSaid : Prop := fnFrameMoveUptoRow.holds Try.pinned (OpenSpec.upto fnFrameMoveSpec)

/-- 'laws.FnFrameWord', WHERE WHAT IT READS IS OF BULK AT MOST 1048576: true; the input reads as it did. -/
def fnFrameWordUptoRow : OpenClaim := { program := "ytfmdginopdpecaa", sum := "edc74271c2c9bf6d4abe671153c779f33e17abfa4780d53a1cfe4ec921b39edc", func := "loop.example/tiervolume/laws.FnFrameWord", spec := "fnFrameWord", apart := false, narrowed := true }
def FnFrameWordUptoSaid : Prop := fnFrameWordUptoRow.holds Try.pinned (OpenSpec.upto fnFrameWordSpec)

/-- 'laws.FnExactSumWords', WHERE WHAT IT READS IS OF BULK AT MOST 1048576: true; the input reads as it did. -/
def fnExactSumWordsUptoRow : OpenClaim := { program := "ytfmdginopdpecaa", sum := "edc74271c2c9bf6d4abe671153c779f33e17abfa4780d53a1cfe4ec921b39edc", func := "loop.example/tiervolume/laws.FnExactSumWords", spec := "fnExactSumWords", apart := false, narrowed := true }
def FnExactSumWordsUptoSaid : Prop := fnExactSumWordsUptoRow.holds Try.pinned (OpenSpec.upto fnExactSumWordsSpec)

end Rows
end Go.Proofs.Ytfmdginopdpecaa
