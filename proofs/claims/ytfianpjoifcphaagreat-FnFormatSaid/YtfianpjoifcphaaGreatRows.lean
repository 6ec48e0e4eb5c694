/-
  No cell of these rows narrows 'for every input' (looked for: loops, veiled, ifaces, maps, wideKeys, modest, calm, conditions, laid).
  DERIVED. THE GIVEN ROWS OF THIS SEAT. 6 by the template 'for every input the law returns true; each argument reads behind the call as it read before'; 0 by the template 'total and deterministic' (their statements: YtfianpjoifcphaaGreatTotals.lean).
  GIVEN WITH THE SEED: the statements are not yours to turn. If you find one false, say at which input.
  Laid BY PROGRAM, IN A SANDBOX (cutbox-rows.mjs): the forced cells as the released guide's own fill.sh prints them over the translation 8ec63348ee631938… (all of the seat's roots in one cut). By AI agents, Wed Nov 11 2026. No macro, syntax, notation, axiom, sorry.
-/
import Derived.Test.YtfianpjoifcphaaGreatChecked
import GoSem.Claim
import GoSem.ClaimJoined
import GoSem.ClaimMapViews
import Derived.JoinedTies
import Derived.KernelRfl
namespace Go.Proofs.YtfianpjoifcphaaGreat
/- THE CELL 'sum', in the pinned program and in every row, IS THE sha256 OF THE DUMP (.gsa) THAT YtfianpjoifcphaaGreatProg.lean LOADS. Nothing in Lean hashes anything: it is a label: what it is worth is what the hold of that sum in a sandbox is worth. -/
noncomputable def Tryz.pinned : Pinned := { name := "ytfianpjoifcphaagreat", sum := "8ec63348ee631938016f4983cce055d95387702b5c8c4d27bf7b84390aee4f94", checked := Tryz.checked }
namespace Rows
def none {H : Type} : Left H := { results := [], args := [] }

/-- 'laws.FnFormat': WHATEVER THE INPUT: true; the input reads as it did. -/
def fnFormatSpec : ChangeSpec := { name := "fnFormat", fn := fun _ => fun
  | [d] => { results := [.lit (.bool true)], args := [d] }
  | _ => none }
def fnFormatRow : OpenClaim := { program := "ytfianpjoifcphaagreat", sum := "8ec63348ee631938016f4983cce055d95387702b5c8c4d27bf7b84390aee4f94", func := "loop.example/tiervolume/laws.FnFormat", spec := "fnFormat", unfollowed := true, recurses := true, apart := false }
def FnFormatSaid : Prop := fnFormatRow.holds Tryz.pinned (OpenSpec.ofChange fnFormatSpec)

/-- ITS FALSE NEIGHBOUR: 'it returns false'. Refute it at one input. -/
def fnFormatWrong : ChangeSpec := { name := "fnFormat", fn := fun _ => fun
  | [d] => { results := [.lit (.bool false)], args := [d] }
  | _ => none }
def FnFormatWrongFalsely : Prop := fnFormatRow.holds Tryz.pinned (OpenSpec.ofChange fnFormatWrong)

/-- 'laws.FnExactVolumeUse': WHATEVER THE INPUT: true; the input reads as it did. -/
def fnExactVolumeUseSpec : ChangeSpec := { name := "fnExactVolumeUse", fn := fun _ => fun
  | [d1, d2] => { results := [.lit (.bool true)], args := [d1, d2] }
  | _ => none }
def fnExactVolumeUseRow : OpenClaim := { program := "ytfianpjoifcphaagreat", sum := "8ec63348ee631938016f4983cce055d95387702b5c8c4d27bf7b84390aee4f94", func := "loop.example/tiervolume/laws.FnExactVolumeUse", spec := "fnExactVolumeUse", unfollowed := true, recurses := true, apart := false }
def FnExactVolumeUseSaid : Prop := fnExactVolumeUseRow.holds Tryz.pinned (OpenSpec.ofChange fnExactVolumeUseSpec)

/-- ITS FALSE NEIGHBOUR: 'it returns false'. Refute it at one input. -/
def fnExactVolumeUseWrong : ChangeSpec := { name := "fnExactVolumeUse", fn := fun _ => fun
  | [d1, d2] => { results := [.lit (.bool false)], args := [d1, d2] }
  | _ => none }
def FnExactVolumeUseWrongFalsely : Prop := fnExactVolumeUseRow.holds Tryz.pinned (OpenSpec.ofChange fnExactVolumeUseWrong)

/-- 'laws.FnExactVolumeSync': WHATEVER THE INPUT: true; the input reads as it did. -/
def fnExactVolumeSyncSpec : ChangeSpec := { name := "fnExactVolumeSync", fn := fun _ => fun
  | [d] => { results := [.lit (.bool true)], args := [d] }
  | _ => none }
def fnExactVolumeSyncRow : OpenClaim := { program := "ytfianpjoifcphaagreat", sum := "8ec63348ee631938016f4983cce055d95387702b5c8c4d27bf7b84390aee4f94", func := "loop.example/tiervolume/laws.FnExactVolumeSync", spec := "fnExactVolumeSync", unfollowed := true, recurses := true, apart := false }
def FnExactVolumeSyncSaid : Prop := fnExactVolumeSyncRow.holds Tryz.pinned (OpenSpec.ofChange fnExactVolumeSyncSpec)

/-- ITS FALSE NEIGHBOUR: 'it returns false'. Refute it at one input. -/
def fnExactVolumeSyncWrong : ChangeSpec := { name := "fnExactVolumeSync", fn := fun _ => fun
  | [d] => { results := [.lit (.bool false)], args := [d] }
  | _ => none }
def FnExactVolumeSyncWrongFalsely : Prop := fnExactVolumeSyncRow.holds Tryz.pinned (OpenSpec.ofChange fnExactVolumeSyncWrong)

/-- 'laws.FnExactVolumeAll': WHATEVER THE INPUT: true; the input reads as it did. -/
def fnExactVolumeAllSpec : ChangeSpec := { name := "fnExactVolumeAll", fn := fun _ => fun
  | [d] => { results := [.lit (.bool true)], args := [d] }
  | _ => none }
def fnExactVolumeAllRow : OpenClaim := { program := "ytfianpjoifcphaagreat", sum := "8ec63348ee631938016f4983cce055d95387702b5c8c4d27bf7b84390aee4f94", func := "loop.example/tiervolume/laws.FnExactVolumeAll", spec := "fnExactVolumeAll", unfollowed := true, recurses := true, apart := false }
def FnExactVolumeAllSaid : Prop := fnExactVolumeAllRow.holds Tryz.pinned (OpenSpec.ofChange fnExactVolumeAllSpec)

/-- ITS FALSE NEIGHBOUR: 'it returns false'. Refute it at one input. -/
def fnExactVolumeAllWrong : ChangeSpec := { name := "fnExactVolumeAll", fn := fun _ => fun
  | [d] => { results := [.lit (.bool false)], args := [d] }
  | _ => none }
def FnExactVolumeAllWrongFalsely : Prop := fnExactVolumeAllRow.holds Tryz.pinned (OpenSpec.ofChange fnExactVolumeAllWrong)

/-- 'laws.FnExactVolumeFree': WHATEVER THE INPUT: true; the input reads as it did. -/
def fnExactVolumeFreeSpec : ChangeSpec := { name := "fnExactVolumeFree", fn := fun _ => fun
  | [d] => { results := [.lit (.bool true)], args := [d] }
  | _ => none }
def fnExactVolumeFreeRow : OpenClaim := { program := "ytfianpjoifcphaagreat", sum := "8ec63348ee631938016f4983cce055d95387702b5c8c4d27bf7b84390aee4f94", func := "loop.example/tiervolume/laws.FnExactVolumeFree", spec := "fnExactVolumeFree", unfollowed := true, recurses := true, apart := false }
def FnExactVolumeFreeSaid : Prop := fnExactVolumeFreeRow.holds Tryz.pinned (OpenSpec.ofChange fnExactVolumeFreeSpec)

/-- ITS FALSE NEIGHBOUR: 'it returns false'. Refute it at one input. -/
def fnExactVolumeFreeWrong : ChangeSpec := { name := "fnExactVolumeFree", fn := fun _ => fun
  | [d] => { results := [.lit (.bool false)], args := [d] }
  | _ => none }
def FnExactVolumeFreeWrongFalsely : Prop := fnExactVolumeFreeRow.holds Tryz.pinned (OpenSpec.ofChange fnExactVolumeFreeWrong)

/-- 'laws.FnExactRunCheck': WHATEVER THE INPUT: true; the input reads as it did. -/
def fnExactRunCheckSpec : ChangeSpec := { name := "fnExactRunCheck", fn := fun _ => fun
  | [d1, d2] => { results := [.lit (.bool true)], args := [d1, d2] }
  | _ => none }
def fnExactRunCheckRow : OpenClaim := { program := "ytfianpjoifcphaagreat", sum := "8ec63348ee631938016f4983cce055d95387702b5c8c4d27bf7b84390aee4f94", func := "loop.example/tiervolume/laws.FnExactRunCheck", spec := "fnExactRunCheck", apart := false }
def FnExactRunCheckSaid : Prop := fnExactRunCheckRow.holds Tryz.pinned (OpenSpec.ofChange fnExactRunCheckSpec)

/-- ITS FALSE NEIGHBOUR: 'it returns false'. Refute it at one input. -/
def fnExactRunCheckWrong : ChangeSpec := { name := "fnExactRunCheck", fn := fun _ => fun
  | [d1, d2] => { results := [.lit (.bool false)], args := [d1, d2] }
  | _ => none }
def FnExactRunCheckWrongFalsely : Prop := fnExactRunCheckRow.holds Tryz.pinned (OpenSpec.ofChange fnExactRunCheckWrong)

/- THE SECOND FORM. 'bulk': how many values and letters a reading holds, each counted each time it is reached (what is shared counts as often as it is met; a slice's spare places count too). A statement '..UptoSaid' is the law's where the arguments, and the package variables that the reading takes, are together of bulk at most 1048576: NARROWER than '..Said'. Prove '..Said' where nothing that the law and all that it calls make is longer than what came in: it says more and counts as full. Else prove '..UptoSaid'. A law counts once. -/
mutual
def uptoBulk {H : Type} : DataW H → Nat
  | .lit (.string bytes) => bytes.length + 1
  | .lit _ => 1
  | .nil => 1
  | .ptr d => uptoBulk d + 1
  | .slice elems spare => uptoBulkAll elems + uptoBulkAll spare + 1
  | .agg parts => uptoBulkAll parts + 1
  | .iface _ d => uptoBulk d + 1
  | .map entries => uptoBulkEntries entries + 1
  | .held _ => 1
def uptoBulkAll {H : Type} : List (DataW H) → Nat
  | [] => 0
  | d :: r => uptoBulk d + uptoBulkAll r
def uptoBulkEntries {H : Type} : List (Lit × DataW H) → Nat
  | [] => 0
  | x :: r => uptoBulkEntry x + uptoBulkEntries r
def uptoBulkEntry {H : Type} : Lit × DataW H → Nat
  | (.string bytes, d) => bytes.length + uptoBulk d + 1
  | (_, d) => uptoBulk d + 1
 end
def uptoSmall : (H : Type) → List (DataW H) → Bool := fun _ ds => decide (uptoBulkAll ds ≤ 1048576)
def OpenSpec.upto (s : _root_.Go.ChangeSpec) : _root_.Go.OpenSpec := { _root_.Go.OpenSpec.ofChange s with cond := some uptoSmall }

/-- 'laws.FnFormat', WHERE WHAT IT READS IS OF BULK AT MOST 1048576: true; the input reads as it did. -/
def fnFormatUptoRow : OpenClaim := { program := "ytfianpjoifcphaagreat", sum := "8ec63348ee631938016f4983cce055d95387702b5c8c4d27bf7b84390aee4f94", func := "loop.example/tiervolume/laws.FnFormat", spec := "fnFormat", unfollowed := true, recurses := true, apart := false, narrowed := true }
def FnFormatUptoSaid : Prop := fnFormatUptoRow.holds Tryz.pinned (OpenSpec.upto fnFormatSpec)

/-- 'laws.FnExactVolumeUse', WHERE WHAT IT READS IS OF BULK AT MOST 1048576: true; the input reads as it did. -/
def fnExactVolumeUseUptoRow : OpenClaim := { program := "ytfianpjoifcphaagreat", sum := "8ec63348ee631938016f4983cce055d95387702b5c8c4d27bf7b84390aee4f94", func := "loop.example/tiervolume/laws.FnExactVolumeUse", spec := "fnExactVolumeUse", unfollowed := true, recurses := true, apart := false, narrowed := true }
def FnExactVolumeUseUptoSaid : Prop := fnExactVolumeUseUptoRow.holds Tryz.pinned (OpenSpec.upto fnExactVolumeUseSpec)

/-- 'laws.FnExactVolumeSync', WHERE WHAT IT READS IS OF BULK AT MOST 1048576: true; the input reads as it did. -/
def fnExactVolumeSyncUptoRow : OpenClaim := { program := "ytfianpjoifcphaagreat", sum := "8ec63348ee631938016f4983cce055d95387702b5c8c4d27bf7b84390aee4f94", func := "loop.example/tiervolume/laws.FnExactVolumeSync", spec := "fnExactVolumeSync", unfollowed := true, recurses := true, apart := false, narrowed := true }
def FnExactVolumeSyncUptoSaid : Prop := fnExactVolumeSyncUptoRow.holds Tryz.pinned (OpenSpec.upto fnExactVolumeSyncSpec)

/-- 'laws.FnExactVolumeAll', WHERE WHAT IT READS IS OF BULK AT MOST 1048576: true; the input reads as it did. -/
def fnExactVolumeAllUptoRow : OpenClaim := { program := "ytfianpjoifcphaagreat", sum := "8ec63348ee631938016f4983cce055d95387702b5c8c4d27bf7b84390aee4f94", func := "loop.example/tiervolume/laws.FnExactVolumeAll", spec := "fnExactVolumeAll", unfollowed := true, recurses := true, apart := false, narrowed := true }
def FnExactVolumeAllUptoSaid : Prop := fnExactVolumeAllUptoRow.holds Tryz.pinned (OpenSpec.upto fnExactVolumeAllSpec)

/-- 'laws.FnExactVolumeFree', WHERE WHAT IT READS IS OF BULK AT MOST 1048576: true; the input reads as it did. -/
def fnExactVolumeFreeUptoRow : OpenClaim := { program := "ytfianpjoifcphaagreat", sum := "8ec63348ee631938016f4983cce055d95387702b5c8c4d27bf7b84390aee4f94", func := "loop.example/tiervolume/laws.FnExactVolumeFree", spec := "fnExactVolumeFree", unfollowed := true, recurses := true, apart := false, narrowed := true }
def FnExactVolumeFreeUptoSaid : Prop := fnExactVolumeFreeUptoRow.holds Tryz.pinned (OpenSpec.upto fnExactVolumeFreeSpec)

/-- 'laws.FnExactRunCheck', WHERE WHAT IT READS IS OF BULK AT MOST 1048576: true; the input reads as it did. -/
def fnExactRunCheckUptoRow : OpenClaim := { program := "ytfianpjoifcphaagreat", sum := "8ec63348ee631938016f4983cce055d95387702b5c8c4d27bf7b84390aee4f94", func := "loop.example/tiervolume/laws.FnExactRunCheck", spec := "fnExactRunCheck", apart := false, narrowed := true }
def FnExactRunCheckUptoSaid : Prop := fnExactRunCheckUptoRow.holds Tryz.pinned (OpenSpec.upto fnExactRunCheckSpec)

end Rows
end Go.Proofs.YtfianpjoifcphaaGreat
