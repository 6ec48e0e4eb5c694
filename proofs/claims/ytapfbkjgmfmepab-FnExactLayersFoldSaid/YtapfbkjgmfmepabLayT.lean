/-
  Which functions of the library this program bears: slices.Sorted, maps.Keys, slices.Sort and what they call, by their numbers here. Plain.
-/
import Derived.Test.YtapfbkjgmfmepabProg
import Derived.Shelf.SlLaysE
import Derived.Shelf.SlGeneric
namespace Go.Proofs.Ytapfbkjgmfmepab
open Go.Shelf
set_option linter.unusedVariables false
set_option maxRecDepth 100000

def delT_ren : Go.Shelf.Ren := ⟨fun | 45 => 26 | n => n, fun | 22 => 44 | 23 => 47 | 3 => 3 | 4 => 4 | 0 => 0 | n => n, fun | n => n⟩

theorem delT : Go.Proofs.SlLaysE.n45 Try.prog delT_ren := {
  mixed := by kernel_rfl,
  f45 := ⟨Try.f26.name, by decide, Try.func26.trans (congrArg some (by kernel_rfl))⟩,
  t0 := Try.underlying0,
  a0 := Try.isAgg0,
  z0 := Try.sizeOf0,
  v0 := Try.zeroValue0,
  t3 := Try.underlying3,
  a3 := Try.isAgg3,
  z3 := Try.sizeOf3,
  v3 := Try.zeroValue3,
  t4 := Try.underlying4,
  a4 := Try.isAgg4,
  z4 := Try.sizeOf4,
  v4 := Try.zeroValue4,
  t22 := Try.underlying44,
  a22 := Try.isAgg44,
  z22 := Try.sizeOf44,
  v22 := Try.zeroValue44,
  a23 := Try.isAgg47,
  z23 := Try.sizeOf47 }
end Go.Proofs.Ytapfbkjgmfmepab
