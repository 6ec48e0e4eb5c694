/-
  Which functions of the library this program bears: slices.Sorted, maps.Keys, slices.Sort and what they call, by their numbers here. Plain.
-/
import Derived.Test.YtapfbkjgmfmepaaProg
import Derived.Shelf.SlLaysE
import Derived.Shelf.SlGeneric
namespace Go.Proofs.Ytapfbkjgmfmepaa
open Go.Shelf
set_option linter.unusedVariables false
set_option maxRecDepth 100000

def delT_ren : Go.Shelf.Ren := ⟨fun | 45 => 59 | n => n, fun | 22 => 61 | 23 => 69 | 3 => 3 | 4 => 4 | 0 => 0 | n => n, fun | n => n⟩

theorem delT : Go.Proofs.SlLaysE.n45 Try.prog delT_ren := {
  mixed := by kernel_rfl,
  f45 := ⟨Try.f59.name, by decide, Try.func59.trans (congrArg some (by kernel_rfl))⟩,
  t0 := Try.underlying0,
  a0 := Try.isAgg0,
  z0 := Try.sizeOf0,
  v0 := Try.zeroValue0,
  t3 := Try.underlying3,
  a3 := Try.isAgg3,
  z3 := Try.sizeOf3,
  v3 := Try.zeroValue3,
  t4 := Try.underlying4,
  a4 := Try.isAgg4,
  z4 := Try.sizeOf4,
  v4 := Try.zeroValue4,
  t22 := Try.underlying61,
  a22 := Try.isAgg61,
  z22 := Try.sizeOf61,
  v22 := Try.zeroValue61,
  a23 := Try.isAgg69,
  z23 := Try.sizeOf69 }
end Go.Proofs.Ytapfbkjgmfmepaa
