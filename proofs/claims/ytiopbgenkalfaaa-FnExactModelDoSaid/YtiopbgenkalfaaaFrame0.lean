/-
  What a row's reading of the arguments gives to my walks: bytes and integers that can be read, their bounds.
-/
import Derived.Test.YtiopbgenkalfaaaRng
import Derived.ProofKit
import Derived.OpenShut
namespace Go.Proofs.Ytiopbgenkalfaaa
open Go.RowKit
set_option linter.unusedVariables false
set_option maxRecDepth 100000

theorem own : ownKnob Try.prog.godebug = none := by kernel_rfl
theorem laidOut : laidOutB Try.prog = true := by kernel_rfl

theorem wf_lo {x : Int} (h : (Lit.int .i64 x).wf = true) : -9223372036854775808 ≤ x := by
  have h1 : IntKind.i64.min = -9223372036854775808 := rfl
  have h2 : IntKind.i64.max = 9223372036854775807 := rfl
  simp only [Lit.wf, Bool.and_eq_true, decide_eq_true_eq] at h
  omega
theorem wf_hi {x : Int} (h : (Lit.int .i64 x).wf = true) : x ≤ 9223372036854775807 := by
  have h1 : IntKind.i64.min = -9223372036854775808 := rfl
  have h2 : IntKind.i64.max = 9223372036854775807 := rfl
  simp only [Lit.wf, Bool.and_eq_true, decide_eq_true_eq] at h
  omega
theorem wf_u8 {x : Int} (h : (Lit.int .u8 x).wf = true) : 0 ≤ x ∧ x ≤ 255 := by
  have h1 : IntKind.u8.min = 0 := rfl
  have h2 : IntKind.u8.max = 255 := rfl
  simp only [Lit.wf, Bool.and_eq_true, decide_eq_true_eq] at h
  omega

theorem ints_of {W : World} {x : Addr} {l c : Nat} {zs : List Int} (hl : l ≤ c) (hz : zs.length = c) (hcell : ∀ i, i < zs.length → W.cell? (x.add i) = some (.int .i64 (zs.getD i 0))) :
    Ints W W.heap.size (some x) l (zs.take l) := by
  refine ⟨by rw [List.length_take]; omega, fun hn => ⟨x, rfl, ?_, fun j hj => ?_⟩⟩
  · have := World.block_lt_of_cell? W _ (hcell 0 (by omega))
    rwa [block_of_add] at this
  · rw [getD_take' _ _ _ hj]
    exact hcell j (by omega)

theorem rng_of {zs : List Int} (hwz : ∀ n ∈ zs, (Lit.int .i64 n).wf = true) (l : Nat) : Rng (-9223372036854775808) 9223372036854775807 (zs.take l) :=
  fun x hx => ⟨wf_lo (hwz x (List.mem_of_mem_take hx)), wf_hi (hwz x (List.mem_of_mem_take hx))⟩
end Go.Proofs.Ytiopbgenkalfaaa
