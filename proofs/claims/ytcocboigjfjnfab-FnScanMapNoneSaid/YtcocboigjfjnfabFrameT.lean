/-
  The cursor of the frames: slices.Clone, take.
-/
import Derived.Test.YtcocboigjfjnfabG1
import Derived.Deep.RegionHeld3
namespace Go.Proofs.Ytcocboigjfjnfab
open Go.RowKit
set_option linter.unusedVariables false
set_option maxRecDepth 100000

/-- words from place a on, m of them -/
def cutW (xs : List Int) (a m : Nat) : List Int := (xs.drop a).take m
theorem cutW_eq (xs : List Int) (a m : Nat) : (xs.take (a + m)).drop a = cutW xs a m := by
  unfold cutW
  rw [List.drop_take, Nat.add_sub_cancel_left]
theorem cutW_length (xs : List Int) (a m : Nat) (h : a + m ≤ xs.length) : (cutW xs a m).length = m := by
  unfold cutW; rw [List.length_take, List.length_drop]; omega
theorem cutW_getD (xs : List Int) (a m j : Nat) (h : j < m) : (cutW xs a m).getD j 0 = xs.getD (a + j) 0 := by
  unfold cutW; rw [getD_take' _ _ _ h, getD_drop']

theorem Ints.cut' {w : World} {B n c : Nat} {A : Option Addr} {xs : List Int} (h : Ints w B A n xs) {a m : Nat} (hm : a + m ≤ n) (hc : n ≤ c) : Ints w B (if c = a then A else A.map (·.add a)) m (cutW xs a m) := by
  have := h.cut (k := a) (m := a + m) (cap := c) (by omega) hm hc
  rwa [cutW_eq, Nat.add_sub_cancel_left] at this

end Go.Proofs.Ytcocboigjfjnfab
