/-
  Plain facts: blocks that ascend, one by one.
-/
import Derived.Test.YtiopbgenkalfaaaPairM
namespace Go.Proofs.Ytiopbgenkalfaaa
open Go.RowKit
set_option linter.unusedVariables false
set_option maxRecDepth 100000

def sliceLen : Value → Nat
  | .slice _ n _ => n
  | _ => 0

/-- the blocks of n records of s numbers -/
def blocksOf (s : Nat) (xs : List Int) (n : Nat) : List Int := (List.range n).map fun j => xs.getD (j * s) 0
theorem blocksOf_length (s : Nat) (xs : List Int) (n : Nat) : (blocksOf s xs n).length = n := by simp [blocksOf]
theorem blocksOf_succ (s : Nat) (xs : List Int) (n : Nat) : blocksOf s xs (n + 1) = blocksOf s xs n ++ [xs.getD (n * s) 0] := by simp [blocksOf, List.range_succ]
theorem blocksOf_getD (s : Nat) (xs : List Int) (n j : Nat) (h : j < n) : (blocksOf s xs n).getD j 0 = xs.getD (j * s) 0 := by simp [blocksOf, List.getD, h]
theorem blocksOf_prefix (s : Nat) (xs : List Int) {k n : Nat} (h : k ≤ n) : blocksOf s xs k <+: blocksOf s xs n := by
  obtain ⟨d, rfl⟩ := Nat.exists_eq_add_of_le h
  induction d with
  | zero => exact List.prefix_rfl
  | succ d ih => rw [← Nat.add_assoc, blocksOf_succ]; exact (ih (by omega)).trans (List.prefix_append _ _)

theorem stepR_congr {s t : Nat} {xs ys : List Int} {j : Nat} (h : ∀ i, i ≤ j → xs.getD (i * s) 0 = ys.getD (i * t) 0) : stepR s xs j = stepR t ys j := by
  unfold stepR
  have hp : prevR s xs j = prevR t ys j := by
    cases j with
    | zero => rfl
    | succ j => exact h j (by omega)
  rw [hp, h j (Nat.le_refl _)]
theorem all_congr' {n : Nat} {f g : Nat → Bool} (h : ∀ j, j < n → f j = g j) : (List.range n).all f = (List.range n).all g := by
  induction n with
  | zero => rfl
  | succ n ih => rw [all_succ, all_succ, ih (fun j hj => h j (by omega)), h n (by omega)]
theorem asc_blocks (s : Nat) (xs : List Int) (n : Nat) : asc 1 (blocksOf s xs n) n = asc s xs n :=
  all_congr' fun j hj => stepR_congr fun i hi => by rw [Nat.mul_one]; exact blocksOf_getD s xs n i (by omega)
theorem getD_snoc_lt (pre : List Int) (x : Int) (i : Nat) (h : i < pre.length) : (pre ++ [x]).getD i 0 = pre.getD i 0 := by
  simp [List.getD, List.getElem?_append_left h]
theorem getD_snoc_eq (pre : List Int) (x : Int) : (pre ++ [x]).getD pre.length 0 = x := by simp [List.getD]
theorem prevR_snoc (pre : List Int) (x : Int) : prevR 1 (pre ++ [x]) (pre ++ [x]).length = x := by
  rw [List.length_append]
  show (pre ++ [x]).getD (pre.length * 1) 0 = x
  rw [Nat.mul_one, getD_snoc_eq]
theorem prevR_len (pre : List Int) (x : Int) : prevR 1 (pre ++ [x]) pre.length = prevR 1 pre pre.length := by
  cases h : pre.length with
  | zero => rfl
  | succ k =>
    show (pre ++ [x]).getD (k * 1) 0 = pre.getD (k * 1) 0
    rw [Nat.mul_one, getD_snoc_lt _ _ _ (by omega)]
theorem asc_snoc (pre : List Int) (x : Int) : asc 1 (pre ++ [x]) (pre ++ [x]).length = (asc 1 pre pre.length && (decide (prevR 1 pre pre.length < x) && decide (x ≤ 11))) := by
  rw [List.length_append]
  show (List.range (pre.length + 1)).all (stepR 1 (pre ++ [x])) = _
  rw [all_succ]
  congr 1
  · exact all_congr' fun j hj => stepR_congr fun i hi => by rw [Nat.mul_one, getD_snoc_lt _ _ _ (by omega)]
  · unfold stepR
    rw [prevR_len, Nat.mul_one, getD_snoc_eq]
theorem asc_prefix {pre bl : List Int} (h : pre <+: bl) (ha : asc 1 pre pre.length = false) : asc 1 bl bl.length = false := by
  obtain ⟨post, rfl⟩ := h
  unfold asc at ha ⊢
  refine all_le (k := pre.length) (by simp) ?_
  rw [← ha]
  exact all_congr' fun j hj => stepR_congr fun i hi => by rw [Nat.mul_one]; simp [List.getD, List.getElem?_append_left (show i < pre.length by omega)]
end Go.Proofs.Ytiopbgenkalfaaa
