/-
  Plain facts on lists of values and of places, read as their numbers, s for each: which are valid.
-/
import Derived.Test.YtiopbgenkalfaaaSum
namespace Go.Proofs.Ytiopbgenkalfaaa
open Go.RowKit
set_option linter.unusedVariables false
set_option maxRecDepth 100000

theorem all_succ (k : Nat) (f : Nat → Bool) : (List.range (k + 1)).all f = ((List.range k).all f && f k) := by simp [List.range_succ]
theorem all_no {n k : Nat} {f : Nat → Bool} (hk : k < n) (h : f k = false) : (List.range n).all f = false := by
  rw [List.all_eq_false]
  exact ⟨k, by simpa using hk, by simp [h]⟩
theorem all_le {n k : Nat} {f : Nat → Bool} (hk : k ≤ n) (h : (List.range k).all f = false) : (List.range n).all f = false := by
  rw [List.all_eq_false] at h ⊢
  obtain ⟨j, hj, hf⟩ := h
  exact ⟨j, by simp at hj ⊢; omega, hf⟩
theorem all_at {n k : Nat} {f : Nat → Bool} (h : (List.range n).all f = true) (hk : k < n) : f k = true := List.all_eq_true.1 h k (by simpa using hk)
theorem all_of {n : Nat} {f : Nat → Bool} (h : ∀ k, k < n → f k = true) : (List.range n).all f = true := List.all_eq_true.2 fun k hk => h k (by simpa using hk)

/-- the block ahead of record j, or -1 -/
def prevR (s : Nat) (xs : List Int) : Nat → Int
  | 0 => -1
  | j + 1 => xs.getD (j * s) 0
/-- record j's block may follow -/
def stepR (s : Nat) (xs : List Int) (j : Nat) : Bool := decide (prevR s xs j < xs.getD (j * s) 0) && decide (xs.getD (j * s) 0 ≤ 11)
def fldP (xs : List Int) (j : Nat) : Bool := decide (0 ≤ xs.getD (j * 2 + 1) 0) && decide (xs.getD (j * 2 + 1) 0 ≤ 99)
def fldC (xs : List Int) (j : Nat) : Bool := (decide (1 ≤ xs.getD (j * 3 + 1) 0) && decide (xs.getD (j * 3 + 1) 0 ≤ 999)) && (decide (0 ≤ xs.getD (j * 3 + 2) 0) && decide (xs.getD (j * 3 + 2) 0 ≤ 5))
def vals (f : List Int → Nat → Bool) (xs : List Int) (k : Nat) : Bool := (List.range k).all (f xs)
def asc (s : Nat) (xs : List Int) (k : Nat) : Bool := (List.range k).all (stepR s xs)
/-- n records, s numbers each, are valid: as many as may be, all fields in range, the blocks ascending -/
def validR (s : Nat) (mx : Int) (f : List Int → Nat → Bool) (xs : List Int) (n : Nat) : Bool := inB n 1 mx && vals f xs n && asc s xs n
abbrev validP (xs : List Int) (n : Nat) : Bool := validR 2 9 fldP xs n
abbrev validC (xs : List Int) (n : Nat) : Bool := validR 3 6 fldC xs n

theorem validR_iff {s : Nat} {mx : Int} {f : List Int → Nat → Bool} {xs : List Int} {n : Nat} : validR s mx f xs n = true ↔ (1 ≤ (n : Int) ∧ (n : Int) ≤ mx) ∧ (∀ j, j < n → f xs j = true) ∧ (∀ j, j < n → stepR s xs j = true) := by
  unfold validR vals asc
  rw [Bool.and_eq_true, Bool.and_eq_true, inB_iff]
  constructor
  · rintro ⟨⟨h1, h2⟩, h3⟩
    exact ⟨h1, fun j hj => all_at h2 hj, fun j hj => all_at h3 hj⟩
  · rintro ⟨h1, h2, h3⟩
    exact ⟨⟨h1, all_of h2⟩, all_of h3⟩
theorem prevR_ge {s : Nat} {xs : List Int} {k : Nat} (h : ∀ j, j < k → stepR s xs j = true) : -1 ≤ prevR s xs k := by
  induction k with
  | zero => exact Int.le_refl _
  | succ k ih =>
    have := h k (by omega)
    have ih' := ih fun j hj => h j (by omega)
    simp [stepR] at this
    show -1 ≤ xs.getD (k * s) 0
    simp only [List.getD_eq_getElem?_getD]
    omega
theorem validR_step {s : Nat} {mx : Int} {f : List Int → Nat → Bool} {xs : List Int} {n k : Nat} (hk : k < n) (h : stepR s xs k = false) : validR s mx f xs n = false := by
  unfold validR asc; rw [all_no hk h]; simp
theorem validR_fld {s : Nat} {mx : Int} {f : List Int → Nat → Bool} {xs : List Int} {n k : Nat} (hk : k < n) (h : f xs k = false) : validR s mx f xs n = false := by
  unfold validR vals; rw [all_no hk h]; simp
theorem validR_eq {s : Nat} {mx : Int} {f : List Int → Nat → Bool} {xs : List Int} {n : Nat} (h1 : vals f xs n = true) (h2 : asc s xs n = true) : validR s mx f xs n = inB n 1 mx := by
  unfold validR; rw [h1, h2]; simp
theorem validR_asc {s : Nat} {mx : Int} {f : List Int → Nat → Bool} {xs : List Int} {n : Nat} (h : inB n 1 mx = true) (h1 : vals f xs n = true) : validR s mx f xs n = asc s xs n := by
  unfold validR; rw [h, h1]; simp
theorem validR_len {s : Nat} {mx : Int} {f : List Int → Nat → Bool} {xs : List Int} {n : Nat} (h : inB n 1 mx = false) : validR s mx f xs n = false := by
  unfold validR; rw [h]; simp
theorem vals_succ {f : List Int → Nat → Bool} {xs : List Int} {k : Nat} (h : vals f xs k = true) (h2 : f xs k = true) : vals f xs (k + 1) = true := by
  unfold vals at h ⊢; rw [all_succ, h, h2]; rfl
theorem asc_succ {s : Nat} {xs : List Int} {k : Nat} (h : asc s xs k = true) (h2 : stepR s xs k = true) : asc s xs (k + 1) = true := by
  unfold asc at h ⊢; rw [all_succ, h, h2]; rfl
theorem stepR_in (s : Nat) (xs : List Int) (k : Nat) : stepR s xs k = inB (xs.getD (k * s) 0) (prevR s xs k + 1) 11 := by
  unfold stepR inB
  congr 1
theorem stepR_prev {s : Nat} {xs : List Int} {k : Nat} (h : stepR s xs k = true) : prevR s xs (k + 1) ≤ 11 ∧ prevR s xs k < prevR s xs (k + 1) := by
  have h1 : stepR s xs k = (decide (prevR s xs k < prevR s xs (k + 1)) && decide (prevR s xs (k + 1) ≤ 11)) := rfl
  rw [h1, Bool.and_eq_true] at h
  exact ⟨by simpa using h.2, by simpa using h.1⟩
theorem fldP_in (xs : List Int) (k : Nat) : fldP xs k = inB (xs.getD (k * 2 + 1) 0) 0 99 := rfl
theorem fldC_in (xs : List Int) (k : Nat) : fldC xs k = (inB (xs.getD (k * 3 + 1) 0) 1 999 && inB (xs.getD (k * 3 + 2) 0) 0 5) := rfl
end Go.Proofs.Ytiopbgenkalfaaa
