/-
  Plain facts: a record left out, a record twice.
-/
import Derived.Test.YtefgngfcdigllaaPairM
namespace Go.Proofs.Ytefgngfcdigllaa
open Go.RowKit
set_option linter.unusedVariables false
set_option maxRecDepth 100000

/-- what is asked of a record's fields hangs on its own numbers alone -/
def LocalF (s : Nat) (f : List Int → Nat → Bool) : Prop := ∀ (xs ys : List Int) (i j : Nat), (∀ t, t < s → xs.getD (i * s + t) 0 = ys.getD (j * s + t) 0) → f xs i = f ys j
theorem fldP_local : LocalF 2 fldP := fun xs ys i j h => by
  unfold fldP
  rw [h 1 (by omega)]
theorem fldC_local : LocalF 3 fldC := fun xs ys i j h => by
  unfold fldC
  rw [h 1 (by omega), h 2 (by omega)]

theorem getD_take_app (xs ys : List Int) (a i : Nat) (h : i < a) (ha : a ≤ xs.length) : (xs.take a ++ ys).getD i 0 = xs.getD i 0 := by
  simp [List.getD, List.getElem?_append_left (show i < (xs.take a).length by rw [List.length_take]; omega), h]
theorem getD_app_drop (xs : List Int) (a b i : Nat) (ha : a ≤ xs.length) : (xs.take a ++ xs.drop b).getD (a + i) 0 = xs.getD (b + i) 0 := by
  have hl : (xs.take a).length = a := by rw [List.length_take]; omega
  simp [List.getD, List.getElem?_append_right (show (xs.take a).length ≤ a + i by omega), hl]

theorem stepR_of {s : Nat} {xs : List Int} {j : Nat} {p x : Int} (h1 : prevR s xs j = p) (h2 : xs.getD (j * s) 0 = x) : stepR s xs j = (decide (p < x) && decide (x ≤ 11)) := by
  unfold stepR
  rw [h1, h2]

theorem part_yes {s : Nat} {mx : Int} {f : List Int → Nat → Bool} (hf : LocalF s f) (hs : 0 < s) {xs : List Int} {n k : Nat} (hl : xs.length = n * s) (hk : k < n) (hn : 2 ≤ n) (hv : validR s mx f xs n = true) :
    validR s mx f (xs.take (k * s) ++ xs.drop ((k + 1) * s)) (n - 1) = true := by
  obtain ⟨h1, h2, h3⟩ := validR_iff.1 hv
  have hks : k * s ≤ xs.length := by rw [hl]; exact Nat.mul_le_mul_right _ (by omega)
  have hlo : ∀ j t, j < k → t < s → (xs.take (k * s) ++ xs.drop ((k + 1) * s)).getD (j * s + t) 0 = xs.getD (j * s + t) 0 := fun j t hj ht => by
    refine getD_take_app _ _ _ _ ?_ hks
    have := Nat.mul_le_mul_right s (show j + 1 ≤ k by omega)
    rw [Nat.succ_mul] at this
    omega
  have hhi : ∀ j t, k ≤ j → (xs.take (k * s) ++ xs.drop ((k + 1) * s)).getD (j * s + t) 0 = xs.getD ((j + 1) * s + t) 0 := fun j t hj => by
    obtain ⟨d, rfl⟩ := Nat.exists_eq_add_of_le hj
    rw [show (k + d) * s + t = k * s + (d * s + t) by rw [Nat.add_mul]; omega, getD_app_drop _ _ _ _ hks]
    congr 1
    rw [show k + d + 1 = (k + 1) + d by omega, Nat.add_mul (k + 1) d s]
    omega
  refine validR_iff.2 ⟨by omega, fun j hj => ?_, fun j hj => ?_⟩
  · by_cases hjk : j < k
    · rw [hf _ xs j j fun t ht => hlo j t hjk ht]; exact h2 j (by omega)
    · rw [hf _ xs j (j + 1) fun t ht => hhi j t (by omega)]; exact h2 (j + 1) (by omega)
  · by_cases hjk : j < k
    · have e1 : prevR s (xs.take (k * s) ++ xs.drop ((k + 1) * s)) j = prevR s xs j := by
        cases j with
        | zero => rfl
        | succ j => have := hlo j 0 (by omega) hs; simpa [prevR] using this
      have e2 := hlo j 0 hjk hs
      rw [Nat.add_zero] at e2
      rw [stepR_of e1 e2]; exact h3 j (by omega)
    · have e2 := hhi j 0 (by omega)
      simp only [Nat.add_zero] at e2
      by_cases hjk2 : j = k
      · subst hjk2
        have e1 : prevR s (xs.take (j * s) ++ xs.drop ((j + 1) * s)) j = prevR s xs j := by
          cases j with
          | zero => rfl
          | succ j => have := hlo j 0 (by omega) hs; simpa [prevR] using this
        have a1 := h3 j (by omega)
        have a2 := h3 (j + 1) (by omega)
        rw [stepR_of e1 e2]
        simp only [stepR, Bool.and_eq_true, decide_eq_true_eq] at a1 a2 ⊢
        have e3 : prevR s xs (j + 1) = xs.getD (j * s) 0 := rfl
        omega
      · obtain ⟨i, rfl⟩ : ∃ i, j = i + 1 := ⟨j - 1, by omega⟩
        have e1 : prevR s (xs.take (k * s) ++ xs.drop ((k + 1) * s)) (i + 1) = prevR s xs (i + 2) := by
          have := hhi i 0 (by omega); simpa [prevR] using this
        rw [stepR_of e1 e2]; exact h3 (i + 2) (by omega)

theorem part_no {s : Nat} {mx : Int} {f : List Int → Nat → Bool} (hs : 0 < s) {xs : List Int} {n k : Nat} (hl : xs.length = n * s) (hk : k < n) :
    validR s mx f (xs.take ((k + 1) * s) ++ xs.drop (k * s)) (n + 1) = false := by
  have hks : (k + 1) * s ≤ xs.length := by rw [hl]; exact Nat.mul_le_mul_right _ (by omega)
  refine validR_step (k := k + 1) (by omega) ?_
  have e1 : prevR s (xs.take ((k + 1) * s) ++ xs.drop (k * s)) (k + 1) = xs.getD (k * s) 0 := by
    show (xs.take ((k + 1) * s) ++ xs.drop (k * s)).getD (k * s) 0 = _
    exact getD_take_app _ _ _ _ (by rw [Nat.succ_mul]; omega) hks
  have e2 : (xs.take ((k + 1) * s) ++ xs.drop (k * s)).getD ((k + 1) * s) 0 = xs.getD (k * s) 0 := by
    have := getD_app_drop xs ((k + 1) * s) (k * s) 0 hks
    simpa using this
  rw [stepR_of e1 e2]
  simp

/-- the first k values are 0 -/
def zeros (xs : List Int) : Nat → List Int
  | 0 => xs
  | k + 1 => (zeros xs k).set (k * 2 + 1) 0
theorem zeros_length (xs : List Int) (k : Nat) : (zeros xs k).length = xs.length := by
  induction k with
  | zero => rfl
  | succ k ih => simp [zeros, ih]
theorem zeros_even (xs : List Int) (k j : Nat) : (zeros xs k).getD (j * 2) 0 = xs.getD (j * 2) 0 := by
  induction k with
  | zero => rfl
  | succ k ih => rw [← ih]; simp [zeros, List.getD, show ¬ k * 2 + 1 = j * 2 by omega]
theorem zeros_odd (xs : List Int) (k j : Nat) (hj : j < k) : (zeros xs k).getD (j * 2 + 1) 0 = 0 := by
  induction k with
  | zero => omega
  | succ k ih =>
    show ((zeros xs k).set (k * 2 + 1) 0).getD (j * 2 + 1) 0 = 0
    by_cases h : j = k
    · subst h
      by_cases hl : j * 2 + 1 < (zeros xs j).length
      · simp [List.getD, hl]
      · rw [List.set_eq_of_length_le (by omega), List.getD, List.getElem?_eq_none (by omega)]
        rfl
    · have e : ((zeros xs k).set (k * 2 + 1) 0).getD (j * 2 + 1) 0 = (zeros xs k).getD (j * 2 + 1) 0 := by
        unfold List.getD
        rw [List.getElem?_set_ne (by omega)]
      rw [e]
      exact ih (by omega)
theorem zeros_valid {mx : Int} {xs : List Int} {n : Nat} (hv : validR 2 mx fldP xs n = true) : validR 2 mx fldP (zeros xs n) n = true := by
  obtain ⟨h1, h2, h3⟩ := validR_iff.1 hv
  refine validR_iff.2 ⟨h1, fun j hj => ?_, fun j hj => ?_⟩
  · unfold fldP; rw [zeros_odd xs n j hj]; rfl
  · have e1 : prevR 2 (zeros xs n) j = prevR 2 xs j := by
      cases j with
      | zero => rfl
      | succ j => exact zeros_even xs n j
    rw [stepR_of e1 (zeros_even xs n j)]; exact h3 j hj
theorem set_bad {s : Nat} {mx : Int} {f : List Int → Nat → Bool} {xs : List Int} {n k : Nat} (hk : k < n) (h : f xs k = false) : validR s mx f xs n = false := validR_fld hk h
theorem big_bad {mx : Int} {xs : List Int} {n k : Nat} (hl : xs.length = n * 2) (hk : k < n) : validR 2 mx fldP (xs.set (k * 2 + 1) 100) n = false := by
  refine validR_fld hk ?_
  unfold fldP
  simp [List.getD, show k * 2 + 1 < xs.length by omega]
theorem id_bad {mx : Int} {xs : List Int} {n : Nat} (hl : xs.length = n * 3) (hn : 0 < n) : validR 3 mx fldC (xs.set 1 0) n = false := by
  refine validR_fld hn ?_
  unfold fldC
  simp [List.getD, show 1 < xs.length by omega]
theorem index_bad {mx : Int} {xs : List Int} {n : Nat} (hl : xs.length = n * 3) (hn : 0 < n) : validR 3 mx fldC (xs.set 2 6) n = false := by
  refine validR_fld hn ?_
  unfold fldC
  simp [List.getD, show 2 < xs.length by omega]
end Go.Proofs.Ytefgngfcdigllaa
