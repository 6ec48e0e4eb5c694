/-
  Plain arithmetic on sums of words: a word more; a word changed; two words exchanged. Imports no program's walk.
-/
import Derived.Test.YtcocboigjfjnfacSum
namespace Go.Proofs.Ytcocboigjfjnfac
set_option linter.unusedVariables false
set_option maxRecDepth 100000

theorem sumFrom_append (xs ys : List Int) : ∀ s, allW xs = true → sumFrom s (xs ++ ys) = sumFrom (sumFrom s xs) ys := by
  induction xs with
  | nil => intro s _; rfl
  | cons x xs ih =>
    intro s h
    have h' : okW x = true ∧ allW xs = true := by simpa [allW] using h
    have hx : 0 ≤ x ∧ x ≤ 9999 := by simpa [okW] using h'.1
    show (if x < 0 ∨ 9999 < x then -1 else sumFrom _ (xs ++ ys)) = sumFrom (if x < 0 ∨ 9999 < x then -1 else _) ys
    rw [if_neg (by omega), if_neg (by omega), ih _ h'.2]

theorem allW_of_sum {xs : List Int} {s : Int} (h : 0 ≤ sumFrom s xs) : allW xs = true := by
  rcases hb : allW xs with _ | _
  · have := sumFrom_allW xs s hb; omega
  · rfl

theorem sum_next (xs : List Int) (w : Int) (h : 0 ≤ sumFrom 7 xs) (h0 : 0 ≤ w) (h1 : w ≤ 9999) : sumFrom 7 (xs ++ [w]) = (31 * sumFrom 7 xs + w + 1) % 9973 := by
  rw [sumFrom_append _ _ _ (allW_of_sum h)]
  show (if w < 0 ∨ 9999 < w then -1 else sumFrom _ []) = _
  rw [if_neg (by omega)]
  rfl

theorem sum_inj (xs : List Int) : ∀ s t, 0 ≤ s → s < 9973 → 0 ≤ t → t < 9973 → allW xs = true → sumFrom s xs = sumFrom t xs → s = t := by
  induction xs with
  | nil => intro s t _ _ _ _ _ h; exact h
  | cons x xs ih =>
    intro s t hs0 hs1 ht0 ht1 h he
    have h' : okW x = true ∧ allW xs = true := by simpa [allW] using h
    have hx : 0 ≤ x ∧ x ≤ 9999 := by simpa [okW] using h'.1
    unfold sumFrom at he
    rw [if_neg (by omega), if_neg (by omega)] at he
    have := ih _ _ (by omega) (by omega) (by omega) (by omega) h'.2 he
    omega

theorem allW_append (xs ys : List Int) : allW (xs ++ ys) = (allW xs && allW ys) := by simp [allW]

theorem split_at (xs : List Int) (k : Nat) (h : k < xs.length) : xs = xs.take k ++ xs.getD k 0 :: xs.drop (k + 1) := by
  have : xs.getD k 0 = xs[k] := by simp [List.getD, h]
  rw [this, ← List.drop_eq_getElem_cons h, List.take_append_drop]

theorem set_split (xs : List Int) (k : Nat) (x : Int) (h : k < xs.length) : xs.set k x = xs.take k ++ x :: xs.drop (k + 1) := by
  rw [List.set_eq_take_append_cons_drop, if_pos h]

theorem sum_cons (s x : Int) (xs : List Int) (h0 : 0 ≤ x) (h1 : x ≤ 9999) : sumFrom s (x :: xs) = sumFrom ((31 * s + x + 1) % 9973) xs := by
  show (if x < 0 ∨ 9999 < x then -1 else _) = _
  rw [if_neg (by omega)]

/-- A word raised by one is noticed. -/
theorem sum_change (xs : List Int) (k : Nat) (hk : k < xs.length) (h : 0 ≤ sumFrom 7 xs) : sumFrom 7 (xs.set k (xs.getD k 0 + 1)) ≠ sumFrom 7 xs := by
  have ha := allW_of_sum h
  have hs := split_at xs k hk
  have ha' := ha
  rw [hs, allW_append] at ha'
  simp only [Bool.and_eq_true] at ha'
  obtain ⟨h1, h2⟩ := ha'
  have h2' : okW (xs.getD k 0) = true ∧ allW (xs.drop (k + 1)) = true := by simpa [allW] using h2
  have hx : 0 ≤ xs.getD k 0 ∧ xs.getD k 0 ≤ 9999 := by simpa [okW] using h2'.1
  have hr := sumFrom_rng (xs.take k) 7 (by omega) (by omega) h1
  by_cases hm : xs.getD k 0 = 9999
  · have hbad : allW (xs.set k (xs.getD k 0 + 1)) = false := by
      rw [set_split _ _ _ hk, allW_append, hm]
      simp [allW, okW]
    rw [sumFrom_allW _ _ hbad]
    omega
  · intro he
    rw [set_split _ _ _ hk, sumFrom_append _ _ _ h1, sum_cons _ _ _ (by omega) (by omega)] at he
    have e2 : sumFrom 7 xs = sumFrom 7 (xs.take k ++ xs.getD k 0 :: xs.drop (k + 1)) := by rw [← hs]
    rw [e2, sumFrom_append _ _ _ h1, sum_cons _ _ _ (by omega) (by omega)] at he
    have := sum_inj _ _ _ (by omega) (by omega) (by omega) (by omega) h2'.2 he
    omega

theorem split_two (xs : List Int) (k : Nat) (h : k + 1 < xs.length) : xs = xs.take k ++ xs.getD k 0 :: xs.getD (k + 1) 0 :: xs.drop (k + 2) := by
  have h1 := split_at xs k (by omega)
  have h2 : xs.drop (k + 1) = xs.getD (k + 1) 0 :: xs.drop (k + 2) := by
    have : xs.getD (k + 1) 0 = xs[k + 1] := by simp [List.getD, h]
    rw [this, ← List.drop_eq_getElem_cons h]
  rw [← h2]
  exact h1

theorem set_two (xs : List Int) (k : Nat) (a b : Int) (h : k + 1 < xs.length) : (xs.set k a).set (k + 1) b = xs.take k ++ a :: b :: xs.drop (k + 2) := by
  have hl : (xs.take k).length = k := by rw [List.length_take]; omega
  have h2 : xs.drop (k + 1) = xs.getD (k + 1) 0 :: xs.drop (k + 2) := by
    have : xs.getD (k + 1) 0 = xs[k + 1] := by simp [List.getD, h]
    rw [this, ← List.drop_eq_getElem_cons h]
  rw [set_split xs k a (by omega), h2, List.set_append_right _ _ (by omega), hl]
  simp

/-- Two words that follow each other, exchanged: the sum stays just where their difference is divided by the base. -/
theorem sum_swap (xs : List Int) (k : Nat) (hk : k + 1 < xs.length) (h : 0 ≤ sumFrom 7 xs) :
    sumFrom 7 ((xs.set k (xs.getD (k + 1) 0)).set (k + 1) (xs.getD k 0)) = sumFrom 7 xs ↔ (xs.getD k 0 - xs.getD (k + 1) 0).tmod 9973 = 0 := by
  have ha := allW_of_sum h
  have hs := split_two xs k hk
  have ha' := ha
  rw [hs, allW_append] at ha'
  simp only [Bool.and_eq_true] at ha'
  obtain ⟨h1, h2⟩ := ha'
  have h2' : okW (xs.getD k 0) = true ∧ okW (xs.getD (k + 1) 0) = true ∧ allW (xs.drop (k + 2)) = true := by simpa [allW] using h2
  have hx : 0 ≤ xs.getD k 0 ∧ xs.getD k 0 ≤ 9999 := by simpa [okW] using h2'.1
  have hy : 0 ≤ xs.getD (k + 1) 0 ∧ xs.getD (k + 1) 0 ≤ 9999 := by simpa [okW] using h2'.2.1
  have hr := sumFrom_rng (xs.take k) 7 (by omega) (by omega) h1
  rw [set_two _ _ _ _ hk]
  have e2 : sumFrom 7 xs = sumFrom 7 (xs.take k ++ xs.getD k 0 :: xs.getD (k + 1) 0 :: xs.drop (k + 2)) := by rw [← hs]
  rw [e2, sumFrom_append _ _ _ h1, sumFrom_append _ _ _ h1, sum_cons _ _ _ (by omega) (by omega), sum_cons _ _ _ (by omega) (by omega), sum_cons _ _ _ (by omega) (by omega), sum_cons _ _ _ (by omega) (by omega)]
  generalize xs.getD k 0 = a at *
  generalize xs.getD (k + 1) 0 = b at *
  generalize sumFrom 7 (xs.take k) = s at *
  have hdvd : (a - b).tmod 9973 = 0 ↔ (a - b) % 9973 = 0 := by
    rw [← Int.dvd_iff_tmod_eq_zero, Int.dvd_iff_emod_eq_zero]
  rw [hdvd]
  constructor
  · intro he
    have := sum_inj _ _ _ (by omega) (by omega) (by omega) (by omega) h2'.2.2 he
    omega
  · intro he
    have : (31 * ((31 * s + b + 1) % 9973) + a + 1) % 9973 = (31 * ((31 * s + a + 1) % 9973) + b + 1) % 9973 := by omega
    rw [this]

end Go.Proofs.Ytcocboigjfjnfac
