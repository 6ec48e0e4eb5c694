/-
  Plain facts on frames among words: what lies at a place, what is cut, moved, changed.
-/
import Derived.Test.YtcocboigjfjnfacFrameS
import Derived.Test.YtcocboigjfjnfacSumMath
namespace Go.Proofs.Ytcocboigjfjnfac
open Go.RowKit
set_option linter.unusedVariables false
set_option maxRecDepth 100000

theorem goodF_parts {xs : List Int} {n : Nat} {p : Int} (h : goodF xs n p) : ∃ a m : Nat, p = a ∧ xs.getD (a + 2) 0 = (m : Int) ∧ a + 4 + m ≤ n ∧
    validF (xs.getD a 0) (xs.getD (a + 1) 0) (cutW xs (a + 3) m) = true ∧ xs.getD (a + 3 + m) 0 = sumFrom 7 (cutW xs a (3 + m)) := by
  obtain ⟨⟨e0, e1, e2, e3⟩, hv, hs⟩ := h
  obtain ⟨a, rfl⟩ := Int.eq_ofNat_of_zero_le e0
  simp only [Int.toNat_natCast, bodyAt] at e2 e3 hv hs
  obtain ⟨m, hm⟩ := Int.eq_ofNat_of_zero_le e2
  rw [hm] at hv hs e3
  simp only [Int.toNat_natCast] at hv hs
  exact ⟨a, m, rfl, hm, by omega, hv, hs⟩

theorem cutW_snoc (xs : List Int) (a m : Nat) (h : a + m < xs.length) : cutW xs a (m + 1) = cutW xs a m ++ [xs.getD (a + m) 0] := by
  unfold cutW
  rw [List.take_succ_eq_append_getElem (by rw [List.length_drop]; omega)]
  simp [List.getD, h]

theorem cutW_app (pre xs post : List Int) (p a m L : Nat) (hp : pre.length = p) (hL : a + m ≤ L) (hl : L ≤ xs.length) : cutW (pre ++ xs.take L ++ post) (p + a) m = cutW xs a m := by
  unfold cutW
  rw [List.append_assoc, ← List.drop_drop, ← hp, List.drop_left, List.drop_append_of_le_length (by rw [List.length_take]; omega), List.take_append_of_le_length (by rw [List.length_drop, List.length_take]; omega),
    List.drop_take, List.take_take]
  congr 1
  omega

theorem getD_app (pre xs post : List Int) (p j L : Nat) (hp : pre.length = p) (hL : j < L) (hl : L ≤ xs.length) : (pre ++ xs.take L ++ post).getD (p + j) 0 = xs.getD j 0 := by
  rw [List.append_assoc, List.getD, List.getElem?_append_right (by omega), hp, Nat.add_sub_cancel_left, List.getElem?_append_left (by rw [List.length_take]; omega), List.getElem?_take_of_lt hL]
  rfl

/-- the frame at a place, written again, is its words -/
theorem put_at {xs : List Int} {a m : Nat} (hl : a + 4 + m ≤ xs.length) (hm : xs.getD (a + 2) 0 = (m : Int)) (hv : validF (xs.getD a 0) (xs.getD (a + 1) 0) (cutW xs (a + 3) m) = true)
    (hs : xs.getD (a + 3 + m) 0 = sumFrom 7 (cutW xs a (3 + m))) : putF (xs.getD a 0) (xs.getD (a + 1) 0) (cutW xs (a + 3) m) = cutW xs a (4 + m) := by
  rw [putF, if_pos hv, ← cut_head hl hm, show 4 + m = 3 + m + 1 by omega, cutW_snoc _ _ _ (by omega), ← hs, show a + (3 + m) = a + 3 + m by omega]

theorem set_getD_ne (xs : List Int) (k j : Nat) (x : Int) (h : k ≠ j) : (xs.set k x).getD j 0 = xs.getD j 0 := by simp [List.getD, h]
theorem set_getD_eq (xs : List Int) (k : Nat) (x : Int) (h : k < xs.length) : (xs.set k x).getD k 0 = x := by simp [List.getD, h]

/-- a changed word of a frame, not its number of words, is noticed -/
theorem change_bad {xs : List Int} {a m k : Nat} (hl : a + 4 + m ≤ xs.length) (hm : xs.getD (a + 2) 0 = (m : Int)) (hv : validF (xs.getD a 0) (xs.getD (a + 1) 0) (cutW xs (a + 3) m) = true)
    (hs : xs.getD (a + 3 + m) 0 = sumFrom 7 (cutW xs a (3 + m))) (h1 : a ≤ k) (h2 : k < a + 4 + m) (h3 : k ≠ a + 2) : ¬ goodF (xs.set k (xs.getD k 0 + 1)) xs.length (a : Int) := by
  intro hg
  obtain ⟨a', m', ha, hm', hl', hv', hs'⟩ := goodF_parts hg
  obtain rfl : a = a' := by omega
  rw [set_getD_ne _ _ _ _ h3, hm] at hm'
  obtain rfl : m = m' := by omega
  by_cases hk : k = a + 3 + m
  · subst hk
    rw [set_getD_eq _ _ _ (by omega), hs] at hs'
    have : cutW (xs.set (a + 3 + m) (sumFrom 7 (cutW xs a (3 + m)) + 1)) a (3 + m) = cutW xs a (3 + m) := by
      unfold cutW
      rw [List.drop_set, if_neg (by omega), List.take_set_of_le (by omega)]
    rw [this] at hs'
    omega
  · rw [set_getD_ne _ _ _ _ hk, hs] at hs'
    have e : cutW (xs.set k (xs.getD k 0 + 1)) a (3 + m) = (cutW xs a (3 + m)).set (k - a) ((cutW xs a (3 + m)).getD (k - a) 0 + 1) := by
      rw [cutW_getD _ _ _ _ (by omega), show a + (k - a) = k by omega]
      unfold cutW
      rw [List.drop_set, if_neg (by omega), List.take_set]
    rw [e] at hs'
    have ha := allW_head hv
    rw [← cut_head hl hm] at ha
    have hr := sumFrom_rng _ 7 (by omega) (by omega) ha
    exact sum_change (cutW xs a (3 + m)) (k - a) (by rw [cutW_length _ _ _ (by omega)]; omega) hr.1 hs'.symm

/-- words cut ahead of a frame's last one have no frame there -/
theorem short_bad {xs : List Int} {a m : Nat} (hm : xs.getD (a + 2) 0 = (m : Int)) : ¬ goodF (xs.take (a + 3 + m)) (a + 3 + m) (a : Int) := by
  intro hg
  obtain ⟨⟨e0, e1, e2, e3⟩, _⟩ := hg
  simp only [Int.toNat_natCast] at e2 e3
  rw [getD_take' _ _ _ (by omega), hm] at e3
  omega
end Go.Proofs.Ytcocboigjfjnfac
