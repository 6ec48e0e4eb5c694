/-
  Sums of words: impl.SumWords and the model's own: each returns sumFrom 7 of the words that it reads.
-/
import Derived.Test.YtiopbgenkalfaaaBase
namespace Go.Proofs.Ytiopbgenkalfaaa
open Go.RowKit
set_option linter.unusedVariables false
set_option maxRecDepth 100000

def sumFrom (s : Int) : List Int → Int
  | [] => s
  | x :: xs => if x < 0 ∨ 9999 < x then -1 else sumFrom ((31 * s + x + 1) % 9973) xs

theorem sumFrom_drop (s : Int) (xs : List Int) (k : Nat) (h : k < xs.length) :
    sumFrom s (xs.drop k) = if xs.getD k 0 < 0 ∨ 9999 < xs.getD k 0 then -1 else sumFrom ((31 * s + xs.getD k 0 + 1) % 9973) (xs.drop (k + 1)) := by
  rw [List.drop_eq_getElem_cons h, sumFrom]
  simp [List.getD, h]

def okW (x : Int) : Bool := decide (0 ≤ x ∧ x ≤ 9999)
def allW (xs : List Int) : Bool := xs.all okW

theorem allW_drop (xs : List Int) (k : Nat) (h : k < xs.length) : allW (xs.drop k) = (okW (xs.getD k 0) && allW (xs.drop (k + 1))) := by
  rw [List.drop_eq_getElem_cons h]
  unfold allW
  rw [List.all_cons]
  simp [List.getD, h]

theorem sumFrom_allW (xs : List Int) : ∀ s, allW xs = false → sumFrom s xs = -1 := by
  induction xs with
  | nil => intro s h; simp [allW] at h
  | cons x xs ih =>
    intro s h
    unfold sumFrom
    by_cases hx : x < 0 ∨ 9999 < x
    · rw [if_pos hx]
    · rw [if_neg hx]
      refine ih _ ?_
      have h' : okW x = true := by simp [okW]; omega
      simpa [allW, h'] using h

theorem sumFrom_rng (xs : List Int) : ∀ s, 0 ≤ s → s < 9973 → allW xs = true → 0 ≤ sumFrom s xs ∧ sumFrom s xs < 9973 := by
  induction xs with
  | nil => intro s h0 h1 _; exact ⟨h0, h1⟩
  | cons x xs ih =>
    intro s h0 h1 h
    have h' : okW x = true ∧ allW xs = true := by simpa [allW] using h
    have hx : 0 ≤ x ∧ x ≤ 9999 := by simpa [okW] using h'.1
    unfold sumFrom
    rw [if_neg (by omega)]
    exact ih _ (by omega) (by omega) h'.2

theorem sumFrom_lt (xs : List Int) : -1 ≤ sumFrom 7 xs ∧ sumFrom 7 xs < 9973 := by
  by_cases h : allW xs = true
  · have := sumFrom_rng xs 7 (by omega) (by omega) h
    omega
  · have := sumFrom_allW xs 7 (by simpa using h)
    omega


def inB (n lo hi : Int) : Bool := decide (lo ≤ n) && decide (n ≤ hi)
theorem inB_true {n lo hi : Int} (h1 : lo ≤ n) (h2 : n ≤ hi) : inB n lo hi = true := by simp [inB, h1, h2]
theorem inB_iff {n lo hi : Int} : inB n lo hi = true ↔ lo ≤ n ∧ n ≤ hi := by simp [inB]

set_option maxHeartbeats 400000 in
theorem in_any (n lo hi : Int) (w : World) :
    Calls Try.prog 61 #[.int .i64 n, .int .i64 lo, .int .i64 hi] w fun e w' => e = .returned (.bool (inB n lo hi)) ∧ w = w' := by
  by_cases h1 : lo ≤ n
  · by_cases h2 : n ≤ hi
    · go_enter Try.func61, Try.ntmps61
      go_wp2
      go_ret
      exact ⟨ret_bool (by simp [inB, h1, h2]), rfl⟩
    · have h2' : decide (n ≤ hi) = false := by simpa using h2
      go_enter Try.func61, Try.ntmps61
      go_wp2
      go_ret
      exact ⟨ret_bool (by simp [inB, h2']), rfl⟩
  · have h1' : decide (lo ≤ n) = false := by simpa using h1
    go_enter Try.func61, Try.ntmps61
    go_wp2
    go_ret
    exact ⟨ret_bool (by simp [inB, h1']), rfl⟩
theorem in_yes (n lo hi : Int) (w : World) (h : inB n lo hi = true) :
    Calls Try.prog 61 #[.int .i64 n, .int .i64 lo, .int .i64 hi] w fun e w' => e = .returned (.bool true) ∧ w = w' := h ▸ in_any n lo hi w
theorem in_no (n lo hi : Int) (w : World) (h : inB n lo hi = false) :
    Calls Try.prog 61 #[.int .i64 n, .int .i64 lo, .int .i64 hi] w fun e w' => e = .returned (.bool false) ∧ w = w' := h ▸ in_any n lo hi w

theorem okW_inB (x : Int) : okW x = inB x 0 9999 := by simp [okW, inB]



end Go.Proofs.Ytiopbgenkalfaaa
