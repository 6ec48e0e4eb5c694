/-
  Levels at several times, as one list of numbers. Plain.
-/
import Derived.Test.YtcekikblgbdcoaaBktM
namespace Go.Proofs.Ytcekikblgbdcoaa
open Go.RowKit
set_option linter.unusedVariables false
set_option maxRecDepth 100000

def lvs (b : Bk) : Nat → List Int
  | 0 => []
  | n + 1 => lvs b n ++ [lvl b n, b.m, b.r, b.t + n]
theorem lvs_len (b : Bk) (n : Nat) : (lvs b n).length = n * 4 := by
  induction n with
  | zero => rfl
  | succ n ih => unfold lvs; rw [List.length_append, ih]; simp; omega
theorem lvs_at (b : Bk) {j n : Nat} (h : j < n) :
    (lvs b n).getD (j * 4) 0 = lvl b j ∧ (lvs b n).getD (j * 4 + 1) 0 = b.m ∧ (lvs b n).getD (j * 4 + 2) 0 = b.r ∧ (lvs b n).getD (j * 4 + 3) 0 = b.t + j := by
  induction n with
  | zero => omega
  | succ n ih =>
    have hl := lvs_len b n
    unfold lvs
    simp only [List.getD]
    by_cases hj : j < n
    · have := ih hj
      simp only [List.getD] at this
      rw [List.getElem?_append_left (by omega), List.getElem?_append_left (by omega), List.getElem?_append_left (by omega), List.getElem?_append_left (by omega)]
      exact this
    · obtain rfl : j = n := by omega
      rw [List.getElem?_append_right (by omega), List.getElem?_append_right (by omega), List.getElem?_append_right (by omega), List.getElem?_append_right (by omega), hl]
      have e1 : j * 4 - j * 4 = 0 := by omega
      have e2 : j * 4 + 1 - j * 4 = 1 := by omega
      have e3 : j * 4 + 2 - j * 4 = 2 := by omega
      have e4 : j * 4 + 3 - j * 4 = 3 := by omega
      rw [e1, e2, e3, e4]
      exact ⟨rfl, rfl, rfl, rfl⟩

/-- the levels at the first n times: all that there are -/
def lvEnd (b : Bk) (n : Nat) : Prop := 1 ≤ n ∧ b.t + n ≤ 1000 ∧ (b.t + n = 1000 ∨ lvl b n ≤ lvl b ((n : Int) - 1))
/-- there is enough at none of them: never -/
theorem lvEnd_no {b : Bk} (h : okK b) {n : Nat} (he : lvEnd b n) {many : Int} (hn : ∀ j : Nat, j < n → lvl b j < many) (T : Int) (h1 : b.t ≤ T) (h2 : T ≤ 999) : lvl b (T - b.t) < many := by
  obtain ⟨e1, e2, e3⟩ := he
  have h0 : 0 ≤ b.t := h.2.2.2.2.2.2.1
  obtain ⟨k, hk⟩ := Int.eq_ofNat_of_zero_le (show 0 ≤ T - b.t by omega)
  rw [hk]
  by_cases hlt : k < n
  · exact hn k hlt
  · rcases e3 with e3 | e3
    · omega
    · have := hn (n - 1) (by omega)
      have hc : ((n - 1 : Nat) : Int) = (n : Int) - 1 := by omega
      rw [hc] at this
      have := lvl_end h (j := (n : Int) - 1) (by omega) (by omega) (by rw [show (n : Int) - 1 + 1 = n from by omega]; exact e3) (k := (k : Int)) (by omega) (by omega)
      omega
end Go.Proofs.Ytcekikblgbdcoaa
