/-
  laws.samePairs, laws.sameColds: whether two lists of records are equal.
-/
import Derived.Test.YtiopbgenkalfaaaRec
import Derived.Test.YtiopbgenkalfaaaPairM
namespace Go.Proofs.Ytiopbgenkalfaaa
open Go.RowKit
set_option linter.unusedVariables false
set_option maxRecDepth 100000

theorem take_rec_succ (s : Nat) (xs ys : List Int) (k : Nat) (hx : k * s + s ≤ xs.length) (hy : k * s + s ≤ ys.length) (h : xs.take (k * s) = ys.take (k * s)) :
    ((∀ j, j < s → xs.getD (k * s + j) 0 = ys.getD (k * s + j) 0) → xs.take ((k + 1) * s) = ys.take ((k + 1) * s)) ∧ ((∃ j, xs.getD (k * s + j) 0 ≠ ys.getD (k * s + j) 0) → xs ≠ ys) := by
  refine ⟨fun e => ?_, fun ⟨j, e⟩ h => e (by rw [h])⟩
  have hl : (k + 1) * s = k * s + s := Nat.succ_mul k s
  rw [hl]
  apply List.ext_getElem?
  intro i
  rcases Nat.lt_or_ge i (k * s) with hi | hi
  · have h2 : (xs.take (k * s))[i]? = (ys.take (k * s))[i]? := by rw [h]
    rw [List.getElem?_take_of_lt hi, List.getElem?_take_of_lt hi] at h2
    rw [List.getElem?_take_of_lt (by omega), List.getElem?_take_of_lt (by omega), h2]
  · rcases Nat.lt_or_ge i (k * s + s) with hi2 | hi2
    · obtain ⟨j, rfl⟩ := Nat.exists_eq_add_of_le hi
      have := e j (by omega)
      have h1 : k * s + j < xs.length := by omega
      have h2 : k * s + j < ys.length := by omega
      rw [List.getElem?_take_of_lt hi2, List.getElem?_take_of_lt hi2]
      simpa [List.getD, h1, h2] using this
    · rw [List.getElem?_eq_none (by rw [List.length_take]; omega), List.getElem?_eq_none (by rw [List.length_take]; omega)]

theorem cell_next {w : World} {ad p : Addr} {m i : Nat} {v : Value} (hi : i ≠ 0) (e : ad.add m = p) (h : w.cell? (ad.add (m + i)) = some v) : w.cell? ⟨p.block, p.off + i, none⟩ = some v := by
  rw [← add_of_add, e] at h
  simpa [Addr.add, hi] using h
theorem ints_at2 {w : World} {B n k : Nat} {A : Option Addr} {xs : List Int} (h : Ints w B A (n * 2) xs) (hk : k < n) : ∃ ad p, A = some ad ∧ ad.add (k * 2) = p ∧ p.block < B ∧ w.cell? p = some (.int .i64 (xs.getD (k * 2) 0)) ∧ w.cell? ⟨p.block, p.off + 1, none⟩ = some (.int .i64 (xs.getD (k * 2 + 1) 0)) := by
  obtain ⟨ad, e, hb, hc⟩ := h.2 (by omega)
  exact ⟨ad, _, e, rfl, by rw [block_of_add]; exact hb, hc _ (by omega), cell_next (by decide) rfl (hc (k * 2 + 1) (by omega))⟩
theorem ints_at3 {w : World} {B n k : Nat} {A : Option Addr} {xs : List Int} (h : Ints w B A (n * 3) xs) (hk : k < n) : ∃ ad p, A = some ad ∧ ad.add (k * 3) = p ∧ p.block < B ∧ w.cell? p = some (.int .i64 (xs.getD (k * 3) 0)) ∧ w.cell? ⟨p.block, p.off + 1, none⟩ = some (.int .i64 (xs.getD (k * 3 + 1) 0)) ∧ w.cell? ⟨p.block, p.off + 2, none⟩ = some (.int .i64 (xs.getD (k * 3 + 2) 0)) := by
  obtain ⟨ad, e, hb, hc⟩ := h.2 (by omega)
  exact ⟨ad, _, e, rfl, by rw [block_of_add]; exact hb, hc _ (by omega), cell_next (by decide) rfl (hc (k * 3 + 1) (by omega)), cell_next (by decide) rfl (hc (k * 3 + 2) (by omega))⟩

theorem take_rec2 (xs : List Int) (k : Nat) (h : k * 2 + 2 ≤ xs.length) : xs.take (k * 2) ++ [xs.getD (k * 2) 0, xs.getD (k * 2 + 1) 0] = xs.take ((k + 1) * 2) := by
  have h0 : k * 2 < xs.length := by omega
  have h1 : k * 2 + 1 < xs.length := by omega
  have e0 : xs.getD (k * 2) 0 = xs[k * 2] := by simp [List.getD, h0]
  have e1 : xs.getD (k * 2 + 1) 0 = xs[k * 2 + 1] := by simp [List.getD, h1]
  rw [show (k + 1) * 2 = k * 2 + 1 + 1 by omega, List.take_succ_eq_append_getElem h1, List.take_succ_eq_append_getElem h0, e0, e1, List.append_assoc]
  rfl
theorem take_rec3 (xs : List Int) (k : Nat) (h : k * 3 + 3 ≤ xs.length) : xs.take (k * 3) ++ [xs.getD (k * 3) 0, xs.getD (k * 3 + 1) 0, xs.getD (k * 3 + 2) 0] = xs.take ((k + 1) * 3) := by
  have h0 : k * 3 < xs.length := by omega
  have h1 : k * 3 + 1 < xs.length := by omega
  have h2 : k * 3 + 2 < xs.length := by omega
  have e0 : xs.getD (k * 3) 0 = xs[k * 3] := by simp [List.getD, h0]
  have e1 : xs.getD (k * 3 + 1) 0 = xs[k * 3 + 1] := by simp [List.getD, h1]
  have e2 : xs.getD (k * 3 + 2) 0 = xs[k * 3 + 2] := by simp [List.getD, h2]
  rw [show (k + 1) * 3 = k * 3 + 1 + 1 + 1 by omega, List.take_succ_eq_append_getElem h2, List.take_succ_eq_append_getElem h1, List.take_succ_eq_append_getElem h0, e0, e1, e2, List.append_assoc, List.append_assoc]
  rfl

/-- what PairsPut and ColdPut answer: the numbers themselves, or nothing -/
def PutPost (w : World) (v : Bool) (xs : List Int) (e : Ending) (w' : World) : Prop :=
  ∃ A2 m c2, e = .returned (.tuple #[.slice A2 m c2, .bool v]) ∧ Own w' w.heap.size A2 m c2 (if v then xs else []) ∧ Below w.heap.size w w'
/-- what PairsGet and ColdGet answer -/
def GetPost (w : World) (t : TypeId) (s : Nat) (v : Bool) (xs : List Int) (e : Ending) (w' : World) : Prop :=
  ∃ A2 m c2, e = .returned (.tuple #[.slice A2 m c2, .bool v]) ∧ OwnR w' w.heap.size t s A2 m c2 (if v then xs else []) ∧ Below w.heap.size w w'
/-- n numbers are a valid body -/
def okG (s : Nat) (mx : Int) (f : List Int → Nat → Bool) (xs : List Int) (n : Nat) : Bool := decide (n % s = 0) && validR s mx f xs (n / s)



end Go.Proofs.Ytiopbgenkalfaaa
