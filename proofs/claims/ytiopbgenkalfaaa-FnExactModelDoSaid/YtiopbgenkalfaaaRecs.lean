/-
  What a row's reading of an argument '[]T' gives to my walks, T a struct of s integers: n records lie as one list of n * s integers.
-/
import Derived.Test.YtiopbgenkalfaaaFrame0
import Derived.Deep.Slices
import Derived.Deep.Fields
import Derived.ChangeSame
namespace Go.Proofs.Ytiopbgenkalfaaa
open Go.ChangeShapes Go.WideShapes Go.Deep Go.RowKit
set_option linter.unusedVariables false
set_option maxRecDepth 100000

/-- Integers, cell by cell, are one list. -/
theorem ints_all {W : World} {a : Addr} {N : Nat} (h : ∀ k, k < N → ∃ y : Int, W.cell? (a.add k) = some (.int .i64 y)) : ∃ xs, Ints W W.heap.size (some a) N xs := by
  induction N with
  | zero => exact ⟨[], Ints.nil_ _ _ _⟩
  | succ N ih =>
    obtain ⟨xs, hx⟩ := ih fun k hk => h k (by omega)
    obtain ⟨y, hy⟩ := h N (by omega)
    refine ⟨xs ++ [y], by rw [List.length_append, hx.1]; rfl, fun _ => ⟨a, rfl, ?_, fun j hj => ?_⟩⟩
    · have := World.block_lt_of_cell? W _ hy
      rwa [block_of_add] at this
    · by_cases hjN : j < N
      · obtain ⟨ad, e, _, hc⟩ := hx.at_ hjN
        cases e
        have hl := hx.1
        rw [hc, List.getD, List.getD, List.getElem?_append_left (by omega)]
      · obtain rfl : j = N := by omega
        have hl := hx.1
        rw [hy, List.getD, List.getElem?_append_right (by omega), hl, Nat.sub_self]
        rfl

variable {H : Type} {enc : TypeId × Value → H} {W : World} {base : Nat} {spare : Nat → Bool} {held : Bool}

/-- One record: each of its fields is an integer, in the cell that the field's number says. -/
theorem field_int {e : TypeId} {fs : Array Field} {cs : List Value} {fuel : Nat} {x : DataW H × List MemPlace} (he : Try.prog.underlying e = some (.struct fs)) (hone : oneCellFields Try.prog fs = true)
    (hint : ∀ (j : Nat) (f : Field), fs[j]? = some f → Try.prog.underlying f.type = some (.int .i64)) (h : DataW.trod enc Try.prog W base spare held fuel e cs = some x) {j : Nat} (hj : j < fs.size) (hcs : j < cs.length) :
    ∃ y : Int, cs[j]? = some (.int .i64 y) := by
  obtain ⟨ys, n', _, _, _, _, hf⟩ := DataW.trod_struct he h
  have hfj : fs[j]? = some fs[j] := Array.getElem?_eq_getElem hj
  have h1 := hf j _ hfj
  obtain ⟨ho, hk⟩ := hone_of hone j _ hfj
  rw [ho, hk, List.drop_eq_getElem_cons hcs, List.take_succ_cons, List.take_zero] at h1
  have hlen : ∃ y, ys[j]? = some y := ⟨ys[j]'(by first | omega | simp_all), List.getElem?_eq_getElem _⟩
  obtain ⟨y, hy⟩ := hlen
  rw [hy] at h1
  obtain ⟨z, ez, _, _⟩ := DataW.trod_int (hint j _ hfj) h1
  simp only [List.cons.injEq, and_true] at ez
  exact ⟨z, by rw [List.getElem?_eq_getElem hcs, ez]⟩

/-- The argument. -/
theorem open_recs {t e : TypeId} {fs : Array Field} {s fuel : Nat} {cs : List Value} {x : DataW H × List MemPlace} (ht : Try.prog.underlying t = some (.slice e)) (he : Try.prog.underlying e = some (.struct fs))
    (hone : oneCellFields Try.prog fs = true) (hC : Try.prog.cellsOf e = s) (hs : fs.size = s) (hp : 0 < s) (hint : ∀ (j : Nat) (f : Field), fs[j]? = some f → Try.prog.underlying f.type = some (.int .i64))
    (h : DataW.trod enc Try.prog W base spare held fuel t cs = some x) :
    ∃ (A : Option Addr) (n c : Nat) (xs : List Int), cs = [.slice A n c] ∧ Ints W W.heap.size A (n * s) xs ∧ n ≤ c ∧ c ≤ maxLen := by
  rcases open_slice ht h with ⟨e0, _⟩ | ⟨a, len, cap, m, fu, D, Pl, e0, _, hl, hm, hmm, _, hi⟩
  · exact ⟨none, 0, 0, [], e0, by rw [Nat.zero_mul]; exact Ints.nil_ _ _ _, Nat.le_refl _, Nat.zero_le _⟩
  · have hlm : len ≤ m := by rw [hmm]; split <;> omega
    obtain ⟨xs, hx⟩ := ints_all (W := W) (a := a) (N := len * s) fun k hk => by
      have hd := Nat.div_add_mod k s
      have hr := Nat.mod_lt k hp
      have hq : k / s < len := Nat.div_lt_of_lt_mul (by rw [Nat.mul_comm]; exact hk)
      obtain ⟨cs', hc, ht'⟩ := hi (k / s) (by omega)
      rw [hC] at hc
      obtain ⟨_, hcl, hat⟩ := World.cells?_some hc
      obtain ⟨y, hy⟩ := field_int he hone hint ht' (j := k % s) (by omega) (by omega)
      refine ⟨y, ?_⟩
      have h2 := hat (k % s) (by omega)
      rw [hy, Go.Deep.add_add, show k / s * s + k % s = k by rw [Nat.mul_comm]; exact hd] at h2
      exact h2
    exact ⟨some a, len, cap, xs, e0, hx, hl, hm⟩
end Go.Proofs.Ytiopbgenkalfaaa
