/-
  The reading of an argument '[]T', T a struct of s integers, as one list of integers, each of them in range.
-/
import Derived.Test.YtldbcenipahkfaaRecs
import Derived.Test.YtldbcenipahkfaaRng
namespace Go.Proofs.Ytldbcenipahkfaa
open Go.ChangeShapes Go.WideShapes Go.Deep Go.RowKit
set_option linter.unusedVariables false
set_option maxRecDepth 100000

theorem ints_allR {W : World} {a : Addr} {N : Nat} (h : ∀ k, k < N → ∃ y : Int, W.cell? (a.add k) = some (.int .i64 y) ∧ (Lit.int .i64 y).wf = true) :
    ∃ xs, Ints W W.heap.size (some a) N xs ∧ Rng (-9223372036854775808) 9223372036854775807 xs := by
  obtain ⟨xs, hx⟩ := ints_all (W := W) (a := a) (N := N) fun k hk => by
    obtain ⟨y, hy, _⟩ := h k hk
    exact ⟨y, hy⟩
  refine ⟨xs, hx, fun x hxm => ?_⟩
  obtain ⟨k, hk⟩ := List.getElem?_of_mem hxm
  have hkl : k < N := by rw [← hx.1]; exact (List.getElem?_eq_some_iff.1 hk).1
  obtain ⟨y, hy, hw⟩ := h k hkl
  obtain ⟨ad, e, _, hc⟩ := hx.at_ hkl
  injection e with e
  subst e
  rw [hy, show xs.getD k 0 = x by simp [List.getD, hk]] at hc
  injection hc with hc
  injection hc with _ hc
  subst hc
  exact ⟨wf_lo hw, wf_hi hw⟩

variable {H : Type} {enc : TypeId × Value → H} {W : World} {base : Nat} {spare : Nat → Bool} {held : Bool}

theorem field_intR {e : TypeId} {fs : Array Field} {cs : List Value} {fuel : Nat} {x : DataW H × List MemPlace} (he : Try.prog.underlying e = some (.struct fs)) (hone : oneCellFields Try.prog fs = true)
    (hint : ∀ (j : Nat) (f : Field), fs[j]? = some f → Try.prog.underlying f.type = some (.int .i64)) (h : DataW.trod enc Try.prog W base spare held fuel e cs = some x) {j : Nat} (hj : j < fs.size) (hcs : j < cs.length) :
    ∃ y : Int, cs[j]? = some (.int .i64 y) ∧ (Lit.int .i64 y).wf = true := by
  obtain ⟨ys, n', _, _, _, _, hf⟩ := DataW.trod_struct he h
  have hfj : fs[j]? = some fs[j] := Array.getElem?_eq_getElem hj
  have h1 := hf j _ hfj
  obtain ⟨ho, hk⟩ := hone_of hone j _ hfj
  rw [ho, hk, List.drop_eq_getElem_cons hcs, List.take_succ_cons, List.take_zero] at h1
  have hlen : ∃ y, ys[j]? = some y := ⟨ys[j]'(by first | omega | simp_all), List.getElem?_eq_getElem _⟩
  obtain ⟨y, hy⟩ := hlen
  rw [hy] at h1
  obtain ⟨z, ez, hw⟩ := DataW.trod_int (hint j _ hfj) h1
  simp only [List.cons.injEq, and_true] at ez
  exact ⟨z, by rw [List.getElem?_eq_getElem hcs, ez], by simp_all⟩

theorem open_recsR {t e : TypeId} {fs : Array Field} {s fuel : Nat} {cs : List Value} {x : DataW H × List MemPlace} (ht : Try.prog.underlying t = some (.slice e)) (he : Try.prog.underlying e = some (.struct fs))
    (hone : oneCellFields Try.prog fs = true) (hC : Try.prog.cellsOf e = s) (hs : fs.size = s) (hp : 0 < s) (hint : ∀ (j : Nat) (f : Field), fs[j]? = some f → Try.prog.underlying f.type = some (.int .i64))
    (h : DataW.trod enc Try.prog W base spare held fuel t cs = some x) :
    ∃ (A : Option Addr) (n c : Nat) (xs : List Int), cs = [.slice A n c] ∧ Ints W W.heap.size A (n * s) xs ∧ n ≤ c ∧ c ≤ maxLen ∧ Rng (-9223372036854775808) 9223372036854775807 xs := by
  rcases open_slice ht h with ⟨e0, _⟩ | ⟨a, len, cap, m, fu, D, Pl, e0, _, hl, hm, hmm, _, hi⟩
  · exact ⟨none, 0, 0, [], e0, by rw [Nat.zero_mul]; exact Ints.nil_ _ _ _, Nat.le_refl _, Nat.zero_le _, fun x hx => by cases hx⟩
  · have hlm : len ≤ m := by rw [hmm]; split <;> omega
    obtain ⟨xs, hx, hr⟩ := ints_allR (W := W) (a := a) (N := len * s) fun k hk => by
      have hd := Nat.div_add_mod k s
      have hr := Nat.mod_lt k hp
      have hq : k / s < len := Nat.div_lt_of_lt_mul (by rw [Nat.mul_comm]; exact hk)
      obtain ⟨cs', hc, ht'⟩ := hi (k / s) (by omega)
      rw [hC] at hc
      obtain ⟨_, hcl, hat⟩ := World.cells?_some hc
      obtain ⟨y, hy, hw⟩ := field_intR he hone hint ht' (j := k % s) (by omega) (by omega)
      refine ⟨y, ?_, hw⟩
      have h2 := hat (k % s) (by omega)
      rw [hy, Go.Deep.add_add, show k / s * s + k % s = k by rw [Nat.mul_comm]; exact hd] at h2
      exact h2
    exact ⟨some a, len, cap, xs, e0, hx, hl, hm, hr⟩
end Go.Proofs.Ytldbcenipahkfaa
