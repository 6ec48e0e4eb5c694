/-
  The program's objectValid, StoreValid.
-/
import Derived.Test.YtfianpjoifcphaaSpecO3
namespace Go.Proofs.Ytfianpjoifcphaa
open Go.RowKit
set_option linter.unusedVariables false
set_option maxRecDepth 100000

theorem below_box1 (w : World) (o : Obj) : Below w.heap.size w (w.alloc o) := (Below.refl _ _).alloc (Nat.le_refl _) o
theorem cell_facts2 {w : World} {g : Nat} {t : TypeId} {a b : Value} (h : Blk w g t #[a, b]) : w.cell? ⟨g, 0, none⟩ = some a ∧ w.cell? ⟨g, 1, none⟩ = some b :=
  ⟨by rw [h.cell]; rfl, by rw [h.cell]; rfl⟩

theorem obOk_lo {id : Int} {vs : List Int} (h : id < 1) : obOk (id, vs) = false := by
  unfold obOk inB; rw [decide_eq_false (by omega)]; rfl
theorem obOk_hi {id : Int} {vs : List Int} (h : 999 < id) : obOk (id, vs) = false := by
  unfold obOk inB; rw [decide_eq_false (p := id ≤ 999) (by omega)]; simp
theorem obOk_none {id : Int} {vs : List Int} (h : vs.length < 1 ∨ 6 < vs.length) : obOk (id, vs) = false := by
  unfold obOk valsOk inB
  rcases h with h | h
  · rw [decide_eq_false (p := (1 : Int) ≤ (vs.length : Int)) (by omega)]; simp
  · rw [decide_eq_false (p := (vs.length : Int) ≤ 6) (by omega)]; simp
theorem obOk_in {id : Int} {vs : List Int} (h0 : 1 ≤ id) (h1 : id ≤ 999) (h2 : 1 ≤ vs.length) (h3 : vs.length ≤ 6) : obOk (id, vs) = vs.all valOk := by
  unfold obOk valsOk
  rw [inB_true h0 h1, inB_true (n := (vs.length : Int)) (by omega) (by omega)]
  simp

theorem ascF_ob {s : Sto} {k : Nat} {o : Int × List Int} (h : s[k]? = some o) {last : Int} (h0 : 0 ≤ last) : ascF_StoM last (s.drop k) = (decide (last < o.1) && obOk o && ascF_StoM o.1 (s.drop (k + 1))) := by
  rw [ascF_step h]
  congr 1
  unfold obOk inB
  rw [Bool.eq_iff_iff]
  simp only [Bool.and_eq_true, decide_eq_true_eq]
  constructor
  · rintro ⟨⟨a, b⟩, c⟩; exact ⟨by omega, ⟨by omega, b⟩, c⟩
  · rintro ⟨a, ⟨b, c⟩, d⟩; exact ⟨⟨by omega, c⟩, d⟩

end Go.Proofs.Ytfianpjoifcphaa
