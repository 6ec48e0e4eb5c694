/-
  Plain mathematics for the laws on stores: what a get tells behind a put.
-/
import Derived.Test.YteeeioiaogogmaaStoM
namespace Go.Proofs.Yteeeioiaogogmaa
open Go.RowKit
set_option linter.unusedVariables false
set_option maxRecDepth 100000

theorem put_new {s : Sto} {id : Int} {vs : List Int} (h : putOk s id vs = true) (hh : hasS s id = false) (hl : s.length < 6) :
    stV (insS s id vs) = true ∧ hasS (insS s id vs) id = true ∧ valsAt (insS s id vs) id = vs ∧ 1 ≤ vs.length ∧ vs.length ≤ 6 ∧ 1 ≤ id ∧ id ≤ 999 := by
  obtain ⟨a, b, c⟩ := putOk_iff.1 h
  obtain ⟨d, e⟩ := valsOk_len c
  obtain ⟨f, g⟩ := inB_iff.1 b
  exact ⟨insS_valid a b c hh hl, insS_has _ _ _, insS_vals (stV_asc a) hh, d, e, f, g⟩
theorem getB_of {s : Sto} {id : Int} {vs : List Int} (h1 : stV s = true) (h2 : hasS s id = true) (h3 : valsAt s id = vs) (ix : Int) : getB s id ix = inB ix 0 (vs.length - 1) := by
  unfold getB
  rw [h1, h2, h3]
  rfl
theorem get_in {s : Sto} {id : Int} {vs : List Int} (h1 : stV s = true) (h2 : hasS s id = true) (h3 : valsAt s id = vs) {j : Nat} (hj : j < vs.length) : getB s id j = true ∧ getV s id j = vs.getD j 0 := by
  have e : getB s id j = true := by rw [getB_of h1 h2 h3]; exact inB_true (by omega) (by omega)
  refine ⟨e, ?_⟩
  unfold getV
  rw [e, h3]
  simp
theorem get_past {s : Sto} {id : Int} {vs : List Int} (h1 : stV s = true) (h2 : hasS s id = true) (h3 : valsAt s id = vs) {j : Nat} (hj : vs.length ≤ j) : getB s id j = false ∧ getV s id j = 0 := by
  have e : getB s id j = false := by
    rw [getB_of h1 h2 h3]
    unfold inB
    rw [decide_eq_false (p := (j : Int) ≤ (vs.length : Int) - 1) (by omega)]
    simp
  refine ⟨e, ?_⟩
  unfold getV
  rw [e]
  simp
theorem get_no {s : Sto} {id : Int} (h : hasS s id = false) (ix : Int) : getB s id ix = false ∧ getV s id ix = 0 := by
  have e : getB s id ix = false := by unfold getB; rw [h]; simp
  refine ⟨e, ?_⟩
  unfold getV
  rw [e]
  simp
/-- another object gives what it gave -/
theorem get_other {s : Sto} {id : Int} {vs : List Int} (h : putOk s id vs = true) (hh : hasS s id = false) (hl : s.length < 6) {o : Int × List Int} (ho : o ∈ s) (ix : Int) :
    getB (insS s id vs) o.1 ix = getB s o.1 ix ∧ getV (insS s id vs) o.1 ix = getV s o.1 ix := by
  obtain ⟨a, b, c⟩ := putOk_iff.1 h
  have hv := (put_new h hh hl).1
  have h1 : hasS (insS s id vs) o.1 = true := hasS_iff.2 ⟨o, insS_mem.2 (.inr ho), rfl⟩
  have h2 : hasS s o.1 = true := hasS_iff.2 ⟨o, ho, rfl⟩
  have h3 := insS_other (vs := vs) (stV_asc a) hh ho
  have e : getB (insS s id vs) o.1 ix = getB s o.1 ix := by unfold getB; rw [hv, a, h1, h2, h3]
  refine ⟨e, ?_⟩
  unfold getV
  rw [e, h3]
/-- a put of a number that is there -/
theorem put_again {s : Sto} {id : Int} {vs ws : List Int} (h : putOk s id vs = true) (hh : hasS s id = false) (hl : s.length < 6) (hw : valsOk ws = true) :
    putN (insS s id vs) id ws = 1 ∧ putS (insS s id vs) id ws = insS s id vs := by
  obtain ⟨a, b, c⟩ := putOk_iff.1 h
  have hv := (put_new h hh hl).1
  have hk : putOk (insS s id vs) id ws = true := putOk_iff.2 ⟨hv, b, hw⟩
  unfold putN putS
  rw [hk, insS_has]
  simp
theorem get_first {s : Sto} {id : Int} (h1 : stV s = true) (h2 : hasS s id = true) : getB s id 0 = true := by
  obtain ⟨o, ho, rfl⟩ := hasS_iff.1 h2
  rw [getB_of h1 h2 (valsAt_mem (stV_asc h1) ho)]
  have := valsOk_len (obOk_iff.1 ((stV_iff.1 h1).1 o ho)).2.2
  exact inB_true (by omega) (by omega)
end Go.Proofs.Yteeeioiaogogmaa
