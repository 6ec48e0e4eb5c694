/-
  A row of frames of the call's own: cells of one frame turned. Plain.
-/
import Derived.Test.YtcocboigjfjnfabFnd
namespace Go.Proofs.Ytcocboigjfjnfab
open Go.RowKit
set_option linter.unusedVariables false
set_option maxRecDepth 100000

theorem fns_setF (qs : List Fq) (k : Nat) (q : Fq) : fns (qs.set k q) = (fns qs).set k q.fn := by unfold fns; rw [List.map_set]
theorem set_sameF {l : List Value} {i : Nat} {v : Value} (h : l[i]? = some v) : l.set i v = l := by
  apply List.ext_getElem?
  intro j
  rw [List.getElem?_set]
  split
  · next e =>
    subst e
    split
    · exact h.symm
    · next h2 => exact absurd ((List.getElem?_eq_some_iff.1 h).1) h2
  · rfl

theorem OwnF.put {w w3 : World} {base g n c k : Nat} {qs : List Fq} {q : Fq} {row : Option Nat} (h : OwnF w base (some ⟨g, 0, none⟩) n c qs) (hk : qs[k]? = some q) (hg : w.grownBy w3 row)
    (hrow : ∀ b, row = some b → b ≠ g ∧ ∀ (i : Nat) (r : Fq), qs[i]? = some r → i ≠ k → r.sl.ownBlock ≠ some b) (q' : Fq) (j : Nat) (v : Value) (hj : j < 5) (hv : q'.cells = q.cells.set j v)
    (hq' : Own w3 base q'.addr q'.vals.length q'.cap q'.vals) (hsep : ∀ (i : Nat) (r : Fq), qs[i]? = some r → i ≠ k → ∀ b, r.sl.ownBlock = some b → q'.sl.ownBlock ≠ some b) :
    OwnF (w3.setCell ⟨g, k * 5 + j, none⟩ v) base (some ⟨g, 0, none⟩) n c (qs.set k q') ∧ w3.grownBy (w3.setCell ⟨g, k * 5 + j, none⟩ v) (some g) := by
  have hob : (Value.slice (some (⟨g, 0, none⟩ : Addr)) n c).ownBlock = some g := rfl
  have hr := h.row.kept hg (by
    rcases row with _ | b
    · exact .inr (by rw [hob]; simp)
    · exact .inr (by rw [hob]; intro e; injection e with e; exact (hrow b rfl).1 e.symm))
  have hst := hr.stored (k * 5 + j) v
  rw [flatF_set hk j v hj hv] at hst
  refine ⟨⟨by rw [List.length_set]; exact h.len, hst.1, fun i r hi => ?_, fun i i' r r' hi hi' hii b hb => ?_⟩, hst.2⟩
  · rw [List.getElem?_set] at hi
    split at hi
    · split at hi
      · injection hi with hi
        subst hi
        exact hq'.kept hst.2 (fun b hb => by injection hb with hb; subst hb; exact rows_neF hr hq'.2 (by decide) hob)
      · cases hi
    · next hne =>
      have ho := (h.own i r hi).kept hg (fun b hb => (hrow b hb).2 i r hi (fun e => hne e.symm))
      exact ho.kept hst.2 (fun b hb => by injection hb with hb; subst hb; exact rows_neF hr ho.2 (by decide) hob)
  · rw [List.getElem?_set] at hi hi'
    split at hi
    · next e1 =>
      split at hi
      · injection hi with hi
        subst hi
        split at hi'
        · next e2 => exact absurd (e1.symm.trans e2) hii
        · next e2 => exact fun e => hsep i' r' hi' (fun e3 => e2 e3.symm) b e hb
      · cases hi
    · next e1 =>
      split at hi'
      · split at hi'
        · injection hi' with hi'
          subst hi'
          exact hsep i r hi (fun e3 => e1 e3.symm) b hb
        · cases hi'
      · exact h.sep i i' r r' hi hi' hii b hb

/-- .. where its values stay -/
theorem OwnF.put_in {w : World} {base g n c k : Nat} {qs : List Fq} {q : Fq} (h : OwnF w base (some ⟨g, 0, none⟩) n c qs) (hk : qs[k]? = some q) (q' : Fq) (j : Nat) (v : Value) (hj : j < 5) (hv : q'.cells = q.cells.set j v)
    (h1 : q'.vals = q.vals) (h2 : q'.addr = q.addr) (h3 : q'.cap = q.cap) :
    OwnF (w.setCell ⟨g, k * 5 + j, none⟩ v) base (some ⟨g, 0, none⟩) n c (qs.set k q') ∧ w.grownBy (w.setCell ⟨g, k * 5 + j, none⟩ v) (some g) := by
  refine h.put hk (World.grownBy.refl w none) (by simp) q' j v hj hv ?_ ?_
  · rw [h1, h2, h3]; exact h.own k q hk
  · intro i r hi hik b hb
    have e : q'.sl = q.sl := by unfold Fq.sl; rw [h1, h2, h3]
    rw [e]
    exact h.sep i k r q hi hk hik b hb

end Go.Proofs.Ytcocboigjfjnfab
