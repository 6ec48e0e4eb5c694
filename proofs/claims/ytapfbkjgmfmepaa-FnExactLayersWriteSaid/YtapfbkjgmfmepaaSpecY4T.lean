/-
  Layers handed back by the model.
-/
import Derived.Test.YtapfbkjgmfmepaaSpecY3
namespace Go.Proofs.Ytapfbkjgmfmepaa
open Go.RowKit
set_option linter.unusedVariables false
set_option maxRecDepth 100000

/-- layers handed back by the model -/
def LysPostY (w : World) (v : Bool) (ls : List Ly) (e : Ending) (w' : World) : Prop :=
  ∃ A2 m c2 qs, e = .returned (.tuple #[.slice A2 m c2, .bool v]) ∧ OwnL w' w.heap.size A2 m c2 qs ∧ lys qs = ls ∧ Below w.heap.size w w'
theorem LysPostY.no {w w' : World} {v : Bool} {ls : List Ly} (hv : v = false) (hl : ls = []) (hb : Below w.heap.size w w') :
    LysPostY w v ls (.returned (.tuple #[.slice (some ⟨w'.heap.size, 0, none⟩) 0 0, .bool false])) (w'.alloc (.cells #[] 27)) :=
  ⟨_, 0, 0, [], by rw [hv], OwnL.lit0 w' _ hb.size, hl.symm, hb.alloc hb.size _⟩
theorem OwnL.fresh0 {w : World} {base n c : Nat} {A : Option Addr} {qs : List Lq} (h : OwnL w base A n c qs) : ∀ (k : Nat) (r : Lq), qs[k]? = some r → ∀ g, r.sl.ownBlock = some g → (Lq.mk [] (some ⟨w.heap.size, 0, none⟩) 0).sl.ownBlock ≠ some g := by
  intro k r hr g hg hg2
  have h1 := (h.wblock hr g hg).2
  injection hg2 with hg2
  simp at hg2
  omega
theorem set_lastY {ls : List Ly} {n : Nat} (h : ls.length = n + 1) (p : Ly) : ls.set n p = ls.take n ++ [p] := by
  apply List.ext_getElem?
  intro i
  rw [List.getElem?_set]
  by_cases h1 : n = i
  · subst h1
    rw [if_pos rfl, if_pos (by omega), List.getElem?_append_right (by rw [List.length_take]; omega), List.length_take]
    simp [show min n ls.length = n by omega]
  · rw [if_neg h1]
    rcases Nat.lt_or_ge i n with h2 | h2
    · rw [List.getElem?_append_left (by rw [List.length_take]; omega), List.getElem?_take_of_lt h2]
    · rw [List.getElem?_append_right (by rw [List.length_take]; omega), List.getElem?_eq_none (by omega), List.getElem?_eq_none (by rw [List.length_take]; simp; omega)]

theorem PrR.fresh0 (w : World) : PrR (w.alloc (.cells #[] 29)) w.heap.size (some ⟨w.heap.size, 0, none⟩) 0 0 [] := PrR.lit0 w _ (Nat.le_refl _)
end Go.Proofs.Ytapfbkjgmfmepaa
