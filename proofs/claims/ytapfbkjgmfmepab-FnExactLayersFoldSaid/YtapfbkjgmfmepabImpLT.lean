/-
  A tree of a list turned; the last layer.
-/
import Derived.Test.YtapfbkjgmfmepabImpL7
namespace Go.Proofs.Ytapfbkjgmfmepab
open Go.RowKit Go.Shelf
set_option linter.unusedVariables false
set_option maxRecDepth 100000

theorem trees_valid {w : World} {base n c : Nat} {A : Option Addr} {ts : List Tr} {ls : List Ly} (h : Trs w base A n c ts) (he : tvs ts = ls) (hv : laysV ls = true) : ∀ t ∈ ts, TrI w t ∧ layV t.vals = true :=
  fun t ht => ⟨h.tri t ht, (laysV_iff.1 hv).1 _ (by rw [← he]; exact List.mem_map_of_mem ht)⟩

theorem LysPost.no {w w' : World} {v : Bool} {ls : List Ly} (hv : v = false) (hl : ls = []) (hb : Below w.heap.size w w') : LysPost w v ls (.returned (.tuple #[.slice none 0 0, .bool false])) w' :=
  ⟨none, 0, 0, [], by rw [hv], OwnL.nil_ _ _, hl.symm, hb⟩
theorem tvs_len12 {ts : List Tr} (h : ∀ p ∈ tvs ts, layV p = true) : ∀ t ∈ ts, t.vals.length ≤ 1000000 := fun t ht => Nat.le_trans (layV_len (h _ (List.mem_map_of_mem ht))) (by decide)

theorem Trs.turn {w w2 : World} {base n c g k : Nat} {ts : List Tr} {t t' : Tr} (h : Trs w base (some ⟨g, 0, none⟩) n c ts) (hk : ts[k]? = some t) (hb : But t.ids w w2) (hI : TrI w2 t') (hs : ∀ i ∈ t'.ids, i ∈ t.ids ∨ w.heap.size ≤ i) (hd : t'.ids.Nodup) (hbase : base ≤ w.heap.size) :
    w2.cell? ⟨g, k, none⟩ = some (.pointer t.pt) ∧ w2.frozen? ⟨g, k, none⟩ = false ∧ Trs (w2.setCell ⟨g, k, none⟩ (.pointer t'.pt)) base (some ⟨g, 0, none⟩) n c (ts.set k t') := by
  have hm := List.mem_of_getElem? hk
  have hgo : g ∉ t.ids := h.off g rfl t hm
  have hgl := (h.block g rfl).2
  have hge := (h.block g rfl).1
  have hrow : w2.ownsRow base 47 1 (.slice (some ⟨g, 0, none⟩) n c) n (pts ts) := by
    refine ⟨h.row.1, ?_⟩
    rcases h.row.2 with h0 | ⟨g', cap, cur, hv, hb', hh, r⟩
    · exact .inl h0
    · refine .inr ⟨g', cap, cur, hv, hb', (hb.block g' ?_ ?_).trans hh, r⟩
      · injection hv with hv; injection hv with hv; injection hv with hv; rw [← hv]; exact hgl
      · injection hv with hv; injection hv with hv; injection hv with hv; rw [← hv]; exact hgo
  have hgn : g ∉ t'.ids := hI.off hrow (by decide) g rfl
  have hst := hrow.stored k (.pointer t'.pt)
  rw [pts_set] at hst
  refine ⟨?_, hrow.frozenAt k, ⟨by rw [List.length_set]; exact h.len, hst.1, fun u hu => ?_, fun u hu => ?_, flat_set h.nd hk (N := w.heap.size) (fun u hu i hi => (h.tri u hu).lt i hi) hs hd⟩⟩
  · have := hrow.cells rfl k _ (pts_get hk)
    rwa [add_plain'] at this
  · have key : ∀ i, i ≠ g → (w2.setCell ⟨g, k, none⟩ (.pointer t'.pt)).heap[i]? = w2.heap[i]? := fun i hi => Below.heap_setCell w2 ⟨g, k, none⟩ _ i hi
    obtain ⟨j, hj⟩ := List.getElem?_of_mem hu
    rw [List.getElem?_set] at hj
    split at hj
    · split at hj
      · injection hj with hj
        subst hj
        exact hI.keep fun i hi => key i fun e => hgn (e ▸ hi)
      · cases hj
    · rename_i hne
      have hu' := List.mem_of_getElem? hj
      have h1 : TrI w2 u := (h.tri u hu').but hb fun i hi hit => flat_nodup h.nd hk hj hne i hit hi
      exact h1.keep fun i hi => key i fun e => (h.off g rfl u hu') (e ▸ hi)
  · rcases List.mem_or_eq_of_mem_set hu with hu | rfl
    · exact h.ge u hu
    · intro i hi
      rcases hs i hi with h1 | h1
      · exact h.ge t hm i h1
      · exact Nat.le_trans hbase h1
theorem getD_last {ls : List Ly} {n : Nat} (h : ls.length = n + 1) : ∃ p, ls[n]? = some p ∧ ls.getD n [] = p :=
  ⟨ls[n], List.getElem?_eq_getElem (by omega), by simp [List.getD, show n < ls.length by omega]⟩
theorem set_last {ls : List Ly} {n : Nat} (h : ls.length = n + 1) (p : Ly) : ls.set n p = ls.take n ++ [p] := by
  apply List.ext_getElem?
  intro i
  rw [List.getElem?_set]
  by_cases h1 : n = i
  · subst h1
    rw [if_pos rfl, if_pos (by omega), List.getElem?_append_right (by rw [List.length_take]; omega), List.length_take]
    simp [show min n ls.length = n by omega]
  · rw [if_neg h1]
    rcases Nat.lt_or_ge i n with h2 | h2
    · rw [List.getElem?_append_left (by rw [List.length_take]; omega), List.getElem?_take_of_lt h2]
    · rw [List.getElem?_append_right (by rw [List.length_take]; omega), List.getElem?_eq_none (by omega), List.getElem?_eq_none (by rw [List.length_take]; simp; omega)]
end Go.Proofs.Ytapfbkjgmfmepab
