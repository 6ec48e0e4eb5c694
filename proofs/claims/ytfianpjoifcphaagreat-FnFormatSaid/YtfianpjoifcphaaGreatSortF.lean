/-
  slices.SortFunc with compareFound, on a row of frames of the call's own.
-/
import Derived.Test.YtfianpjoifcphaaGreatCmpF
import Derived.Test.YtfianpjoifcphaaGreatLayF
import Derived.Shelf.SlSortCmp.WholeK
import Derived.Shelf.SlSortCmp.NoneTotal
import Derived.Lib.OwnBridge
namespace Go.Proofs.YtfianpjoifcphaaGreat
open Go.RowKit Go.Sort Go.Shelf
set_option linter.unusedVariables false
set_option maxRecDepth 100000

instance : Inhabited Fq := ⟨⟨0, 0, 0, 0, [], none, 0⟩⟩
def cfQ (q r : Fq) : Int := cmpF q.fn r.fn
theorem ltQ (q r : Fq) : ltOf cfQ q r = true ↔ ltF q.fn r.fn := by unfold ltOf cfQ; rw [decide_eq_true_iff]; exact cmpF_lt
theorem ltQ_no (q r : Fq) : ltOf cfQ q r = false ↔ ¬ ltF q.fn r.fn := by rw [← ltQ, Bool.not_eq_true]
theorem swoQ : SWO (ltOf cfQ) where
  irrefl x := (ltQ_no _ _).2 (ltF_irrefl _)
  trans x y z h1 h2 := (ltQ _ _).2 (ltF_trans ((ltQ _ _).1 h1) ((ltQ _ _).1 h2))
  ntrans x y z h1 h2 := (ltQ_no _ _).2 (ltF_ntrans ((ltQ_no _ _).1 h1) ((ltQ_no _ _).1 h2))

theorem flatK_flatF (qs : List Fq) : (flatK Fq.cells 5 qs.toArray).toList = flatF qs := by
  apply List.ext_getElem?
  intro t
  rcases Nat.lt_or_ge t (qs.length * 5) with h | h
  · have hk : t / 5 < qs.length := by omega
    have h1 : (flatF qs)[t / 5 * 5 + t % 5]? = (qs[t / 5]).cells[t % 5]? := flatF_get (List.getElem?_eq_getElem hk) (t % 5) (Nat.mod_lt _ (by omega))
    rw [show t / 5 * 5 + t % 5 = t by omega] at h1
    rw [h1, Array.getElem?_toList, Array.getElem?_eq_getElem (by simp; omega)]
    have hc : t % 5 < (qs[t / 5]).cells.length := by have : (qs[t / 5]).cells.length = 5 := rfl; omega
    rw [List.getElem?_eq_getElem hc]
    congr 1
    unfold flatK
    simp only [Array.getElem_map, Array.getElem_range]
    have e1 : qs.toArray[t / 5]! = qs[t / 5] := by rw [getElem!_pos qs.toArray (t / 5) (by simpa using hk)]; rfl
    rw [e1, getElem!_pos (qs[t / 5]).cells (t % 5) hc]
  · rw [List.getElem?_eq_none (by simp; omega), List.getElem?_eq_none (by rw [flatF_length]; omega)]

theorem holds5 {w : World} {base g n c : Nat} {qs : List Fq} (h : w.ownsRow base 156 5 (.slice (some ⟨g, 0, none⟩) n c) n (flatF qs)) : HoldsK Fq.cells 5 w g 0 qs.toArray := by
  intro j hj
  have hl : (flatK Fq.cells 5 qs.toArray).toList[j]? = some (flatK Fq.cells 5 qs.toArray)[j]! := by
    rw [Array.getElem?_toList, Array.getElem?_eq_getElem hj, getElem!_pos _ j hj]
  rw [flatK_flatF] at hl
  have hc := h.cells rfl j _ hl
  rw [add_plain'] at hc
  rw [Nat.zero_add]
  exact ⟨hc, h.frozenAt j⟩

theorem putRow5 {w : World} {base g n cap q : Nat} {e : TypeId} {s : Nat} {xs ys : List Value} (h : w.ownsRow base e s (.slice (some ⟨g, 0, none⟩) n cap) n xs) (hy : ys.length = n * s) :
    (putRow id (Sort.ahead w q) g 0 ys.toArray).ownsRow base e s (.slice (some ⟨g, 0, none⟩) n cap) n ys := by
  rcases h.2 with ⟨e0, _⟩ | ⟨g', cap', cur, e0, hb, hg, hn, hm, hs, ht⟩
  · cases e0
  · injection e0 with e1 _ e3
    injection e1 with e1
    injection e1 with e1
    subst e1; subst e3
    have hns : n * s ≤ cur.size := by rw [hs]; exact Nat.mul_le_mul_right s hn
    refine ⟨hy, .inr ⟨g, cap, putCells id 0 ys.toArray cur, rfl, hb, ?_, hn, hm, by simpa [putCells] using hs, ?_⟩⟩
    · simp [putRow, mapBlock, Sort.ahead, Array.getElem?_modify, hg, onCells]
    · apply List.ext_getElem?
      intro j
      rw [List.getElem?_take, Array.getElem?_toList]
      by_cases hj : j < n * s
      · have hjc : j < cur.size := by omega
        simp only [if_pos hj, putCells, Array.getElem?_mapIdx, Array.getElem?_eq_getElem hjc, Option.map_some]
        rw [if_pos (by simp; omega), List.getElem?_eq_getElem (by omega)]
        simp [getElem!_pos, show j < ys.length by omega]
      · rw [if_neg hj, List.getElem?_eq_none (by omega)]

/-- the frames of a row that is rewritten: the same frames in another order -/
theorem OwnF.perm_ {w w' : World} {base n c g : Nat} {qs rs : List Fq} (h : OwnF w base (some ⟨g, 0, none⟩) n c qs) (hp : rs.Perm qs) (hr : w'.ownsRow base 156 5 (.slice (some ⟨g, 0, none⟩) n c) n (flatF rs)) (hg : w.grownBy w' (some g)) :
    OwnF w' base (some ⟨g, 0, none⟩) n c rs := by
  have own : ∀ q ∈ qs, Own w' base q.addr q.vals.length q.cap q.vals := fun q hq => by
    obtain ⟨k, hk⟩ := List.getElem?_of_mem hq
    exact (h.own k q hk).kept hg (fun b hb => by injection hb with hb; subst hb; exact h.far hk rfl)
  have hsep : qs.Pairwise fun q r => ∀ g, q.sl.ownBlock = some g → r.sl.ownBlock ≠ some g := by
    rw [List.pairwise_iff_getElem]
    intro i j hi hj hij g1 hg1
    exact h.sep i j _ _ (List.getElem?_eq_getElem hi) (List.getElem?_eq_getElem hj) (by omega) g1 hg1
  have hsep2 : rs.Pairwise fun q r => ∀ g, q.sl.ownBlock = some g → r.sl.ownBlock ≠ some g := (hp.symm.pairwise_iff (fun {a b} hab g hb e => hab g e hb)).1 hsep
  rw [List.pairwise_iff_getElem] at hsep2
  refine ⟨by rw [hp.length_eq, h.len], hr, fun k q hk => own q (hp.mem_iff.1 (List.mem_of_getElem? hk)), fun i j q r hi hj hij g1 hg1 => ?_⟩
  obtain ⟨hi', rfl⟩ := List.getElem?_eq_some_iff.1 hi
  obtain ⟨hj', rfl⟩ := List.getElem?_eq_some_iff.1 hj
  rcases Nat.lt_or_gt_of_ne hij with hlt | hlt
  · exact hsep2 i j hi' hj' hlt g1 hg1
  · exact fun e => hsep2 j i hj' hi' hlt g1 e hg1

set_option maxHeartbeats 3200000 in
theorem sortF_any (base m d : Nat) (X : Option Addr) (qs : List Fq) (w : World) (ho : OwnF w base X m d qs) (hb : base ≤ w.heap.size) (hm : m ≤ 1000000000) :
    Calls Tryz.prog 110 #[.slice X m d, .func (.func 111) #[] #[]] w fun e w' => e = .returned (.tuple #[]) ∧ ∃ rs, OwnF w' base X m d rs ∧ rs.Perm qs ∧ (fns rs).Pairwise leF ∧ Below base w w' := by
  by_cases h0 : m = 0
  · subst h0
    have hz : qs = [] := List.eq_nil_of_length_eq_zero ho.len
    subst hz
    refine (AnyF.slices_SortFunc_none { sortF with } X d _ w).mono ?_
    rintro e w' ⟨rfl, rfl⟩
    exact ⟨rfl, [], ho, List.Perm.refl _, List.Pairwise.nil, Below.refl _ _⟩
  · obtain ⟨g, rfl, hbg, hgl⟩ := ho.shape (by omega)
    have hl := ho.len
    have eg : ∀ args w, (callFunc 111 args).run Tryz.prog w = .ok (.enter 111 args) w := enters_of Tryz.func111 (by kernel_rfl) rfl
    have hcmp : CmpLays Tryz.prog 111 #[] Fq.cells 5 cfQ g 0 qs.toArray.size w := fun _ _ _ _ x y => compareF_any x y _
    have hc := AnyQ.slices_SortFunc sortF 5 Tryz.isAgg156 Tryz.sizeOf156 Fq.cells (fun _ => rfl) (fun x v hv => by simp [Fq.cells] at hv; rcases hv with rfl | rfl | rfl | rfl | rfl <;> rfl) cfQ swoQ 111 #[] g 0 d qs.toArray w eg hcmp (holds5 ho.row) hgl (by simp; omega)
    have e1 : qs.toArray.size = m := by simpa using hl
    rw [e1] at hc
    refine hc.mono ?_
    rintro e w' ⟨rfl, d', nn, os, hp, hs, rfl⟩
    obtain ⟨hsz, _, hperm⟩ := hp
    have hpl : d'.toList.Perm qs := by
      rw [e1] at hsz
      have h1 : d'.extract 0 m = d' := by rw [← hsz]; exact Array.extract_size
      have h2 : qs.toArray.extract 0 m = qs.toArray := by rw [← e1]; exact Array.extract_size
      rw [h1, h2] at hperm
      simpa using hperm
    have hdl : d'.toList.length = m := by rw [hpl.length_eq]; exact hl
    have hrow := putRow5 (q := nn) (ys := flatF d'.toList) ho.row (by rw [flatF_length, hdl])
    have hfe : flatK Fq.cells 5 d' = (flatF d'.toList).toArray := by
      have := flatK_flatF d'.toList
      rw [Array.toArray_toList] at this
      rw [← this, Array.toArray_toList]
    have hw : sortWorldK Fq.cells 5 w g 0 nn d' os = grow (putRow id (Sort.ahead w nn) g 0 (flatF d'.toList).toArray) os := by unfold sortWorldK putRowK; rw [hfe]
    rw [hw]
    have hgr : w.grownBy (putRow id (Sort.ahead w nn) g 0 (flatF d'.toList).toArray) (some g) :=
      ⟨rfl, rfl, rfl, by simp [putRow, mapBlock, Sort.ahead], fun k hk hne => by
        have hne' : g ≠ k := fun e => hne (by rw [e])
        simp [putRow, mapBlock, Sort.ahead, Array.getElem?_modify, hne']⟩
    have hown := ho.perm_ hpl hrow hgr
    have hbg2 : Below (putRow id (Sort.ahead w nn) g 0 (flatF d'.toList).toArray).heap.size (putRow id (Sort.ahead w nn) g 0 (flatF d'.toList).toArray) (grow (putRow id (Sort.ahead w nn) g 0 (flatF d'.toList).toArray) os) :=
      ⟨rfl, rfl, rfl, by simp, fun k hk => heap_grow_old _ _ hk⟩
    have hb1 : Below base w (putRow id (Sort.ahead w nn) g 0 (flatF d'.toList).toArray) := below_of_grown' hgr hb (by intro q hq; injection hq with hq; omega)
    refine ⟨rfl, d'.toList, hown.below hbg2, hpl, ?_, hb1.trans (hbg2.mono (Nat.le_trans hb hb1.size))⟩
    rw [List.pairwise_iff_getElem]
    intro i j hi hj hij
    rw [fns_length] at hi hj
    have hsi := hs i j (Nat.zero_le _) hij (by rw [← hdl]; exact hj)
    have hi' : i < d'.size := by simpa using hi
    have hj' : j < d'.size := by simpa using hj
    rw [getElem!_pos d' i hi', getElem!_pos d' j hj'] at hsi
    have := (ltQ_no _ _).1 hsi
    unfold leF
    simpa [fns] using this
end Go.Proofs.YtfianpjoifcphaaGreat
