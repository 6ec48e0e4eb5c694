/-
  Plain mathematics of the objects of a map: what is sorted and compacted is the ascending list.
-/
import Derived.Test.YtdhknodhmnnenaaMapM
import Derived.Lib.SlicesCompact
namespace Go.Proofs.Ytdhknodhmnnenaa
open Go.RowKit
set_option linter.unusedVariables false
set_option maxRecDepth 100000

theorem asc_ext : ∀ {xs ys : List Int}, xs.Pairwise (· < ·) → ys.Pairwise (· < ·) → (∀ x, x ∈ xs ↔ x ∈ ys) → xs = ys
  | [], [], _, _, _ => rfl
  | [], y :: ys, _, _, h => by have := (h y).2 (by simp); cases this
  | x :: xs, [], _, _, h => by have := (h x).1 (by simp); cases this
  | x :: xs, y :: ys, hx, hy, h => by
    obtain ⟨hx1, hx2⟩ := List.pairwise_cons.1 hx
    obtain ⟨hy1, hy2⟩ := List.pairwise_cons.1 hy
    have e : x = y := by
      rcases List.mem_cons.1 ((h x).1 (by simp)) with e | e
      · exact e
      · rcases List.mem_cons.1 ((h y).2 (by simp)) with e2 | e2
        · exact e2.symm
        · have := hy1 x e
          have := hx1 y e2
          omega
    subst e
    rw [asc_ext hx2 hy2 fun z => ?_]
    refine ⟨fun hz => ?_, fun hz => ?_⟩
    · rcases List.mem_cons.1 ((h z).1 (by simp [hz])) with e | e
      · have := hx1 z hz; omega
      · exact e
    · rcases List.mem_cons.1 ((h z).2 (by simp [hz])) with e | e
      · have := hy1 z hz; omega
      · exact e

theorem compact_upto (d : Array Int) (hd : ∀ i j, i ≤ j → j < d.size → d[i]! ≤ d[j]!) : ∀ m, m ≤ d.size →
    (Lib.compactUpTo d m).Pairwise (· < ·) ∧ (∀ x ∈ Lib.compactUpTo d m, 0 < m ∧ x ≤ d[m - 1]!) ∧ ∀ x, x ∈ Lib.compactUpTo d m ↔ ∃ j, j < m ∧ d[j]! = x
  | 0, _ => ⟨List.Pairwise.nil, fun x hx => (by cases hx), fun x => ⟨fun hx => (by cases hx), fun ⟨j, hj, _⟩ => (by omega)⟩⟩
  | m + 1, hm => by
    obtain ⟨h1, h2, h3⟩ := compact_upto d hd m (by omega)
    rw [Lib.compactUpTo_succ]
    by_cases hk : m = 0 ∨ d[m]! ≠ d[m - 1]!
    · have hkeep : Lib.keeps d m = true := by
        rcases hk with hk | hk
        · exact Lib.keeps_lt_one d m (by omega)
        · exact Lib.keeps_pos hk
      rw [if_pos hkeep]
      have hlt : ∀ x ∈ Lib.compactUpTo d m, x < d[m]! := fun x hx => by
        obtain ⟨h0, hle⟩ := h2 x hx
        have := hd (m - 1) m (by omega) (by omega)
        rcases hk with hk | hk <;> omega
      refine ⟨List.pairwise_append.2 ⟨h1, List.pairwise_singleton _ _, fun x hx y hy => ?_⟩, fun x hx => ⟨by omega, ?_⟩, fun x => ?_⟩
      · rw [List.mem_singleton.1 hy]; exact hlt x hx
      · rw [Nat.add_sub_cancel]
        rcases List.mem_append.1 hx with hx | hx
        · have := hlt x hx; omega
        · rw [List.mem_singleton.1 hx]; exact Int.le_refl _
      · rw [List.mem_append, List.mem_singleton, h3]
        refine ⟨fun h => ?_, fun ⟨j, hj, e⟩ => ?_⟩
        · rcases h with ⟨j, hj, e⟩ | e
          · exact ⟨j, by omega, e⟩
          · exact ⟨m, by omega, e.symm⟩
        · by_cases hjm : j = m
          · subst hjm; exact .inr e.symm
          · exact .inl ⟨j, by omega, e⟩
    · have hm0 : 0 < m := by omega
      have he : d[m]! = d[m - 1]! := Classical.byContradiction fun h => hk (.inr h)
      rw [if_neg (by rw [Lib.keeps_neg hm0 he]; simp), List.append_nil]
      refine ⟨h1, fun x hx => ⟨by omega, ?_⟩, fun x => ?_⟩
      · rw [Nat.add_sub_cancel, he]; exact (h2 x hx).2
      · rw [h3]
        refine ⟨fun ⟨j, hj, e⟩ => ⟨j, by omega, e⟩, fun ⟨j, hj, e⟩ => ?_⟩
        by_cases hjm : j = m
        · subst hjm; exact ⟨j - 1, by omega, by rw [← he]; exact e⟩
        · exact ⟨j, by omega, e⟩

theorem arr_at (zs : List Int) (j : Nat) (h : j < zs.length) : zs.toArray[j]! = zs[j] := by
  simp [h]
theorem compact_asc (zs : List Int) (h : zs.Pairwise (· ≤ ·)) : (Lib.compact zs).Pairwise (· < ·) ∧ ∀ x, x ∈ Lib.compact zs ↔ x ∈ zs := by
  have hd : ∀ i j, i ≤ j → j < zs.toArray.size → zs.toArray[i]! ≤ zs.toArray[j]! := by
    intro i j hij hj
    have hj' : j < zs.length := by simpa using hj
    rw [arr_at zs i (by omega), arr_at zs j hj']
    by_cases e : i = j
    · subst e; exact Int.le_refl _
    · exact List.pairwise_iff_getElem.1 h i j (by omega) hj' (by omega)
  obtain ⟨h1, _, h3⟩ := compact_upto zs.toArray hd zs.length (by simp)
  refine ⟨h1, fun x => ?_⟩
  unfold Lib.compact
  rw [h3]
  refine ⟨fun ⟨j, hj, e⟩ => ?_, fun hx => ?_⟩
  · rw [arr_at zs j hj] at e
    rw [← e]
    exact List.getElem_mem hj
  · obtain ⟨j, hj, e⟩ := List.getElem_of_mem hx
    exact ⟨j, hj, by rw [arr_at zs j hj]; exact e⟩

/-- the object that a block's element names -/
def idOf (ms : List Wh) (b : Int) : Int := (ms.getD b.toNat wh0).2.2.2.1
theorem hasB_iff (bs : List Int) (b : Int) : hasB bs b = true ↔ b ∈ bs := by unfold hasB; simp
theorem tier_mem {ms : List Wh} (h : mpV ms = true) {t b : Int} (hb : b ∈ tierM ms t) : ∃ (k : Nat) (x : Wh), b = (k : Int) ∧ k < 12 ∧ ms[k]? = some x ∧ x.1 = t := by
  rw [← hasB_iff] at hb
  unfold tierM at hb
  rw [if_pos h, blkP_mem] at hb
  simp only [Bool.and_eq_true, decide_eq_true_eq] at hb
  obtain ⟨⟨h0, h1⟩, h2⟩ := hb
  obtain ⟨k, rfl⟩ := Int.eq_ofNat_of_zero_le h0
  have hk : k < 12 := by omega
  obtain ⟨x, hx⟩ : ∃ x, ms[k]? = some x := ⟨_, List.getElem?_eq_getElem (by rw [(mpV_iff.1 h).2]; exact hk)⟩
  refine ⟨k, x, rfl, hk, hx, ?_⟩
  unfold inT at h2
  rw [Int.toNat_natCast, hx] at h2
  simpa using h2
theorem tier_mem' {ms : List Wh} (h : mpV ms = true) {k : Nat} {x : Wh} (hx : ms[k]? = some x) : (k : Int) ∈ tierM ms x.1 := by
  have hk : k < 12 := by have := (List.getElem?_eq_some_iff.1 hx).1; rw [(mpV_iff.1 h).2] at this; exact this
  rw [← hasB_iff]
  unfold tierM
  rw [if_pos h, blkP_mem]
  simp only [Bool.and_eq_true, decide_eq_true_eq]
  refine ⟨⟨by omega, by omega⟩, ?_⟩
  unfold inT
  rw [Int.toNat_natCast, hx]
  simp
theorem idOf_at {ms : List Wh} {k : Nat} {x : Wh} (hx : ms[k]? = some x) : idOf ms (k : Int) = x.2.2.2.1 := by
  unfold idOf
  rw [Int.toNat_natCast, List.getD, hx]
  rfl
theorem ids_mem {ms : List Wh} (h : mpV ms = true) (d : Int) : d ∈ idsM ms ↔ d ∈ (tierM ms 2).map (idOf ms) := by
  rw [List.mem_map]
  refine ⟨fun hd => ?_, fun ⟨b, hb, e⟩ => ?_⟩
  · have := ids_some h ((hasB_iff _ _).2 hd)
    rw [List.any_eq_true] at this
    obtain ⟨x, hx, he⟩ := this
    rw [Bool.and_eq_true, decide_eq_true_eq, decide_eq_true_eq] at he
    obtain ⟨k, hk, ek⟩ := List.getElem_of_mem hx
    have hg : ms[k]? = some x := by rw [List.getElem?_eq_getElem hk, ek]
    refine ⟨(k : Int), ?_, ?_⟩
    · have := tier_mem' h hg
      rwa [he.1] at this
    · rw [idOf_at hg]; exact he.2
  · obtain ⟨k, x, rfl, hk, hx, ht⟩ := tier_mem h hb
    rw [idOf_at hx] at e
    rw [← e]
    exact (hasB_iff _ _).1 (ids_has h (List.mem_of_getElem? hx) ht)
theorem ids_sorted {ms : List Wh} (h : mpV ms = true) : Lib.compact (((tierM ms 2).map (idOf ms)).mergeSort fun x y => decide (x ≤ y)) = idsM ms := by
  have hs : (((tierM ms 2).map (idOf ms)).mergeSort fun x y => decide (x ≤ y)).Pairwise (· ≤ ·) := by
    have := List.pairwise_mergeSort (le := fun x y : Int => decide (x ≤ y)) (fun a b c h1 h2 => by simp at *; omega) (fun a b => by simp; omega) ((tierM ms 2).map (idOf ms))
    exact this.imp (fun h => by simpa using h)
  obtain ⟨h1, h2⟩ := compact_asc _ hs
  refine asc_ext h1 (ids_asc ms) fun x => ?_
  rw [h2, List.mem_mergeSort, ids_mem h]
end Go.Proofs.Ytdhknodhmnnenaa
