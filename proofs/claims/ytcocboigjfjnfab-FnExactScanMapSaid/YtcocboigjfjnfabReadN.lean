/-
  What a row's reading of an argument '[]laws.Found' gives to my walks.
-/
import Derived.Test.YtcocboigjfjnfabFrame0
import Derived.Test.YtcocboigjfjnfabFnd
import Derived.Deep.Slices
import Derived.Deep.Fields
import Derived.ChangeSame
namespace Go.Proofs.Ytcocboigjfjnfab
open Go.ChangeShapes Go.WideShapes Go.Deep Go.RowKit
set_option linter.unusedVariables false
set_option maxRecDepth 100000

/-- Frames, one by one, are a list. -/
theorem founds_all {W : World} {a : Addr} {N : Nat} (h : ∀ k, k < N → ∃ q : Fq, (∀ j u, q.cells[j]? = some u → W.cell? (a.add (k * 5 + j)) = some u) ∧ Ints W W.heap.size q.addr q.vals.length q.vals ∧ q.vals.length ≤ q.cap ∧ q.cap ≤ maxLen ∧ (q.addr = none → q.cap = 0)) :
    ∃ qs, Fnds W W.heap.size (some a) N qs := by
  induction N with
  | zero => exact ⟨[], Fnds.nil_ _ _ _⟩
  | succ N ih =>
    obtain ⟨qs, hx⟩ := ih fun k hk => h k (by omega)
    obtain ⟨q, hc, hw⟩ := h N (by omega)
    have hl := hx.1
    refine ⟨qs ++ [q], by rw [List.length_append, hl]; rfl, fun _ => ⟨a, rfl, ?_, fun j u hj => ?_⟩, fun r hr => ?_⟩
    · have := World.block_lt_of_cell? W _ (hc 0 _ rfl)
      rwa [block_of_add] at this
    · rw [flatF_append] at hj
      have hfl : (flatF qs).length = N * 5 := by rw [flatF_length, hl]
      by_cases hjN : j < N * 5
      · rw [List.getElem?_append_left (by omega)] at hj
        by_cases h0 : 0 < N
        · obtain ⟨ad, e, _, hcc⟩ := hx.2.1 h0
          cases e
          exact hcc j u hj
        · omega
      · rw [List.getElem?_append_right (by omega), hfl] at hj
        have := hc (j - N * 5) u (by simpa [flatF, Fq.cells] using hj)
        rwa [show N * 5 + (j - N * 5) = j by omega] at this
    · rcases List.mem_append.1 hr with hr | hr
      · exact hx.2.2 r hr
      · simp at hr
        subst hr
        exact hw

variable {H : Type} {enc : TypeId × Value → H} {W : World} {base : Nat} {held : Bool}

/-- The frame within. -/
theorem open_frameN {cs : List Value} {fuel : Nat} {x : DataW H × List MemPlace} (hl3 : cs.length = 3) (h : DataW.trod enc Try.prog W base (fun _ => true) held fuel 67 cs = some x) :
    ∃ (k s : Int) (xs : List Int) (A : Option Addr) (c : Nat), cs = [.int .i64 k, .int .i64 s, .slice A xs.length c] ∧ Ints W W.heap.size A xs.length xs ∧ xs.length ≤ c ∧ c ≤ maxLen ∧ (A = none → c = 0) := by
  obtain ⟨ys, n', _, _, _, hlen, hf⟩ := DataW.trod_struct Try.underlying67 h
  obtain ⟨c0, c1, c2, rfl⟩ : ∃ c0 c1 c2, cs = [c0, c1, c2] := by
    match cs, hl3 with
    | [c0, c1, c2], _ => exact ⟨_, _, _, rfl⟩
  have C0 : Try.prog.cellsOf 3 = 1 := by kernel_rfl
  have C1 : Try.prog.cellsOf 30 = 1 := by kernel_rfl
  have h0 := hf 0 _ rfl
  have h1 := hf 1 _ rfl
  have h2 := hf 2 _ rfl
  dsimp only [List.getElem_toArray, List.getElem_cons_zero, List.getElem_cons_succ] at h0 h1 h2
  rw [C0] at h0
  rw [C0] at h1
  rw [C1] at h2
  simp only [List.drop_zero, List.drop_succ_cons, List.take_succ_cons, List.take_zero] at h0 h1 h2
  obtain ⟨y0, y1, y2, rfl⟩ : ∃ y0 y1 y2, ys = [y0, y1, y2] := by
    match ys, hlen with
    | [y0, y1, y2], _ => exact ⟨_, _, _, rfl⟩
  simp only [List.getElem?_cons_zero, List.getElem?_cons_succ] at h0 h1 h2
  obtain ⟨K, e0, _, _⟩ := DataW.trod_int Try.underlying3 h0
  obtain ⟨S, e1, _, _⟩ := DataW.trod_int Try.underlying3 h1
  simp only [List.cons.injEq, and_true] at e0 e1
  subst e0 e1
  rcases open_ints Try.underlying30 Try.underlying3 (by kernel_rfl) h2 with ⟨hcs, _⟩ | ⟨x, l, c, zs, hcs, _, hl, hm, hz, _, hcell, hwz⟩
  · simp only [List.cons.injEq, and_true] at hcs
    subst hcs
    exact ⟨K, S, [], none, 0, rfl, Ints.nil_ _ _ _, Nat.le_refl _, Nat.zero_le _, fun _ => rfl⟩
  · simp only [List.cons.injEq, and_true] at hcs
    subst hcs
    have hz' : zs.length = c := by simpa using hz
    have hi := ints_of hl hz' hcell
    have hll : (zs.take l).length = l := hi.1
    refine ⟨K, S, zs.take l, some x, c, ?_, ?_, ?_, hm, fun e => by cases e⟩
    · simp only [hll]
    · simp only [hll]
      exact hi
    · simp only [hll]
      exact hl
/-- One of them. -/
theorem open_found {cs : List Value} {fuel : Nat} {x : DataW H × List MemPlace} (hl5 : cs.length = 5) (h : DataW.trod enc Try.prog W base (fun _ => true) held fuel 69 cs = some x) :
    ∃ q : Fq, cs = q.cells ∧ Ints W W.heap.size q.addr q.vals.length q.vals ∧ q.vals.length ≤ q.cap ∧ q.cap ≤ maxLen ∧ (q.addr = none → q.cap = 0) := by
  obtain ⟨ys, n', _, _, _, hlen, hf⟩ := DataW.trod_struct Try.underlying69 h
  obtain ⟨c0, c1, c2, c3, c4, rfl⟩ : ∃ c0 c1 c2 c3 c4, cs = [c0, c1, c2, c3, c4] := by
    match cs, hl5 with
    | [c0, c1, c2, c3, c4], _ => exact ⟨_, _, _, _, _, rfl⟩
  have C0 : Try.prog.cellsOf 3 = 1 := by kernel_rfl
  have C1 : Try.prog.cellsOf 67 = 3 := by kernel_rfl
  have h0 := hf 0 _ rfl
  have h1 := hf 1 _ rfl
  have h2 := hf 2 _ rfl
  dsimp only [List.getElem_toArray, List.getElem_cons_zero, List.getElem_cons_succ] at h0 h1 h2
  rw [C0] at h0
  rw [C0] at h1
  rw [C1] at h2
  simp only [List.drop_zero, List.drop_succ_cons, List.take_succ_cons, List.take_zero] at h0 h1 h2
  obtain ⟨y0, y1, y2, rfl⟩ : ∃ y0 y1 y2, ys = [y0, y1, y2] := by
    match ys, hlen with
    | [y0, y1, y2], _ => exact ⟨_, _, _, rfl⟩
  simp only [List.getElem?_cons_zero, List.getElem?_cons_succ] at h0 h1 h2
  obtain ⟨Z, e0, _, _⟩ := DataW.trod_int Try.underlying3 h0
  obtain ⟨T, e1, _, _⟩ := DataW.trod_int Try.underlying3 h1
  simp only [List.cons.injEq, and_true] at e0 e1
  subst e0 e1
  obtain ⟨k, s, xs, A, c, e, hw⟩ := open_frameN rfl h2
  simp only [List.cons.injEq, and_true] at e
  obtain ⟨rfl, rfl, rfl⟩ := e
  exact ⟨⟨Z, T, k, s, xs, A, c⟩, rfl, hw⟩

/-- The argument. -/
theorem open_founds {fuel : Nat} {cs : List Value} {x : DataW H × List MemPlace} (h : DataW.trod enc Try.prog W base (fun _ => true) held fuel 39 cs = some x) :
    ∃ (A : Option Addr) (n c : Nat) (qs : List Fq), cs = [.slice A n c] ∧ Fnds W W.heap.size A n qs ∧ n ≤ c ∧ c ≤ maxLen := by
  have hC : Try.prog.cellsOf 69 = 5 := by kernel_rfl
  rcases open_slice Try.underlying39 h with ⟨e0, _⟩ | ⟨a, len, cap, m, fu, D, Pl, e0, _, hl, hm, hmm, _, hi⟩
  · exact ⟨none, 0, 0, [], e0, Fnds.nil_ _ _ _, Nat.le_refl _, Nat.zero_le _⟩
  · have hlm : len ≤ m := by rw [hmm]; split <;> omega
    obtain ⟨qs, hx⟩ := founds_all (W := W) (a := a) (N := len) fun k hk => by
      obtain ⟨cs', hc, ht'⟩ := hi k (by omega)
      rw [hC] at hc
      obtain ⟨_, hcl, hat⟩ := World.cells?_some hc
      obtain ⟨q, rfl, hw⟩ := open_found (by omega) ht'
      refine ⟨q, fun j u hj => ?_, hw⟩
      have hj3 : j < 5 := by
        have := (List.getElem?_eq_some_iff.1 hj).1
        simpa [Fq.cells] using this
      have h2 := hat j (by simpa [Fq.cells] using hj3)
      rw [Go.Deep.add_add] at h2
      rw [h2, hj]
    exact ⟨some a, len, cap, qs, e0, hx, hl, hm⟩
end Go.Proofs.Ytcocboigjfjnfab
