/-
  What a row's reading of an argument '[]laws.Zone' gives to my walks.
-/
import Derived.Test.YtfianpjoifcphaaFrame0
import Derived.Test.YtfianpjoifcphaaZone
import Derived.Deep.Slices
import Derived.Deep.Fields
import Derived.ChangeSame
namespace Go.Proofs.Ytfianpjoifcphaa
open Go.ChangeShapes Go.WideShapes Go.Deep Go.RowKit
set_option linter.unusedVariables false
set_option maxRecDepth 100000

/-- Zones, one by one, are a device. -/
theorem zones_all {W : World} {a : Addr} {N : Nat} (h : ∀ k, k < N → ∃ q : Zq, (∀ j u, q.vals[j]? = some u → W.cell? (a.add (k * 3 + j)) = some u) ∧ Ints W W.heap.size q.addr q.words.length q.words ∧ q.words.length ≤ q.cap ∧ q.cap ≤ maxLen) :
    ∃ qs, Zns W W.heap.size (some a) N qs := by
  induction N with
  | zero => exact ⟨[], Zns.nil_ _ _ _⟩
  | succ N ih =>
    obtain ⟨qs, hx⟩ := ih fun k hk => h k (by omega)
    obtain ⟨q, hc, hw⟩ := h N (by omega)
    have hl := hx.1
    refine ⟨qs ++ [q], by rw [List.length_append, hl]; rfl, fun _ => ⟨a, rfl, ?_, fun j u hj => ?_⟩, fun r hr => ?_⟩
    · have := World.block_lt_of_cell? W _ (hc 0 _ rfl)
      rwa [block_of_add] at this
    · rw [flat_append] at hj
      have hfl : (flat qs).length = N * 3 := by rw [flat_length, hl]
      by_cases hjN : j < N * 3
      · rw [List.getElem?_append_left (by omega)] at hj
        by_cases h0 : 0 < N
        · obtain ⟨ad, e, _, hcc⟩ := hx.2.1 h0
          cases e
          exact hcc j u hj
        · omega
      · rw [List.getElem?_append_right (by omega), hfl] at hj
        have := hc (j - N * 3) u (by simpa [flat, Zq.vals] using hj)
        rwa [show N * 3 + (j - N * 3) = j by omega] at this
    · rcases List.mem_append.1 hr with hr | hr
      · exact hx.2.2 r hr
      · simp at hr
        subst hr
        exact hw

variable {H : Type} {enc : TypeId × Value → H} {W : World} {base : Nat} {held : Bool}

/-- One zone. -/
theorem open_zone {cs : List Value} {fuel : Nat} {x : DataW H × List MemPlace} (hl3 : cs.length = 3) (h : DataW.trod enc Try.prog W base (fun _ => true) held fuel 40 cs = some x) :
    ∃ q : Zq, cs = q.vals ∧ Ints W W.heap.size q.addr q.words.length q.words ∧ q.words.length ≤ q.cap ∧ q.cap ≤ maxLen := by
  obtain ⟨ys, n', _, _, _, hlen, hf⟩ := DataW.trod_struct Try.underlying40 h
  obtain ⟨c0, c1, c2, rfl⟩ : ∃ c0 c1 c2, cs = [c0, c1, c2] := by
    match cs, hl3 with
    | [c0, c1, c2], _ => exact ⟨_, _, _, rfl⟩
  have C0 : Try.prog.cellsOf 27 = 1 := by kernel_rfl
  have C1 : Try.prog.cellsOf 3 = 1 := by kernel_rfl
  have C2 : Try.prog.cellsOf 4 = 1 := by kernel_rfl
  have h0 := hf 0 _ rfl
  have h1 := hf 1 _ rfl
  have h2 := hf 2 _ rfl
  dsimp only [List.getElem_toArray, List.getElem_cons_zero, List.getElem_cons_succ] at h0 h1 h2
  rw [C0] at h0
  rw [C1] at h1
  rw [C2] at h2
  simp only [List.drop_zero, List.drop_succ_cons, List.take_succ_cons, List.take_zero] at h0 h1 h2
  obtain ⟨y0, y1, y2, rfl⟩ : ∃ y0 y1 y2, ys = [y0, y1, y2] := by
    match ys, hlen with
    | [y0, y1, y2], _ => exact ⟨_, _, _, rfl⟩
  simp only [List.getElem?_cons_zero, List.getElem?_cons_succ] at h0 h1 h2
  obtain ⟨S, e1, _, _⟩ := DataW.trod_int Try.underlying3 h1
  obtain ⟨b, e2, _⟩ := DataW.trod_bool Try.underlying4 h2
  simp only [List.cons.injEq, and_true] at e1 e2
  subst e1 e2
  rcases open_ints Try.underlying27 Try.underlying3 (by kernel_rfl) h0 with ⟨hcs, _⟩ | ⟨x, l, c, zs, hcs, _, hl, hm, hz, _, hcell, hwz⟩
  · simp only [List.cons.injEq, and_true] at hcs
    subst hcs
    exact ⟨⟨[], S, b, none, 0⟩, rfl, Ints.nil_ _ _ _, Nat.le_refl _, Nat.zero_le _⟩
  · simp only [List.cons.injEq, and_true] at hcs
    subst hcs
    have hz' : zs.length = c := by simpa using hz
    have hi := ints_of hl hz' hcell
    have hll : (zs.take l).length = l := hi.1
    refine ⟨⟨zs.take l, S, b, some x, c⟩, ?_, ?_, ?_, hm⟩
    · simp only [Zq.vals, Zq.sl, hll]
    · simp only [hll]
      exact hi
    · simp only [hll]
      exact hl

/-- The argument. -/
theorem open_zones {fuel : Nat} {cs : List Value} {x : DataW H × List MemPlace} (h : DataW.trod enc Try.prog W base (fun _ => true) held fuel 22 cs = some x) :
    ∃ (A : Option Addr) (n c : Nat) (qs : List Zq), cs = [.slice A n c] ∧ Zns W W.heap.size A n qs ∧ n ≤ c ∧ c ≤ maxLen := by
  have hC : Try.prog.cellsOf 40 = 3 := by kernel_rfl
  rcases open_slice Try.underlying22 h with ⟨e0, _⟩ | ⟨a, len, cap, m, fu, D, Pl, e0, _, hl, hm, hmm, _, hi⟩
  · exact ⟨none, 0, 0, [], e0, Zns.nil_ _ _ _, Nat.le_refl _, Nat.zero_le _⟩
  · have hlm : len ≤ m := by rw [hmm]; split <;> omega
    obtain ⟨qs, hx⟩ := zones_all (W := W) (a := a) (N := len) fun k hk => by
      obtain ⟨cs', hc, ht'⟩ := hi k (by omega)
      rw [hC] at hc
      obtain ⟨_, hcl, hat⟩ := World.cells?_some hc
      obtain ⟨q, rfl, hw⟩ := open_zone (by omega) ht'
      refine ⟨q, fun j u hj => ?_, hw⟩
      have hj3 : j < 3 := by
        have := (List.getElem?_eq_some_iff.1 hj).1
        simpa [Zq.vals] using this
      have h2 := hat j (by simpa [Zq.vals] using hj3)
      rw [Go.Deep.add_add] at h2
      rw [h2, hj]
    exact ⟨some a, len, cap, qs, e0, hx, hl, hm⟩
end Go.Proofs.Ytfianpjoifcphaa
