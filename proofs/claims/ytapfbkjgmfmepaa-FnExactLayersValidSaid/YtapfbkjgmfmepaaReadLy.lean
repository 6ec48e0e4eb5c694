/-
  What a row's reading of an argument '[][]laws.Pair' gives to my walks.
-/
import Derived.Test.YtapfbkjgmfmepaaRecs
import Derived.Test.YtapfbkjgmfmepaaLy
namespace Go.Proofs.Ytapfbkjgmfmepaa
open Go.ChangeShapes Go.WideShapes Go.Deep Go.RowKit
set_option linter.unusedVariables false
set_option maxRecDepth 100000

/-- Layers, one by one, are a list of layers. -/
theorem lys_all {W : World} {a : Addr} {N : Nat} (h : ∀ k, k < N → ∃ q : Lq, W.cell? (a.add k) = some q.sl ∧ PrI W W.heap.size q.addr q.ps.length q.ps ∧ q.ps.length ≤ q.cap ∧ q.cap ≤ maxLen ∧ (q.addr = none → q.cap = 0)) :
    ∃ qs, LyI W W.heap.size (some a) N qs := by
  induction N with
  | zero => exact ⟨[], LyI.nil_ _ _ _⟩
  | succ N ih =>
    obtain ⟨qs, hx⟩ := ih fun k hk => h k (by omega)
    obtain ⟨q, hc, hw⟩ := h N (by omega)
    have hl := hx.1
    refine ⟨qs ++ [q], by rw [List.length_append, hl]; rfl, fun _ => ⟨a, rfl, ?_, fun j u hj => ?_⟩, fun r hr => ?_⟩
    · have := World.block_lt_of_cell? W _ hc
      rwa [block_of_add] at this
    · rw [slL_append] at hj
      have hfl : (slL qs).length = N := by rw [slL_length, hl]
      by_cases hjN : j < N
      · rw [List.getElem?_append_left (by omega)] at hj
        obtain ⟨ad, e, _, hcc⟩ := hx.2.1 (by omega)
        cases e
        exact hcc j u hj
      · rw [List.getElem?_append_right (by omega), hfl] at hj
        have hjl : j - N < (slL [q]).length := (List.getElem?_eq_some_iff.1 hj).1
        have hj1 : j - N < 1 := hjl
        obtain rfl : j = N := by omega
        rw [Nat.sub_self] at hj
        injection hj with hj
        rw [hc, hj]
    · rcases List.mem_append.1 hr with hr | hr
      · exact hx.2.2 r hr
      · simp at hr
        subst hr
        exact hw

variable {H : Type} {enc : TypeId × Value → H} {W : World} {base : Nat} {held : Bool}

/-- One layer. -/
theorem open_ly {cs : List Value} {fuel : Nat} {x : DataW H × List MemPlace} (h : DataW.trod enc Try.prog W base (fun _ => true) held fuel 51 cs = some x) :
    ∃ q : Lq, cs = [q.sl] ∧ PrI W W.heap.size q.addr q.ps.length q.ps ∧ q.ps.length ≤ q.cap ∧ q.cap ≤ maxLen ∧ (q.addr = none → q.cap = 0) := by
  obtain ⟨A, n, c, xs, hcs, hx, hnc, hc⟩ := open_recs (s := 2) Try.underlying51 Try.underlying76 (by kernel_rfl) (by kernel_rfl) rfl (by omega) (fun j f hj => by
      rcases j with _ | _ | _
      · cases hj; exact Try.underlying3
      · cases hj; exact Try.underlying3
      · simp at hj) h
  obtain ⟨h1, h2⟩ := fl_unfl n xs hx.1
  refine ⟨⟨unfl xs, A, c⟩, ?_, ⟨rfl, ?_⟩, ?_, hc, fun e => ?_⟩
  · simp only [Lq.sl, h2]; exact hcs
  · simp only [h1, h2]; exact hx
  · simp only [h2]; exact hnc
  · simp only at e
    subst e
    rcases open_slice Try.underlying51 h with ⟨e0, _⟩ | ⟨a, len, cap, m, fu, D, Pl, e0, _⟩
    · rw [hcs] at e0
      simp at e0
      exact e0.2
    · rw [hcs] at e0
      simp at e0

/-- The argument. -/
theorem open_lys {fuel : Nat} {cs : List Value} {x : DataW H × List MemPlace} (h : DataW.trod enc Try.prog W base (fun _ => true) held fuel 46 cs = some x) :
    ∃ (A : Option Addr) (n c : Nat) (qs : List Lq), cs = [.slice A n c] ∧ LyI W W.heap.size A n qs ∧ n ≤ c ∧ c ≤ maxLen := by
  have hC : Try.prog.cellsOf 51 = 1 := by kernel_rfl
  rcases open_slice Try.underlying46 h with ⟨e0, _⟩ | ⟨a, len, cap, m, fu, D, Pl, e0, _, hl, hm, hmm, _, hi⟩
  · exact ⟨none, 0, 0, [], e0, LyI.nil_ _ _ _, Nat.le_refl _, Nat.zero_le _⟩
  · have hlm : len ≤ m := by rw [hmm]; split <;> omega
    obtain ⟨qs, hx⟩ := lys_all (W := W) (a := a) (N := len) fun k hk => by
      obtain ⟨cs', hc, ht'⟩ := hi k (by omega)
      rw [hC] at hc
      obtain ⟨_, hcl, hat⟩ := World.cells?_some hc
      obtain ⟨q, rfl, hw⟩ := open_ly ht'
      refine ⟨q, ?_, hw⟩
      have h2 := hat 0 (by simp)
      rw [Go.Deep.add_add] at h2
      simpa using h2
    exact ⟨some a, len, cap, qs, e0, hx, hl, hm⟩
end Go.Proofs.Ytapfbkjgmfmepaa
