/-
  What a row's reading of arguments '[][]int', 'laws.Model' and 'laws.Event' gives to my walks.
-/
import Derived.Test.YtiopbgenkalfaaaRecs
import Derived.Test.YtiopbgenkalfaaaFrame0
import Derived.Test.YtiopbgenkalfaaaNt
import Derived.Test.YtiopbgenkalfaaaMods
import Derived.ProofKit
import Derived.OpenShut
import Derived.Lib.SmallJoins
namespace Go.Proofs.Ytiopbgenkalfaaa
open Go.ChangeShapes Go.WideShapes Go.Deep Go.ChangeAt Go.RowKit
set_option linter.unusedVariables false
set_option maxRecDepth 100000

/-- Lists, one by one, are a list of lists. -/
theorem nts_all {W : World} {a : Addr} {N : Nat} (h : ∀ k, k < N → ∃ q : Nq, W.cell? (a.add k) = some q.sl ∧ Ints W W.heap.size q.addr q.ps.length q.ps ∧ q.ps.length ≤ q.cap ∧ q.cap ≤ maxLen ∧ (q.addr = none → q.cap = 0)) :
    ∃ qs, NyI W W.heap.size (some a) N qs := by
  induction N with
  | zero => exact ⟨[], NyI.nil_ _ _ _⟩
  | succ N ih =>
    obtain ⟨qs, hx⟩ := ih fun k hk => h k (by omega)
    obtain ⟨q, hc, hw⟩ := h N (by omega)
    have hl := hx.1
    refine ⟨qs ++ [q], by rw [List.length_append, hl]; rfl, fun _ => ⟨a, rfl, ?_, fun j u hj => ?_⟩, fun r hr => ?_⟩
    · have := World.block_lt_of_cell? W _ hc
      rwa [block_of_add] at this
    · rw [slN_append] at hj
      have hfl : (slN qs).length = N := by rw [slN_length, hl]
      by_cases hjN : j < N
      · rw [List.getElem?_append_left (by omega)] at hj
        obtain ⟨ad, e, _, hcc⟩ := hx.2.1 (by omega)
        cases e
        exact hcc j u hj
      · rw [List.getElem?_append_right (by omega), hfl] at hj
        have hjl : j - N < (slN [q]).length := (List.getElem?_eq_some_iff.1 hj).1
        have hj1 : j - N < 1 := hjl
        obtain rfl : j = N := by omega
        rw [Nat.sub_self] at hj
        injection hj with hj
        rw [hc, hj]
    · rcases List.mem_append.1 hr with hr | hr
      · exact hx.2.2 r hr
      · simp at hr
        subst hr
        exact hw

variable {H : Type} {enc : TypeId × Value → H} {W : World} {base : Nat}

/-- Integers. -/
theorem ints_read {cs : List Value} {fuel : Nat} {x : DataW H × List MemPlace} (h : DataW.trod enc Try.prog W base (fun _ => true) true fuel 23 cs = some x) :
    ∃ (A : Option Addr) (n c : Nat) (xs : List Int), cs = [.slice A n c] ∧ Ints W W.heap.size A n xs ∧ n ≤ c ∧ c ≤ maxLen ∧ (A = none → c = 0) := by
  rcases open_ints Try.underlying23 Try.underlying3 (by kernel_rfl) h with ⟨hcs, _⟩ | ⟨x, l, c, zs, hcs, _, hl, hm, hz, _, hcell, hwz⟩
  · exact ⟨none, 0, 0, [], hcs, Ints.nil_ _ _ _, Nat.le_refl _, Nat.zero_le _, fun _ => rfl⟩
  · have hz' : zs.length = c := by simpa using hz
    exact ⟨some x, l, c, zs.take l, hcs, ints_of hl hz' hcell, hl, hm, fun e => by cases e⟩
/-- One list. -/
theorem open_nt {cs : List Value} {fuel : Nat} {x : DataW H × List MemPlace} (h : DataW.trod enc Try.prog W base (fun _ => true) true fuel 23 cs = some x) :
    ∃ q : Nq, cs = [q.sl] ∧ Ints W W.heap.size q.addr q.ps.length q.ps ∧ q.ps.length ≤ q.cap ∧ q.cap ≤ maxLen ∧ (q.addr = none → q.cap = 0) := by
  obtain ⟨A, n, c, xs, hcs, hx, hnc, hc, hnl⟩ := ints_read h
  have hl := hx.1
  subst hl
  exact ⟨⟨xs, A, c⟩, hcs, hx, hnc, hc, hnl⟩

/-- The argument. -/
theorem open_nts {fuel : Nat} {cs : List Value} {x : DataW H × List MemPlace} (h : DataW.trod enc Try.prog W base (fun _ => true) true fuel 25 cs = some x) :
    ∃ (A : Option Addr) (n c : Nat) (qs : List Nq), cs = [.slice A n c] ∧ NyI W W.heap.size A n qs ∧ n ≤ c ∧ c ≤ maxLen := by
  have hC : Try.prog.cellsOf 23 = 1 := by kernel_rfl
  rcases open_slice Try.underlying25 h with ⟨e0, _⟩ | ⟨a, len, cap, m, fu, D, Pl, e0, _, hl, hm, hmm, _, hi⟩
  · exact ⟨none, 0, 0, [], e0, NyI.nil_ _ _ _, Nat.le_refl _, Nat.zero_le _⟩
  · have hlm : len ≤ m := by rw [hmm]; split <;> omega
    obtain ⟨qs, hx⟩ := nts_all (W := W) (a := a) (N := len) fun k hk => by
      obtain ⟨cs', hc, ht'⟩ := hi k (by omega)
      rw [hC] at hc
      obtain ⟨_, hcl, hat⟩ := World.cells?_some hc
      obtain ⟨q, rfl, hw⟩ := open_nt ht'
      refine ⟨q, ?_, hw⟩
      have h2 := hat 0 (by simp)
      rw [Go.Deep.add_add] at h2
      simpa using h2
    exact ⟨some a, len, cap, qs, e0, hx, hl, hm⟩

/-- A model. -/
theorem open_model {b0 : Nat} {v : Value} {d : DataW H} {p : List MemPlace} (hv : Value.okWide Try.prog W .any b0 47 v) (h : DataW.Trod enc Try.prog W base (fun _ => true) true 47 v d p) :
    ∃ q : Mq, v = .agg #[.slice q.A q.n q.c, .slice q.P q.m q.d] ∧ MdI W W.heap.size q := by
  obtain ⟨u0, u1, y0, y1, nf, e, _, _, g0, g1⟩ := Go.Joins.open_agg2 Try.underlying47 (by kernel_rfl) (by kernel_rfl) hv h
  obtain ⟨A, n, c, xs, hcs, hx, hnc, hc, hnl⟩ := ints_read g0
  obtain ⟨P, m, d, qs, hcs2, hx2, hmd, hd⟩ := open_nts g1
  simp only [List.cons.injEq, and_true] at hcs hcs2
  subst hcs hcs2
  exact ⟨⟨A, n, c, P, m, d, xs, qs⟩, e, hx, hx2, ⟨hnc, hc, hnl⟩, hmd, hd⟩
/-- An event. -/
theorem open_event {b0 : Nat} {v : Value} {d : DataW H} {p : List MemPlace} (hv : Value.okWide Try.prog W .any b0 50 v) (h : DataW.Trod enc Try.prog W base (fun _ => true) true 50 v d p) :
    ∃ (K : Int) (PA LA : Option Addr) (pn pc ln lc : Nat) (ps ls : List Int), v = .agg #[.int .i64 K, .slice PA pn pc, .slice LA ln lc] ∧ (-9223372036854775808 ≤ K ∧ K ≤ 9223372036854775807) ∧
      Ints W W.heap.size PA (pn * 2) ps ∧ (pn ≤ pc ∧ pc ≤ maxLen) ∧ Ints W W.heap.size LA ln ls ∧ ln ≤ lc ∧ lc ≤ maxLen := by
  obtain ⟨u0, u1, u2, y0, y1, y2, nf, e, _, _, g0, g1, g2⟩ := Go.Joins.open_agg3 Try.underlying50 (by kernel_rfl) (by kernel_rfl) hv h
  obtain ⟨K, e0, _, f0⟩ := DataW.trod_int Try.underlying3 g0
  obtain ⟨PA, pn, pc, ps, e1, hx, hpn, hpc⟩ := open_recs (s := 2) Try.underlying48 Try.underlying98 (by kernel_rfl) (by kernel_rfl) rfl (by omega) (fun j f hj => by
      rcases j with _ | _ | _
      · cases hj; exact Try.underlying3
      · cases hj; exact Try.underlying3
      · simp at hj) g1
  obtain ⟨LA, ln, lc, ls, e2, hy, hln, hlc, _⟩ := ints_read g2
  simp only [List.cons.injEq, and_true] at e0 e1 e2
  subst e0 e1 e2
  exact ⟨K, PA, LA, pn, pc, ln, lc, ps, ls, e, ⟨wf_lo f0, wf_hi f0⟩, hx, ⟨hpn, hpc⟩, hy, hln, hlc⟩
end Go.Proofs.Ytiopbgenkalfaaa
