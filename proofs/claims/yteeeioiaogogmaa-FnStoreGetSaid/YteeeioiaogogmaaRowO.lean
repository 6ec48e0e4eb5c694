/-
  A row of objects of the call's own whose values may be shared among them: 'RowO'; a store into one of its cells, an append of objects that are in it. Plain.
-/
import Derived.Test.YteeeioiaogogmaaSpecO2
namespace Go.Proofs.Yteeeioiaogogmaa
open Go.RowKit
set_option linter.unusedVariables false
set_option maxRecDepth 100000

structure RowO (w : World) (base vb : Nat) (A : Option Addr) (n c : Nat) (qs : List Oq) : Prop where
  len : qs.length = n
  row : w.ownsRow base 35 2 (.slice A n c) n (flatO qs)
  vals : ∀ q ∈ qs, Own w vb q.addr q.vals.length q.cap q.vals
theorem OwnO.rowO {w : World} {base n c : Nat} {A : Option Addr} {qs : List Oq} (h : OwnO w base A n c qs) : RowO w base base A n c qs :=
  ⟨h.len, h.row, fun q hq => by obtain ⟨k, hk⟩ := List.getElem?_of_mem hq; exact h.own k q hk⟩
section
variable {w w' : World} {base vb n c : Nat} {A : Option Addr} {qs : List Oq}
theorem RowO.cap (h : RowO w base vb A n c qs) : n ≤ c ∧ c ≤ maxLen := by
  rcases h.row.2 with ⟨hv, h0⟩ | ⟨g, cap, cur, hv, hb, hh, hc, hm, hs, ht⟩
  · injection hv with _ h1 h2; subst h1; subst h2; exact ⟨Nat.le_refl _, Nat.zero_le _⟩
  · injection hv with _ _ h2; subst h2; exact ⟨hc, hm⟩
theorem RowO.shape (h : RowO w base vb A n c qs) (hn : 0 < n) : ∃ g, A = some ⟨g, 0, none⟩ ∧ base ≤ g ∧ g < w.heap.size := by
  rcases h.row.2 with ⟨hv, h0⟩ | ⟨g, cap, cur, hv, hb, hh, hc, hm, hs, ht⟩
  · omega
  · injection hv with h1; exact ⟨g, h1, hb, (Array.getElem?_eq_some_iff.1 hh).1⟩
theorem RowO.nilcap (h : RowO w base vb A n c qs) (hA : A = none) : c = 0 := by
  rcases h.row.2 with ⟨hv, h0⟩ | ⟨g, cap, cur, hv, hb, hh, hc, hm, hs, ht⟩
  · injection hv
  · injection hv with h1; rw [hA] at h1; cases h1
theorem RowO.block (h : RowO w base vb A n c qs) : ∀ k, (Value.slice A n c).ownBlock = some k → base ≤ k ∧ k < w.heap.size := h.row.lt
theorem RowO.objs (h : RowO w base vb A n c qs) : Objs w w.heap.size A n qs := by
  refine ⟨h.len, fun hn => ?_, fun q hq => ⟨(h.vals q hq).ints, (h.vals q hq).cap.1, (h.vals q hq).cap.2, (h.vals q hq).nilcap⟩⟩
  obtain ⟨g, rfl, hb, hl⟩ := h.shape hn
  exact ⟨_, rfl, hl, fun j u hu => h.row.cells rfl j u hu⟩
theorem RowO.kept {row : Option Nat} (h : RowO w base vb A n c qs) (hg : w.grownBy w' row) (hne : ∀ g, row = some g → (Value.slice A n c).ownBlock ≠ some g ∧ ∀ q ∈ qs, q.sl.ownBlock ≠ some g) : RowO w' base vb A n c qs :=
  ⟨h.len, h.row.kept hg (by
    rcases hv : (Value.slice A n c).ownBlock with _ | g
    · exact .inl rfl
    · right; intro e; exact (hne g e.symm).1 hv), fun q hq => (h.vals q hq).kept hg (fun g hr => (hne g hr).2 q hq)⟩
/-- .. while a block below is written -/
theorem RowO.old {R : Nat} (h : RowO w base vb A n c qs) (hg : w.grownBy w' (some R)) (hR : R < base) (hR2 : R < vb) : RowO w' base vb A n c qs :=
  h.kept hg (by
    intro g hg'
    injection hg' with hg'
    subst hg'
    exact ⟨fun e => by have := (h.block _ e).1; omega, fun q hq e => by have := ((h.vals q hq).block _ e).1; omega⟩)
theorem RowO.below (h : RowO w base vb A n c qs) (hg : Below w.heap.size w w') : RowO w' base vb A n c qs := h.kept (grown_of_below hg none) (by simp)
theorem RowO.alloc (h : RowO w base vb A n c qs) (o : Obj) : RowO (w.alloc o) base vb A n c qs := ⟨h.len, h.row.alloc o, fun q hq => (h.vals q hq).alloc o⟩
theorem RowO.at_ {g : Nat} (h : RowO w base vb (some ⟨g, 0, none⟩) n c qs) {k : Nat} {q : Oq} (hk : qs[k]? = some q) : w.cell? ⟨g, k * 2, none⟩ = some (.int .i64 q.id) ∧ w.cell? ⟨g, k * 2 + 1, none⟩ = some q.sl := by
  have h0 := h.row.cells rfl (k * 2 + 0) _ (by rw [flatO_get hk 0 (by omega)]; rfl)
  have h1 := h.row.cells rfl (k * 2 + 1) _ (by rw [flatO_get hk 1 (by omega)]; rfl)
  rw [add_plain'] at h0 h1
  exact ⟨h0, h1⟩
theorem RowO.free {g j : Nat} (h : RowO w base vb (some ⟨g, 0, none⟩) n c qs) : w.frozen? ⟨g, j, none⟩ = false := h.row.frozenAt j
/-- a store into one cell of object k -/
theorem RowO.put {g k : Nat} {q : Oq} (h : RowO w base vb (some ⟨g, 0, none⟩) n c qs) (hk : qs[k]? = some q) (q' : Oq) (j : Nat) (v : Value) (hj : j < 2) (hv : q'.cells = q.cells.set j v) (hq' : Own w vb q'.addr q'.vals.length q'.cap q'.vals) :
    RowO (w.setCell ⟨g, k * 2 + j, none⟩ v) base vb (some ⟨g, 0, none⟩) n c (qs.set k q') ∧ w.grownBy (w.setCell ⟨g, k * 2 + j, none⟩ v) (some g) := by
  have hst := h.row.stored (k * 2 + j) v
  rw [flatO_set hk j v hj hv] at hst
  refine ⟨⟨by rw [List.length_set]; exact h.len, hst.1, fun r hr => ?_⟩, hst.2⟩
  have hr' : Own w vb r.addr r.vals.length r.cap r.vals := by
    rcases List.mem_or_eq_of_mem_set hr with hr | rfl
    · exact h.vals r hr
    · exact hq'
  exact hr'.kept hst.2 (fun b hb => by injection hb with hb; subst hb; exact rows_neO h.row hr'.2 (by decide) rfl)
end

/-- 'append(out, qs2...)': the values of the further ones stay where they are -/
theorem run_append_row (w : World) (base vb n c m d : Nat) (A X : Option Addr) (qs q2 : List Oq) (ty : TypeId) (hown : RowO w base vb A n c qs)
    (hl : q2.length = m) (hr : 0 < m → ∃ ad, X = some ad ∧ ∀ j u, (flatO q2)[j]? = some u → w.cell? (ad.add j) = some u) (hq : ∀ q ∈ q2, Own w vb q.addr q.vals.length q.cap q.vals)
    (hn : n + m ≤ 100000000000) (hbase : base ≤ w.heap.size) :
    ∃ A2 c2 w', (Builtin.append_ #[23, 23] ty #[.slice A n c, .slice X m d]).run Try.prog w = .ok (.slice A2 (n + m) c2) w' ∧ RowO w' base vb A2 (n + m) c2 (qs ++ q2) ∧
      w.grownBy w' (Value.slice A n c).ownBlock := by
  rcases X with _ | ad
  · have hm : m = 0 := by
      rcases Nat.eq_zero_or_pos m with h | h
      · exact h
      · obtain ⟨ad, h', _⟩ := hr h
        cases h'
    subst hm
    obtain rfl : q2 = [] := List.eq_nil_of_length_eq_zero hl
    obtain ⟨i0, hi, hz0, hz1, hz2⟩ := info_parts objT.info
    exact ⟨A, c, w, run_append_of_nil w base 23 ty 35 i0 2 objT.und hi _ n _ hown.row d, by simpa using hown, World.grownBy.refl w _⟩
  · have hc : ∀ j u, (flatO q2)[j]? = some u → w.cell? (ad.add j) = some u := by
      intro j u hu
      rcases Nat.eq_zero_or_pos m with h | h
      · obtain rfl : q2 = [] := List.eq_nil_of_length_eq_zero (by rw [hl, h])
        simp [flatO] at hu
      · obtain ⟨ad', e, hc⟩ := hr h
        injection e with e
        subst e
        exact hc j u hu
    obtain ⟨A2, c2, w', hrun, h2, h3, _⟩ := run_append_vals' objT w base n c m d A ad (flatO qs) (flatO q2) ty hown.row (by rw [flatO_length, hl]) (flatO_one _) hc (by omega) hbase
    rw [← flatO_append] at h2
    refine ⟨A2, c2, w', hrun, ⟨by simp [hown.len, hl], h2, fun r hr' => ?_⟩, h3⟩
    have ho : Own w vb r.addr r.vals.length r.cap r.vals := by
      rcases List.mem_append.1 hr' with h | h
      · exact hown.vals r h
      · exact hq r h
    exact ho.kept h3 (fun g hg => rows_neO hown.row ho.2 (by decide) hg)

theorem wpList_append_row {w : World} {ops : Array Oper} {rest : List Oper} {o : Oper} {a : Act} {Q : Exit → Act → World → Prop} (hgd : o.guard = none) (s x : Operand)
    (ho : o.op = .call { callee := .builtin .append, args := #[s, x], argTypes := #[23, 23] })
    (base vb n c m d : Nat) (A X : Option Addr) (qs q2 : List Oq) (hs : a.eval s = .slice A n c) (hx : a.eval x = .slice X m d) (hown : RowO w base vb A n c qs)
    (hl : q2.length = m) (hr : 0 < m → ∃ ad, X = some ad ∧ ∀ j u, (flatO q2)[j]? = some u → w.cell? (ad.add j) = some u) (hq : ∀ q ∈ q2, Own w vb q.addr q.vals.length q.cap q.vals)
    (hn : n + m ≤ 100000000000) (hbase : base ≤ w.heap.size)
    (h : ∀ A2 c2 w', RowO w' base vb A2 (n + m) c2 (qs ++ q2) → w.grownBy w' (Value.slice A n c).ownBlock → wpList Try.prog ops Q rest (a.put o.dst (.slice A2 (n + m) c2)) w') :
    wpList Try.prog ops Q (o :: rest) a w := by
  refine wpList_plain hgd fun K hK => ?_
  obtain ⟨A2, c2, w', hrun, h2, h3⟩ := run_append_row w base vb n c m d A X qs q2 o.type hown hl hr hq hn hbase
  unfold Oper.wp execOp
  simp only [ho, resolve, invoke, builtin, Sem.run_bind, Sem.run_pure, Result.andThen_ok, List.map_toArray, List.map_cons, List.map_nil, hs, hx, hrun]
  exact hK _ _ (h A2 c2 w' h2 h3)
end Go.Proofs.Yteeeioiaogogmaa
