/-
  A row of zones of the call's own whose words lie below: 'RowZ'; a part of a slice of zones; an append of zones that are read; a store into one cell. Plain.
-/
import Derived.Test.YtfgcmlapmeemaaaSpecZ4
namespace Go.Proofs.Ytfgcmlapmeemaaa
open Go.RowKit
set_option linter.unusedVariables false
set_option maxRecDepth 100000

theorem flat_drop (qs : List Zq) (k j : Nat) : (flat (qs.drop k))[j]? = (flat qs)[k * 3 + j]? := by
  induction k generalizing qs with
  | zero => simp
  | succ k ih =>
    rcases qs with _ | ⟨q, qs⟩
    · simp [flat]
    · rw [List.drop_succ_cons, ih, show (k + 1) * 3 + j = (k * 3 + j) + 1 + 1 + 1 by omega]
      simp [flat]
/-- 's[k:]', 's[k:m]' -/
theorem Zns.cut {w : World} {B n : Nat} {A : Option Addr} {qs : List Zq} (h : Zns w B A n qs) {k m cap : Nat} (hk : k ≤ m) (hm : m ≤ n) (hc : n ≤ cap) :
    Zns w B (if cap = k then A else A.map (·.add (k * 3))) (m - k) ((qs.take m).drop k) := by
  refine ⟨by rw [List.length_drop, List.length_take, h.1]; omega, fun hn => ?_, fun q hq => h.2.2 q (List.mem_of_mem_take (List.mem_of_mem_drop hq))⟩
  have h' := h.firsts hm
  obtain ⟨ad, rfl, hb, hcell⟩ := h'.2.1 (by omega)
  rw [if_neg (by omega)]
  refine ⟨ad.add (k * 3), rfl, by rw [block_of_add]; exact hb, fun j u hu => ?_⟩
  rw [add_of_add]
  rw [flat_drop] at hu
  exact hcell _ _ hu
theorem Zns.src {w : World} {B n : Nat} {A : Option Addr} {qs : List Zq} (h : Zns w B A n qs) : 0 < n → ∃ ad, A = some ad ∧ ∀ j u, (flat qs)[j]? = some u → w.cell? (ad.add j) = some u := fun hn => by
  obtain ⟨ad, e, _, hc⟩ := h.2.1 hn
  exact ⟨ad, e, hc⟩

structure RowZ (w : World) (base vb : Nat) (A : Option Addr) (n c : Nat) (qs : List Zq) : Prop where
  len : qs.length = n
  row : w.ownsRow base 32 3 (.slice A n c) n (flat qs)
  words : ∀ q ∈ qs, Ints w vb q.addr q.words.length q.words ∧ q.words.length ≤ q.cap ∧ q.cap ≤ maxLen
  le : vb ≤ base
section
variable {w w' : World} {base vb n c : Nat} {A : Option Addr} {qs : List Zq}
theorem RowZ.shape (h : RowZ w base vb A n c qs) (hn : 0 < n) : ∃ g, A = some ⟨g, 0, none⟩ ∧ base ≤ g ∧ g < w.heap.size := by
  rcases h.row.2 with ⟨hv, h0⟩ | ⟨g, cap, cur, hv, hb, hh, hc, hm, hs, ht⟩
  · omega
  · injection hv with h1; exact ⟨g, h1, hb, (Array.getElem?_eq_some_iff.1 hh).1⟩
theorem RowZ.cap (h : RowZ w base vb A n c qs) : n ≤ c ∧ c ≤ maxLen := by
  rcases h.row.2 with ⟨hv, h0⟩ | ⟨g, cap, cur, hv, hb, hh, hc, hm, hs, ht⟩
  · injection hv with _ h1 h2; subst h1; subst h2; exact ⟨Nat.le_refl _, Nat.zero_le _⟩
  · injection hv with _ _ h2; subst h2; exact ⟨hc, hm⟩
theorem RowZ.zns (h : RowZ w base vb A n c qs) (hb : base ≤ w.heap.size) : Zns w w.heap.size A n qs := by
  refine ⟨h.len, fun hn => ?_, fun q hq => ⟨(h.words q hq).1.more (Nat.le_trans h.le hb), (h.words q hq).2⟩⟩
  obtain ⟨g, rfl, _, hl⟩ := h.shape hn
  exact ⟨_, rfl, hl, fun j u hu => h.row.cells rfl j u hu⟩
theorem RowZ.block (h : RowZ w base vb A n c qs) : ∀ k, (Value.slice A n c).ownBlock = some k → base ≤ k ∧ k < w.heap.size := h.row.lt
theorem RowZ.drew (h : RowZ w base vb A n c qs) : RowZ w.drew base vb A n c qs := ⟨h.len, h.row, fun q hq => h.words q hq, h.le⟩
theorem RowZ.lit0 (w : World) (hv : vb ≤ w.heap.size) : RowZ (w.alloc (.cells #[] 32)) w.heap.size vb (some ⟨w.heap.size, 0, none⟩) 0 0 [] :=
  ⟨rfl, (OwnZ.lit0 w _ (Nat.le_refl _)).row, by simp, hv⟩
theorem RowZ.free {g j : Nat} (h : RowZ w base vb (some ⟨g, 0, none⟩) n c qs) : w.frozen? ⟨g, j, none⟩ = false := h.row.frozenAt j
theorem RowZ.at_ {g : Nat} (h : RowZ w base vb (some ⟨g, 0, none⟩) n c qs) {k : Nat} {q : Zq} (hk : qs[k]? = some q) : w.cell? ⟨g, k * 3 + 1, none⟩ = some (.int .i64 q.synced) := by
  have h1 := h.row.cells rfl (k * 3 + 1) _ (by rw [flat_get hk 1 (by omega)]; rfl)
  rw [add_plain'] at h1
  exact h1
theorem RowZ.put {g k : Nat} {q : Zq} (h : RowZ w base vb (some ⟨g, 0, none⟩) n c qs) (hb : base ≤ w.heap.size) (hk : qs[k]? = some q) (sy : Int) :
    RowZ (w.setCell ⟨g, k * 3 + 1, none⟩ (.int .i64 sy)) base vb (some ⟨g, 0, none⟩) n c (qs.set k ⟨q.words, sy, q.full, q.addr, q.cap⟩) ∧ w.grownBy (w.setCell ⟨g, k * 3 + 1, none⟩ (.int .i64 sy)) (some g) := by
  have hst := h.row.stored (k * 3 + 1) (.int .i64 sy)
  rw [flat_set hk 1 (.int .i64 sy) (q' := ⟨q.words, sy, q.full, q.addr, q.cap⟩) (by omega) rfl] at hst
  have hg := (h.block g rfl).1
  have hle := h.le
  refine ⟨⟨by rw [List.length_set]; exact h.len, hst.1, fun r hr => ?_, h.le⟩, hst.2⟩
  have key : ∀ (q : Zq), q ∈ qs → Ints (w.setCell ⟨g, k * 3 + 1, none⟩ (.int .i64 sy)) vb q.addr q.words.length q.words ∧ q.words.length ≤ q.cap ∧ q.cap ≤ maxLen := fun q hq =>
    ⟨(h.words q hq).1.grown hst.2 (Nat.le_trans hle hb) (fun b e => by injection e with e; omega), (h.words q hq).2⟩
  rcases List.mem_or_eq_of_mem_set hr with hr | rfl
  · exact key r hr
  · exact key q (List.mem_of_getElem? hk)
end

theorem run_append_rowZ (w : World) (base vb n c m d : Nat) (A X : Option Addr) (qs q2 : List Zq) (ty : TypeId) (hown : RowZ w base vb A n c qs)
    (hl : q2.length = m) (hr : 0 < m → ∃ ad, X = some ad ∧ ∀ j u, (flat q2)[j]? = some u → w.cell? (ad.add j) = some u) (hq : ∀ q ∈ q2, Ints w vb q.addr q.words.length q.words ∧ q.words.length ≤ q.cap ∧ q.cap ≤ maxLen)
    (hn : n + m ≤ 100000000000) (hbase : base ≤ w.heap.size) :
    ∃ A2 c2 w', (Builtin.append_ #[23, 23] ty #[.slice A n c, .slice X m d]).run Try.prog w = .ok (.slice A2 (n + m) c2) w' ∧ RowZ w' base vb A2 (n + m) c2 (qs ++ q2) ∧
      w.grownBy w' (Value.slice A n c).ownBlock := by
  have hle := hown.le
  rcases X with _ | ad
  · have hm : m = 0 := by
      rcases Nat.eq_zero_or_pos m with h | h
      · exact h
      · obtain ⟨ad, h', _⟩ := hr h
        cases h'
    subst hm
    obtain rfl : q2 = [] := List.eq_nil_of_length_eq_zero hl
    obtain ⟨i0, hi, hz0, hz1, hz2⟩ := info_parts zoneT.info
    exact ⟨A, c, w, run_append_of_nil w base 23 ty 32 i0 3 zoneT.und hi _ n _ hown.row d, by simpa using hown, World.grownBy.refl w _⟩
  · have hc : ∀ j u, (flat q2)[j]? = some u → w.cell? (ad.add j) = some u := by
      intro j u hu
      rcases Nat.eq_zero_or_pos m with h | h
      · obtain rfl : q2 = [] := List.eq_nil_of_length_eq_zero (by rw [hl, h])
        simp [flat] at hu
      · obtain ⟨ad', e, hc⟩ := hr h
        injection e with e
        subst e
        exact hc j u hu
    obtain ⟨A2, c2, w', hrun, h2, h3, _⟩ := run_append_vals zoneT w base n c m d A ad (flat qs) (flat q2) ty hown.row (by rw [flat_length, hl]) (flat_one _) hc (by omega) hbase
    rw [← flat_append] at h2
    refine ⟨A2, c2, w', hrun, ⟨by simp [hown.len, hl], h2, fun r hr' => ?_, hle⟩, h3⟩
    have ho : Ints w vb r.addr r.words.length r.words ∧ r.words.length ≤ r.cap ∧ r.cap ≤ maxLen := by
      rcases List.mem_append.1 hr' with h | h
      · exact hown.words r h
      · exact hq r h
    exact ⟨ho.1.grown h3 (Nat.le_trans hle hbase) (fun b e => by have := (hown.block b e).1; omega), ho.2⟩

theorem step_append_rowZ {w : World} {ops : Array Oper} {o : Oper} {a : Act} {K : Act → World → Prop} {Q : Exit → Act → World → Prop} {E : Prop} (hgd : o.guard = none) (s x : Operand)
    (ho : o.op = .call { callee := .builtin .append, args := #[s, x], argTypes := #[23, 23] })
    (base vb n c m d : Nat) (A X : Option Addr) (qs q2 : List Zq) (hs : a.eval s = .slice A n c) (hx : a.eval x = .slice X m d) (hown : RowZ w base vb A n c qs)
    (hl : q2.length = m) (hr : 0 < m → ∃ ad, X = some ad ∧ ∀ j u, (flat q2)[j]? = some u → w.cell? (ad.add j) = some u) (hq : ∀ q ∈ q2, Ints w vb q.addr q.words.length q.words ∧ q.words.length ≤ q.cap ∧ q.cap ≤ maxLen)
    (hn : n + m ≤ 100000000000) (hbase : base ≤ w.heap.size)
    (h : ∀ A2 c2 w', RowZ w' base vb A2 (n + m) c2 (qs ++ q2) → w.grownBy w' (Value.slice A n c).ownBlock → K (a.put o.dst (.slice A2 (n + m) c2)) w') :
    if Region.wanted o (yielded ops a.tmps) = true then Oper.wp Try.prog o a w K Q else E := by
  have hw : Region.wanted o (yielded ops a.tmps) = true := by simp [Region.wanted, hgd]
  rw [if_pos hw]
  obtain ⟨A2, c2, w', hrun, h2, h3⟩ := run_append_rowZ w base vb n c m d A X qs q2 o.type hown hl hr hq hn hbase
  unfold Oper.wp execOp
  simp only [ho, resolve, invoke, builtin, Sem.run_bind, Sem.run_pure, Result.andThen_ok, List.map_toArray, List.map_cons, List.map_nil, hs, hx, hrun]
  exact h A2 c2 w' h2 h3
theorem wpList_append_rowZ {w : World} {ops : Array Oper} {rest : List Oper} {o : Oper} {a : Act} {Q : Exit → Act → World → Prop} (hgd : o.guard = none) (s x : Operand)
    (ho : o.op = .call { callee := .builtin .append, args := #[s, x], argTypes := #[23, 23] })
    (base vb n c m d : Nat) (A X : Option Addr) (qs q2 : List Zq) (hs : a.eval s = .slice A n c) (hx : a.eval x = .slice X m d) (hown : RowZ w base vb A n c qs)
    (hl : q2.length = m) (hr : 0 < m → ∃ ad, X = some ad ∧ ∀ j u, (flat q2)[j]? = some u → w.cell? (ad.add j) = some u) (hq : ∀ q ∈ q2, Ints w vb q.addr q.words.length q.words ∧ q.words.length ≤ q.cap ∧ q.cap ≤ maxLen)
    (hn : n + m ≤ 100000000000) (hbase : base ≤ w.heap.size)
    (h : ∀ A2 c2 w', RowZ w' base vb A2 (n + m) c2 (qs ++ q2) → w.grownBy w' (Value.slice A n c).ownBlock → wpList Try.prog ops Q rest (a.put o.dst (.slice A2 (n + m) c2)) w') :
    wpList Try.prog ops Q (o :: rest) a w := by
  refine wpList_plain hgd fun K hK => ?_
  obtain ⟨A2, c2, w', hrun, h2, h3⟩ := run_append_rowZ w base vb n c m d A X qs q2 o.type hown hl hr hq hn hbase
  unfold Oper.wp execOp
  simp only [ho, resolve, invoke, builtin, Sem.run_bind, Sem.run_pure, Result.andThen_ok, List.map_toArray, List.map_cons, List.map_nil, hs, hx, hrun]
  exact hK _ _ (h A2 c2 w' h2 h3)
end Go.Proofs.Ytfgcmlapmeemaaa
