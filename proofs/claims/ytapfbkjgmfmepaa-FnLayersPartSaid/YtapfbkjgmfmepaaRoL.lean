/-
  Layers that are appended to a row, with the values that they have elsewhere: the row reads as the list. Plain.
-/
import Derived.Test.YtapfbkjgmfmepaaLy
namespace Go.Proofs.Ytapfbkjgmfmepaa
open Go.RowKit
set_option linter.unusedVariables false
set_option maxRecDepth 100000

/-- what is known of the values of layers -/
def BodL (w : World) (B : Nat) (qs : List Lq) : Prop := ∀ q ∈ qs, PrI w B q.addr q.ps.length q.ps ∧ q.ps.length ≤ q.cap ∧ q.cap ≤ maxLen ∧ (q.addr = none → q.cap = 0)
/-- a row of layers, wherever their values lie -/
def RowL (w : World) (base : Nat) (A : Option Addr) (n c : Nat) (qs : List Lq) : Prop := qs.length = n ∧ w.ownsRow base 27 1 (.slice A n c) n (slL qs)
section
variable {w w' : World} {base B n c : Nat} {A : Option Addr} {qs : List Lq}
theorem RowL.shape (h : RowL w base A n c qs) (hn : 0 < n) : ∃ g, A = some ⟨g, 0, none⟩ ∧ base ≤ g ∧ g < w.heap.size := by
  rcases h.2.2 with ⟨hv, h0⟩ | ⟨g, cap, cur, hv, hb, hh, hc, hm, hs, ht⟩
  · omega
  · injection hv with h1; exact ⟨g, h1, hb, (Array.getElem?_eq_some_iff.1 hh).1⟩
theorem RowL.cap (h : RowL w base A n c qs) : n ≤ c ∧ c ≤ maxLen := by
  rcases h.2.2 with ⟨hv, h0⟩ | ⟨g, cap, cur, hv, hb, hh, hc, hm, hs, ht⟩
  · injection hv with _ h1 h2; subst h1; subst h2; exact ⟨Nat.le_refl _, Nat.zero_le _⟩
  · injection hv with _ _ h2; subst h2; exact ⟨hc, hm⟩
theorem RowL.lyi (h : RowL w base A n c qs) (hB : BodL w w.heap.size qs) : LyI w w.heap.size A n qs := by
  refine ⟨h.1, fun hn => ?_, hB⟩
  obtain ⟨g, rfl, hb, hl⟩ := h.shape hn
  exact ⟨_, rfl, hl, fun j u hu => h.2.cells rfl j u hu⟩
theorem RowL.block (h : RowL w base A n c qs) : ∀ k, (Value.slice A n c).ownBlock = some k → base ≤ k ∧ k < w.heap.size := h.2.lt
theorem RowL.alloc (h : RowL w base A n c qs) (o : Obj) : RowL (w.alloc o) base A n c qs := ⟨h.1, h.2.alloc o⟩
theorem RowL.below (h : RowL w base A n c qs) (hg : Below w.heap.size w w') : RowL w' base A n c qs := ⟨h.1, h.2.kept (grown_of_below hg none) (by
    rcases hv : (Value.slice A n c).ownBlock with _ | g
    · exact .inl rfl
    · exact .inr (by simp))⟩
theorem RowL.lit0 (w : World) (base : Nat) (hb : base ≤ w.heap.size) : RowL (w.alloc (.cells #[] 27)) base (some ⟨w.heap.size, 0, none⟩) 0 0 [] := ⟨rfl, (OwnL.lit0 w base hb).row⟩
theorem BodL.below {B2 : Nat} (h : BodL w B qs) (hb : Below B2 w w') (hB : B ≤ B2) : BodL w' B qs := fun q hq => ⟨(h q hq).1.below hb hB, (h q hq).2⟩
theorem BodL.more {B2 : Nat} (h : BodL w B qs) (hB : B ≤ B2) : BodL w B2 qs := fun q hq => ⟨(h q hq).1.more hB, (h q hq).2⟩
theorem BodL.sub {rs : List Lq} (h : BodL w B qs) (hs : ∀ q ∈ rs, q ∈ qs) : BodL w B rs := fun q hq => h q (hs q hq)
theorem LyI.bods (h : LyI w B A n qs) : BodL w B qs := h.2.2
/-- a layer is exchanged -/
theorem RowL.put {g k : Nat} (h : RowL w base (some ⟨g, 0, none⟩) n c qs) (q' : Lq) : RowL (w.setCell ⟨g, k, none⟩ q'.sl) base (some ⟨g, 0, none⟩) n c (qs.set k q') ∧ w.grownBy (w.setCell ⟨g, k, none⟩ q'.sl) (some g) := by
  have hst := h.2.stored k q'.sl
  rw [slL_set] at hst
  exact ⟨⟨by rw [List.length_set]; exact h.1, hst.1⟩, hst.2⟩
theorem RowL.cell {g k : Nat} {q : Lq} (h : RowL w base (some ⟨g, 0, none⟩) n c qs) (hk : qs[k]? = some q) : w.cell? ⟨g, k, none⟩ = some q.sl := by
  have := h.2.cells rfl k _ (slL_get hk)
  rwa [add_plain'] at this
theorem RowL.free {g j : Nat} (h : RowL w base (some ⟨g, 0, none⟩) n c qs) : w.frozen? ⟨g, j, none⟩ = false := h.2.frozenAt j
end
theorem wp_append_rowL {w : World} {o : Oper} {a : Act} {K : Act → World → Prop} {Q : Exit → Act → World → Prop} (s x : Operand)
    (ho : o.op = .call { callee := .builtin .append, args := #[s, x], argTypes := #[23, 23] })
    (base n c m d : Nat) (A X : Option Addr) (qs q2 : List Lq) (hs : a.eval s = .slice A n c) (hx : a.eval x = .slice X m d) (hown : RowL w base A n c qs)
    (hl : q2.length = m) (hr : 0 < m → ∃ ad, X = some ad ∧ ∀ j u, (slL q2)[j]? = some u → w.cell? (ad.add j) = some u) (hn : n + m ≤ 100000000000) (hbase : base ≤ w.heap.size)
    (h : ∀ A2 c2 w', RowL w' base A2 (n + m) c2 (qs ++ q2) → w.grownBy w' (Value.slice A n c).ownBlock → K (a.put o.dst (.slice A2 (n + m) c2)) w') : o.wp Try.prog a w K Q := by
  have key : ∃ A2 c2 w', (Builtin.append_ #[23, 23] o.type #[.slice A n c, .slice X m d]).run Try.prog w = .ok (.slice A2 (n + m) c2) w' ∧ RowL w' base A2 (n + m) c2 (qs ++ q2) ∧ w.grownBy w' (Value.slice A n c).ownBlock := by
    obtain ⟨i0, hi, hz0, hz1, hz2⟩ := info_parts lyT.info
    rcases X with _ | ad
    · have hm : m = 0 := by
        rcases Nat.eq_zero_or_pos m with h | h
        · exact h
        · obtain ⟨ad, h', _⟩ := hr h
          cases h'
      subst hm
      obtain rfl : q2 = [] := List.eq_nil_of_length_eq_zero hl
      exact ⟨A, c, w, run_append_of_nil w base 23 o.type 27 i0 1 lyT.und hi _ n _ hown.2 d, by simpa using hown, World.grownBy.refl w _⟩
    · have hc : ∀ j u, (slL q2)[j]? = some u → w.cell? (ad.add j) = some u := by
        intro j u hu
        rcases Nat.eq_zero_or_pos m with h | h
        · obtain rfl : q2 = [] := List.eq_nil_of_length_eq_zero (by rw [hl, h])
          simp [slL] at hu
        · obtain ⟨ad', e, hc⟩ := hr h
          injection e with e
          subst e
          exact hc j u hu
      obtain ⟨v', w', hrun, h2, h3, _, h5⟩ := run_append_own_at (P := Try.prog) w base 23 o.type 27 i0 (.slice none 0 0) 1 24 lyT.und hi hz0 hz1 hz2 lyT.zs lyT.pos
        (.slice A n c) n (slL qs) hown.2 ad m d (slL q2) (by rw [slL_length, hl]; omega) hc (slL_one _)
        (by unfold maxLen; omega) (by omega) hbase
      obtain ⟨A2, c2, rfl⟩ := slice_of_own h2
      rw [← slL_append] at h2
      exact ⟨A2, c2, w', hrun, ⟨by rw [List.length_append, hown.1, hl], h2⟩, h3⟩
  obtain ⟨A2, c2, w', hrun, h2, h3⟩ := key
  unfold Oper.wp execOp
  simp only [ho, resolve, invoke, builtin, Sem.run_bind, Sem.run_pure, Result.andThen_ok, List.map_toArray, List.map_cons, List.map_nil, hs, hx, hrun]
  exact h A2 c2 w' h2 h3
theorem wpList_append_rowL {w : World} {ops : Array Oper} {rest : List Oper} {o : Oper} {a : Act} {Q : Exit → Act → World → Prop} (hgd : o.guard = none) (s x : Operand)
    (ho : o.op = .call { callee := .builtin .append, args := #[s, x], argTypes := #[23, 23] })
    (base n c m d : Nat) (A X : Option Addr) (qs q2 : List Lq) (hs : a.eval s = .slice A n c) (hx : a.eval x = .slice X m d) (hown : RowL w base A n c qs)
    (hl : q2.length = m) (hr : 0 < m → ∃ ad, X = some ad ∧ ∀ j u, (slL q2)[j]? = some u → w.cell? (ad.add j) = some u) (hn : n + m ≤ 100000000000) (hbase : base ≤ w.heap.size)
    (h : ∀ A2 c2 w', RowL w' base A2 (n + m) c2 (qs ++ q2) → w.grownBy w' (Value.slice A n c).ownBlock → wpList Try.prog ops Q rest (a.put o.dst (.slice A2 (n + m) c2)) w') :
    wpList Try.prog ops Q (o :: rest) a w :=
  wpList_plain hgd fun _ hK => wp_append_rowL s x ho base n c m d A X qs q2 hs hx hown hl hr hn hbase fun A2 c2 w' h2 h3 => hK _ _ (h A2 c2 w' h2 h3)
theorem step_append_rowL {w : World} {ops : Array Oper} {o : Oper} {a : Act} {K : Act → World → Prop} {Q : Exit → Act → World → Prop} {E : Prop} (hgd : o.guard = none) (s x : Operand)
    (ho : o.op = .call { callee := .builtin .append, args := #[s, x], argTypes := #[23, 23] })
    (base n c m d : Nat) (A X : Option Addr) (qs q2 : List Lq) (hs : a.eval s = .slice A n c) (hx : a.eval x = .slice X m d) (hown : RowL w base A n c qs)
    (hl : q2.length = m) (hr : 0 < m → ∃ ad, X = some ad ∧ ∀ j u, (slL q2)[j]? = some u → w.cell? (ad.add j) = some u) (hn : n + m ≤ 100000000000) (hbase : base ≤ w.heap.size)
    (h : ∀ A2 c2 w', RowL w' base A2 (n + m) c2 (qs ++ q2) → w.grownBy w' (Value.slice A n c).ownBlock → K (a.put o.dst (.slice A2 (n + m) c2)) w') :
    if Region.wanted o (yielded ops a.tmps) = true then Oper.wp Try.prog o a w K Q else E := by
  have hw : Region.wanted o (yielded ops a.tmps) = true := by simp [Region.wanted, hgd]
  rw [if_pos hw]
  exact wp_append_rowL s x ho base n c m d A X qs q2 hs hx hown hl hr hn hbase h
end Go.Proofs.Ytapfbkjgmfmepaa
