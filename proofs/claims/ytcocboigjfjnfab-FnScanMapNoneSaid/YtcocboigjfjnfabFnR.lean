/-
  Frames that are appended to a row, with the bodies that they have elsewhere: the row reads as the list. Plain.
-/
import Derived.Test.YtcocboigjfjnfabFnd
namespace Go.Proofs.Ytcocboigjfjnfab
open Go.RowKit
set_option linter.unusedVariables false
set_option maxRecDepth 100000

/-- what is known of the bodies of frames -/
def Bods (w : World) (B : Nat) (qs : List Fq) : Prop := ∀ q ∈ qs, Ints w B q.addr q.vals.length q.vals ∧ q.vals.length ≤ q.cap ∧ q.cap ≤ maxLen ∧ (q.addr = none → q.cap = 0)
/-- a row of frames, wherever their bodies lie -/
def RowF (w : World) (base : Nat) (A : Option Addr) (n c : Nat) (qs : List Fq) : Prop := qs.length = n ∧ w.ownsRow base 34 5 (.slice A n c) n (flatF qs)
section
variable {w w' : World} {base B n c : Nat} {A : Option Addr} {qs : List Fq}
theorem RowF.shape (h : RowF w base A n c qs) (hn : 0 < n) : ∃ g, A = some ⟨g, 0, none⟩ ∧ base ≤ g ∧ g < w.heap.size := by
  rcases h.2.2 with ⟨hv, h0⟩ | ⟨g, cap, cur, hv, hb, hh, hc, hm, hs, ht⟩
  · omega
  · injection hv with h1; exact ⟨g, h1, hb, (Array.getElem?_eq_some_iff.1 hh).1⟩
theorem RowF.cap (h : RowF w base A n c qs) : n ≤ c ∧ c ≤ maxLen := by
  rcases h.2.2 with ⟨hv, h0⟩ | ⟨g, cap, cur, hv, hb, hh, hc, hm, hs, ht⟩
  · injection hv with _ h1 h2; subst h1; subst h2; exact ⟨Nat.le_refl _, Nat.zero_le _⟩
  · injection hv with _ _ h2; subst h2; exact ⟨hc, hm⟩
theorem RowF.fnds (h : RowF w base A n c qs) (hB : Bods w w.heap.size qs) : Fnds w w.heap.size A n qs := by
  refine ⟨h.1, fun hn => ?_, hB⟩
  obtain ⟨g, rfl, hb, hl⟩ := h.shape hn
  exact ⟨_, rfl, hl, fun j u hu => h.2.cells rfl j u hu⟩
theorem RowF.block (h : RowF w base A n c qs) : ∀ k, (Value.slice A n c).ownBlock = some k → base ≤ k ∧ k < w.heap.size := h.2.lt
theorem RowF.alloc (h : RowF w base A n c qs) (o : Obj) : RowF (w.alloc o) base A n c qs := ⟨h.1, h.2.alloc o⟩
theorem RowF.below (h : RowF w base A n c qs) (hg : Below w.heap.size w w') : RowF w' base A n c qs := ⟨h.1, h.2.kept (grown_of_below hg none) (by
    rcases hv : (Value.slice A n c).ownBlock with _ | g
    · exact .inl rfl
    · exact .inr (by simp))⟩
theorem OwnF.rowF (h : OwnF w base A n c qs) : RowF w base A n c qs := ⟨h.len, h.row⟩
theorem RowF.lit0 (w : World) (base : Nat) (hb : base ≤ w.heap.size) : RowF (w.alloc (.cells #[] 34)) base (some ⟨w.heap.size, 0, none⟩) 0 0 [] := (OwnF.lit0 w base hb).rowF
end

theorem run_append_rowF (w : World) (base n c m d : Nat) (A X : Option Addr) (qs q2 : List Fq) (ty : TypeId) (hown : RowF w base A n c qs)
    (hl : q2.length = m) (hr : 0 < m → ∃ ad, X = some ad ∧ ∀ j u, (flatF q2)[j]? = some u → w.cell? (ad.add j) = some u) (hn : n + m ≤ 100000000000) (hbase : base ≤ w.heap.size) :
    ∃ A2 c2 w', (Builtin.append_ #[23, 23] ty #[.slice A n c, .slice X m d]).run Try.prog w = .ok (.slice A2 (n + m) c2) w' ∧ RowF w' base A2 (n + m) c2 (qs ++ q2) ∧
      w.grownBy w' (Value.slice A n c).ownBlock ∧ ((Value.slice A2 (n + m) c2).ownBlock = (Value.slice A n c).ownBlock ∨ (Value.slice A2 (n + m) c2).ownBlock = some w.heap.size) := by
  rcases X with _ | ad
  · have hm : m = 0 := by
      rcases Nat.eq_zero_or_pos m with h | h
      · exact h
      · obtain ⟨ad, h', _⟩ := hr h
        cases h'
    subst hm
    obtain rfl : q2 = [] := List.eq_nil_of_length_eq_zero hl
    obtain ⟨i0, hi, hz0, hz1, hz2⟩ := info_parts fndT.info
    exact ⟨A, c, w, run_append_of_nil w base 23 ty 34 i0 5 fndT.und hi _ n _ hown.2 d, by simpa using hown, World.grownBy.refl w _, .inl rfl⟩
  · have hc : ∀ j u, (flatF q2)[j]? = some u → w.cell? (ad.add j) = some u := by
      intro j u hu
      rcases Nat.eq_zero_or_pos m with h | h
      · obtain rfl : q2 = [] := List.eq_nil_of_length_eq_zero (by rw [hl, h])
        simp [flatF] at hu
      · obtain ⟨ad', e, hc⟩ := hr h
        injection e with e
        subst e
        exact hc j u hu
    obtain ⟨A2, c2, w', hrun, h2, h3, h4⟩ := run_append_valsF fndT w base n c m d A ad (flatF qs) (flatF q2) ty hown.2 (by rw [flatF_length, hl]) (flatF_one _) hc (by omega) hbase
    rw [← flatF_append] at h2
    exact ⟨A2, c2, w', hrun, ⟨by rw [List.length_append, hown.1, hl], h2⟩, h3, h4⟩
theorem wp_append_rowF {w : World} {o : Oper} {a : Act} {K : Act → World → Prop} {Q : Exit → Act → World → Prop} (s x : Operand)
    (ho : o.op = .call { callee := .builtin .append, args := #[s, x], argTypes := #[23, 23] })
    (base n c m d : Nat) (A X : Option Addr) (qs q2 : List Fq) (hs : a.eval s = .slice A n c) (hx : a.eval x = .slice X m d) (hown : RowF w base A n c qs)
    (hl : q2.length = m) (hr : 0 < m → ∃ ad, X = some ad ∧ ∀ j u, (flatF q2)[j]? = some u → w.cell? (ad.add j) = some u) (hn : n + m ≤ 100000000000) (hbase : base ≤ w.heap.size)
    (h : ∀ A2 c2 w', RowF w' base A2 (n + m) c2 (qs ++ q2) → w.grownBy w' (Value.slice A n c).ownBlock →
      ((Value.slice A2 (n + m) c2).ownBlock = (Value.slice A n c).ownBlock ∨ (Value.slice A2 (n + m) c2).ownBlock = some w.heap.size) → K (a.put o.dst (.slice A2 (n + m) c2)) w') : o.wp Try.prog a w K Q := by
  obtain ⟨A2, c2, w', hrun, h2, h3, h4⟩ := run_append_rowF w base n c m d A X qs q2 o.type hown hl hr hn hbase
  unfold Oper.wp execOp
  simp only [ho, resolve, invoke, builtin, Sem.run_bind, Sem.run_pure, Result.andThen_ok, List.map_toArray, List.map_cons, List.map_nil, hs, hx, hrun]
  exact h A2 c2 w' h2 h3 h4
theorem wpList_append_rowF {w : World} {ops : Array Oper} {rest : List Oper} {o : Oper} {a : Act} {Q : Exit → Act → World → Prop} (hgd : o.guard = none) (s x : Operand)
    (ho : o.op = .call { callee := .builtin .append, args := #[s, x], argTypes := #[23, 23] })
    (base n c m d : Nat) (A X : Option Addr) (qs q2 : List Fq) (hs : a.eval s = .slice A n c) (hx : a.eval x = .slice X m d) (hown : RowF w base A n c qs)
    (hl : q2.length = m) (hr : 0 < m → ∃ ad, X = some ad ∧ ∀ j u, (flatF q2)[j]? = some u → w.cell? (ad.add j) = some u) (hn : n + m ≤ 100000000000) (hbase : base ≤ w.heap.size)
    (h : ∀ A2 c2 w', RowF w' base A2 (n + m) c2 (qs ++ q2) → w.grownBy w' (Value.slice A n c).ownBlock →
      ((Value.slice A2 (n + m) c2).ownBlock = (Value.slice A n c).ownBlock ∨ (Value.slice A2 (n + m) c2).ownBlock = some w.heap.size) → wpList Try.prog ops Q rest (a.put o.dst (.slice A2 (n + m) c2)) w') :
    wpList Try.prog ops Q (o :: rest) a w :=
  wpList_plain hgd fun _ hK => wp_append_rowF s x ho base n c m d A X qs q2 hs hx hown hl hr hn hbase fun A2 c2 w' h2 h3 h4 => hK _ _ (h A2 c2 w' h2 h3 h4)
theorem step_append_rowF {w : World} {ops : Array Oper} {o : Oper} {a : Act} {K : Act → World → Prop} {Q : Exit → Act → World → Prop} {E : Prop} (hgd : o.guard = none) (s x : Operand)
    (ho : o.op = .call { callee := .builtin .append, args := #[s, x], argTypes := #[23, 23] })
    (base n c m d : Nat) (A X : Option Addr) (qs q2 : List Fq) (hs : a.eval s = .slice A n c) (hx : a.eval x = .slice X m d) (hown : RowF w base A n c qs)
    (hl : q2.length = m) (hr : 0 < m → ∃ ad, X = some ad ∧ ∀ j u, (flatF q2)[j]? = some u → w.cell? (ad.add j) = some u) (hn : n + m ≤ 100000000000) (hbase : base ≤ w.heap.size)
    (h : ∀ A2 c2 w', RowF w' base A2 (n + m) c2 (qs ++ q2) → w.grownBy w' (Value.slice A n c).ownBlock →
      ((Value.slice A2 (n + m) c2).ownBlock = (Value.slice A n c).ownBlock ∨ (Value.slice A2 (n + m) c2).ownBlock = some w.heap.size) → K (a.put o.dst (.slice A2 (n + m) c2)) w') :
    if Region.wanted o (yielded ops a.tmps) = true then Oper.wp Try.prog o a w K Q else E := by
  have hw : Region.wanted o (yielded ops a.tmps) = true := by simp [Region.wanted, hgd]
  rw [if_pos hw]
  exact wp_append_rowF s x ho base n c m d A X qs q2 hs hx hown hl hr hn hbase h
end Go.Proofs.Ytcocboigjfjnfab
