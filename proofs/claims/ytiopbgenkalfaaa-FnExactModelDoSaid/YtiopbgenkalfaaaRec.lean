/-
  Rows of records: a slice of n structs of s numbers each is read as its n * s numbers ('Ints'); a row of the call's own: 'OwnR'. Plain.
-/
import Derived.Test.YtiopbgenkalfaaaBase
namespace Go.Proofs.Ytiopbgenkalfaaa
open Go.RowKit
set_option linter.unusedVariables false
set_option maxRecDepth 100000

/-- '.slice A n c' is a row of the call's own (a block from base on) of n records of type t, s numbers each, that hold just xs. -/
def OwnR (w : World) (base : Nat) (t : TypeId) (s : Nat) (A : Option Addr) (n c : Nat) (xs : List Int) : Prop :=
  xs.length = n * s ∧ w.ownsRow base t s (.slice A n c) n (xs.map (Value.int .i64))
section
variable {w w' : World} {base n c s : Nat} {t : TypeId} {A : Option Addr} {xs : List Int}
theorem OwnR.cap (h : OwnR w base t s A n c xs) : n ≤ c ∧ c ≤ maxLen := by
  rcases h.2.2 with ⟨hv, h0⟩ | ⟨g, cap, cur, hv, hb, hh, hc, hm, hs, ht⟩
  · injection hv with _ h1 h2; subst h1; subst h2; exact ⟨Nat.le_refl _, Nat.zero_le _⟩
  · injection hv with _ _ h2; subst h2; exact ⟨hc, hm⟩
theorem OwnR.shape (h : OwnR w base t s A n c xs) (hn : 0 < n) : ∃ g, A = some ⟨g, 0, none⟩ ∧ base ≤ g ∧ g < w.heap.size := by
  rcases h.2.2 with ⟨hv, h0⟩ | ⟨g, cap, cur, hv, hb, hh, hc, hm, hs, ht⟩
  · omega
  · injection hv with h1; exact ⟨g, h1, hb, (Array.getElem?_eq_some_iff.1 hh).1⟩
theorem OwnR.nilc (h : OwnR w base t s A n c xs) : A = none → c = 0 := by
  rcases h.2.2 with ⟨hv, h0⟩ | ⟨g, cap, cur, hv, hb, hh, hc, hm, hs, ht⟩
  · injection hv with _ _ h2; intro _; exact h2
  · injection hv with h1; intro e; rw [h1] at e; cases e
theorem OwnR.block (h : OwnR w base t s A n c xs) : ∀ k, (Value.slice A n c).ownBlock = some k → base ≤ k ∧ k < w.heap.size := h.2.lt
theorem OwnR.ints (h : OwnR w base t s A n c xs) : Ints w w.heap.size A (n * s) xs := by
  refine ⟨h.1, fun hn => ?_⟩
  have hn' : 0 < n := by
    rcases Nat.eq_zero_or_pos n with h0 | h0
    · subst h0; simp at hn
    · exact h0
  obtain ⟨g, rfl, hb, hl⟩ := h.shape hn'
  refine ⟨_, rfl, hl, fun j hj => h.2.cells rfl j _ ?_⟩
  have : j < xs.length := by rw [h.1]; exact hj
  simp [List.getD, this]
theorem OwnR.kept {row : Option Nat} (h : OwnR w base t s A n c xs) (hg : w.grownBy w' row) (hne : ∀ k, row = some k → (Value.slice A n c).ownBlock ≠ some k) : OwnR w' base t s A n c xs :=
  ⟨h.1, h.2.kept hg (by
    rcases hv : (Value.slice A n c).ownBlock with _ | g
    · exact .inl rfl
    · right; intro e; exact hne g e.symm hv)⟩
theorem OwnR.below (h : OwnR w base t s A n c xs) (hg : Below w.heap.size w w') : OwnR w' base t s A n c xs := h.kept (grown_of_below hg none) (by simp)
theorem OwnR.alloc (h : OwnR w base t s A n c xs) (o : Obj) : OwnR (w.alloc o) base t s A n c xs := ⟨h.1, h.2.alloc o⟩
theorem OwnR.drewN (h : OwnR w base t s A n c xs) (k : Nat) : OwnR (w.drewN k) base t s A n c xs := h
theorem OwnR.nil_ (w : World) (base : Nat) (t : TypeId) (s : Nat) : OwnR w base t s none 0 0 [] := ⟨by simp, World.ownsRow_nil _ _ _ _⟩
theorem OwnR.mono {b' : Nat} (h : OwnR w base t s A n c xs) (hb : b' ≤ base) : OwnR w b' t s A n c xs := by
  refine ⟨h.1, h.2.1, ?_⟩
  rcases h.2.2 with h0 | ⟨g, cap, cur, hv, hb', r⟩
  · exact .inl h0
  · exact .inr ⟨g, cap, cur, hv, by omega, r⟩
theorem OwnR.lit (w : World) (base : Nat) (hb : base ≤ w.heap.size) (t : TypeId) (s : Nat) (n : Nat) (xs : List Int) (hl : xs.length = n * s) (hm : n ≤ maxLen) :
    OwnR (w.alloc (.cells (xs.map (Value.int .i64)).toArray t)) base t s (some ⟨w.heap.size, 0, none⟩) n n xs := by
  refine ⟨hl, ?_⟩
  have := World.ownsRow_lit (base := base) (e := t) (size := s) w (xs.map (Value.int .i64)).toArray n hb hm (by simpa using hl)
  simpa using this
theorem OwnR.lit0 (w : World) (base : Nat) (hb : base ≤ w.heap.size) (t : TypeId) (s : Nat) : OwnR (w.alloc (.cells #[] t)) base t s (some ⟨w.heap.size, 0, none⟩) 0 0 [] :=
  OwnR.lit w base hb t s 0 [] (by simp) (Nat.zero_le _)
theorem OwnR.stored {g j : Nat} (h : OwnR w base t s (some ⟨g, 0, none⟩) n c xs) (x : Int) :
    OwnR (w.setCell ⟨g, j, none⟩ (.int .i64 x)) base t s (some ⟨g, 0, none⟩) n c (xs.set j x) ∧ w.grownBy (w.setCell ⟨g, j, none⟩ (.int .i64 x)) (some g) := by
  have := h.2.stored j (.int .i64 x)
  refine ⟨⟨by simpa using h.1, ?_⟩, this.2⟩
  rw [List.map_set]
  exact this.1
theorem OwnR.free {g j : Nat} (h : OwnR w base t s (some ⟨g, 0, none⟩) n c xs) : w.frozen? ⟨g, j, none⟩ = false := h.2.frozenAt j
theorem OwnR.cell {g j : Nat} (h : OwnR w base t s (some ⟨g, 0, none⟩) n c xs) (hj : j < n * s) : w.cell? ⟨g, j, none⟩ = some (.int .i64 (xs.getD j 0)) := by
  rw [h.2.cellAt j hj]
  have : j < xs.length := by rw [h.1]; exact hj
  simp [List.getD, this]
end

theorem below_new (w : World) (o : Obj) : Below w.heap.size w (w.alloc o) := (Below.refl _ _).alloc (Nat.le_refl _) o

theorem grown_undrawn {w w' : World} {row : Option Nat} (h : w.drew.grownBy w' row) : w.grownBy w' row := ⟨h.os, h.tape, h.output, h.size, h.block⟩

theorem below_app_r {B base s n c : Nat} {t : TypeId} {a w w' : World} {A : Option Addr} {xs : List Int} {o : Obj} (h : Below B a w) (hB : B ≤ w.heap.size) (hown : OwnR w base t s A n c xs) (hb : B ≤ base)
    (hg : (w.alloc o).grownBy w' (Value.slice A n c).ownBlock) : Below B a w' :=
  (h.alloc hB o).grown hg (by simp; omega) (fun k hk => by have := (hown.block k hk).1; omega)

/-- what the append of records asks of the types: T a slice of t's, t a struct of s numbers -/
structure RT (T t : TypeId) (s bytes : Nat) (z : Value) : Prop where
  und : Try.prog.underlying T = some (.slice t)
  info : (Try.prog.info? t).map (fun i => (i.zero, i.size, i.bytes)) = some (some z, s, bytes)
  zs : z.cells.size = s
  pos : 0 < s
  small : bytes ≤ 64

theorem run_append_recs {T t : TypeId} {s bytes : Nat} {z : Value} (hT : RT T t s bytes z) (w : World) (base n c B m d : Nat) (A A' : Option Addr) (xs ys : List Int) (ty : TypeId) (hown : OwnR w base t s A n c xs) (hr : Ints w B A' (m * s) ys)
    (hnm : n + m ≤ 1000000000000) (hbase : base ≤ w.heap.size) :
    ∃ A2 c2 w', (Builtin.append_ #[T, T] ty #[.slice A n c, .slice A' m d]).run Try.prog w = .ok (.slice A2 (n + m) c2) w' ∧ OwnR w' base t s A2 (n + m) c2 (xs ++ ys) ∧
      w.grownBy w' (Value.slice A n c).ownBlock ∧ ((Value.slice A2 (n + m) c2).ownBlock = (Value.slice A n c).ownBlock ∨ (Value.slice A2 (n + m) c2).ownBlock = some w.heap.size) := by
  obtain ⟨i0, hi, hz0, hz1, hz2⟩ := info_parts hT.info
  have hpos := hT.pos
  have h0 : m = 0 → ys = [] := fun h => List.eq_nil_of_length_eq_zero (by rw [hr.1, h, Nat.zero_mul])
  have hm0 : 0 < m → 0 < m * s := fun h => Nat.mul_pos h hpos
  rcases A' with _ | ad
  · have hm : m = 0 := by
      rcases Nat.eq_zero_or_pos m with h | h
      · exact h
      · obtain ⟨ad, h', _⟩ := hr.2 (hm0 h)
        cases h'
    subst hm
    rw [h0 rfl]
    exact ⟨A, c, w, run_append_of_nil w base T ty t i0 s hT.und hi _ n _ hown.2 d, by simpa using hown, World.grownBy.refl w _, .inl rfl⟩
  · have hcells : ∀ j u, (ys.map (Value.int .i64))[j]? = some u → w.cell? (ad.add j) = some u := by
      intro j u hu
      rcases Nat.eq_zero_or_pos m with h | h
      · rw [h0 h] at hu; simp at hu
      · obtain ⟨ad', h', _, hc⟩ := hr.2 (hm0 h)
        injection h' with h'
        subst h'
        have hj : j < ys.length := by
          rcases Nat.lt_or_ge j ys.length with hl | hl
          · exact hl
          · rw [List.getElem?_eq_none (by simpa using hl)] at hu; cases hu
        have := hc j (by rw [← hr.1]; exact hj)
        simp [hj] at hu
        rw [this, ← hu]
        simp [List.getD, hj]
    obtain ⟨v', w', hrun, h2, h3, _, h5⟩ := run_append_own_at (P := Try.prog) w base T ty t i0 z s bytes hT.und hi hz0 hz1 hz2 hT.zs hT.pos
      (.slice A n c) n (xs.map (Value.int .i64)) hown.2 ad m d (ys.map (Value.int .i64)) (by simp [hr.1]) hcells (by intro u hu; simp at hu; obtain ⟨x, _, rfl⟩ := hu; rfl)
      (by unfold maxLen; omega) (Nat.le_trans (Nat.mul_le_mul hnm hT.small) (by decide)) hbase
    obtain ⟨A2, c2, rfl⟩ := slice_of_own h2
    exact ⟨A2, c2, w', hrun, ⟨by simp [hown.1, hr.1, Nat.add_mul], by simpa using h2⟩, h3, h5⟩

theorem wp_append_recs {T t : TypeId} {s0 bytes : Nat} {z : Value} (hT : RT T t s0 bytes z) {w : World} {o : Oper} {a : Act} {K : Act → World → Prop} {Q : Exit → Act → World → Prop} (s x : Operand)
    (ho : o.op = .call { callee := .builtin .append, args := #[s, x], argTypes := #[T, T] })
    (base n c B m d : Nat) (A A' : Option Addr) (xs ys : List Int) (hs : a.eval s = .slice A n c) (hown : OwnR w base t s0 A n c xs) (hx : a.eval x = .slice A' m d) (hr : Ints w B A' (m * s0) ys)
    (hnm : n + m ≤ 1000000000000) (hbase : base ≤ w.heap.size)
    (h : ∀ A2 c2 w', OwnR w' base t s0 A2 (n + m) c2 (xs ++ ys) → w.grownBy w' (Value.slice A n c).ownBlock →
      ((Value.slice A2 (n + m) c2).ownBlock = (Value.slice A n c).ownBlock ∨ (Value.slice A2 (n + m) c2).ownBlock = some w.heap.size) → K (a.put o.dst (.slice A2 (n + m) c2)) w') : o.wp Try.prog a w K Q := by
  obtain ⟨A2, c2, w', hrun, h2, h3, h4⟩ := run_append_recs hT w base n c B m d A A' xs ys o.type hown hr hnm hbase
  unfold Oper.wp execOp
  simp only [ho, resolve, invoke, builtin, Sem.run_bind, Sem.run_pure, Result.andThen_ok, List.map_toArray, List.map_cons, List.map_nil, hs, hx, hrun]
  exact h A2 c2 w' h2 h3 h4

theorem wpList_append_recs {T t : TypeId} {s0 bytes : Nat} {z : Value} (hT : RT T t s0 bytes z) {w : World} {ops : Array Oper} {rest : List Oper} {o : Oper} {a : Act} {Q : Exit → Act → World → Prop} (hgd : o.guard = none) (s x : Operand)
    (ho : o.op = .call { callee := .builtin .append, args := #[s, x], argTypes := #[T, T] })
    (base n c B m d : Nat) (A A' : Option Addr) (xs ys : List Int) (hs : a.eval s = .slice A n c) (hown : OwnR w base t s0 A n c xs) (hx : a.eval x = .slice A' m d) (hr : Ints w B A' (m * s0) ys)
    (hnm : n + m ≤ 1000000000000) (hbase : base ≤ w.heap.size)
    (h : ∀ A2 c2 w', OwnR w' base t s0 A2 (n + m) c2 (xs ++ ys) → w.grownBy w' (Value.slice A n c).ownBlock →
      ((Value.slice A2 (n + m) c2).ownBlock = (Value.slice A n c).ownBlock ∨ (Value.slice A2 (n + m) c2).ownBlock = some w.heap.size) → wpList Try.prog ops Q rest (a.put o.dst (.slice A2 (n + m) c2)) w') :
    wpList Try.prog ops Q (o :: rest) a w :=
  wpList_plain hgd fun _ hK => wp_append_recs hT s x ho base n c B m d A A' xs ys hs hown hx hr hnm hbase fun A2 c2 w' h2 h3 h4 => hK _ _ (h A2 c2 w' h2 h3 h4)

theorem step_append_recs {T t : TypeId} {s0 bytes : Nat} {z : Value} (hT : RT T t s0 bytes z) {w : World} {ops : Array Oper} {o : Oper} {a : Act} {K : Act → World → Prop} {Q : Exit → Act → World → Prop} {E : Prop} (hgd : o.guard = none) (s x : Operand)
    (ho : o.op = .call { callee := .builtin .append, args := #[s, x], argTypes := #[T, T] })
    (base n c B m d : Nat) (A A' : Option Addr) (xs ys : List Int) (hs : a.eval s = .slice A n c) (hown : OwnR w base t s0 A n c xs) (hx : a.eval x = .slice A' m d) (hr : Ints w B A' (m * s0) ys)
    (hnm : n + m ≤ 1000000000000) (hbase : base ≤ w.heap.size)
    (h : ∀ A2 c2 w', OwnR w' base t s0 A2 (n + m) c2 (xs ++ ys) → w.grownBy w' (Value.slice A n c).ownBlock →
      ((Value.slice A2 (n + m) c2).ownBlock = (Value.slice A n c).ownBlock ∨ (Value.slice A2 (n + m) c2).ownBlock = some w.heap.size) → K (a.put o.dst (.slice A2 (n + m) c2)) w') :
    if Region.wanted o (yielded ops a.tmps) = true then Oper.wp Try.prog o a w K Q else E := by
  have hw : Region.wanted o (yielded ops a.tmps) = true := by simp [Region.wanted, hgd]
  rw [if_pos hw]
  exact wp_append_recs hT s x ho base n c B m d A A' xs ys hs hown hx hr hnm hbase h

theorem pairT : RT 33 42 2 16 (.agg #[.int .i64 0, .int .i64 0]) := ⟨Try.underlying33, by kernel_rfl, by decide, by decide, by decide⟩

/-- one new record of two or three numbers reads -/
theorem Ints.rec2 (w : World) (t : TypeId) (x y : Int) : Ints (w.alloc (.cells #[.int .i64 x, .int .i64 y] t)) (w.heap.size + 1) (some ⟨w.heap.size, 0, none⟩) (1 * 2) [x, y] := by
  refine ⟨rfl, fun _ => ⟨_, rfl, by simp, fun j hj => ?_⟩⟩
  rw [add_plain']
  have h := (Blk.new w t #[.int .i64 x, .int .i64 y]).cell j
  rw [h]
  rcases j with _ | _ | j
  · rfl
  · rfl
  · omega
theorem Ints.rec3 (w : World) (t : TypeId) (x y z : Int) : Ints (w.alloc (.cells #[.int .i64 x, .int .i64 y, .int .i64 z] t)) (w.heap.size + 1) (some ⟨w.heap.size, 0, none⟩) (1 * 3) [x, y, z] := by
  refine ⟨rfl, fun _ => ⟨_, rfl, by simp, fun j hj => ?_⟩⟩
  rw [add_plain']
  have h := (Blk.new w t #[.int .i64 x, .int .i64 y, .int .i64 z]).cell j
  rw [h]
  rcases j with _ | _ | _ | j
  · rfl
  · rfl
  · rfl
  · omega
end Go.Proofs.Ytiopbgenkalfaaa
