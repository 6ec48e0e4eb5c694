/-
  The program's heap of lists in memory: the merger's cell, its row, its lists. Plain.
-/
import Derived.Test.YtcocboigjfjnfacHeapM
namespace Go.Proofs.Ytcocboigjfjnfac
open Go.RowKit
set_option linter.unusedVariables false
set_option maxRecDepth 100000

/-- a list of the heap: where it lies, its frames -/
structure Hq where
  addr : Option Addr
  cap : Nat
  qs : List Fq
def Hq.sl (h : Hq) : Value := .slice h.addr h.qs.length h.cap
def Hq.fs (h : Hq) : List Fn := fns h.qs
def slH (hs : List Hq) : List Value := hs.map Hq.sl
def fnH (hs : List Hq) : List (List Fn) := hs.map Hq.fs
theorem slH_length (hs : List Hq) : (slH hs).length = hs.length := by unfold slH; rw [List.length_map]
theorem slH_get {hs : List Hq} {k : Nat} {h : Hq} (e : hs[k]? = some h) : (slH hs)[k]? = some h.sl := by unfold slH; rw [List.getElem?_map, e]; rfl
theorem slH_one (hs : List Hq) : ∀ u ∈ slH hs, u.oneCell' = true := by
  intro u hu
  obtain ⟨h, _, rfl⟩ := List.mem_map.1 hu
  rfl
theorem fnH_length (hs : List Hq) : (fnH hs).length = hs.length := by unfold fnH; rw [List.length_map]
theorem keyL_at {hs : List Hq} {k : Nat} {h : Hq} (e : hs[k]? = some h) : keyL (fnH hs) k = hdF h.fs := by
  unfold keyL fnH
  simp [List.getD, List.getElem?_map, e]

/-- only cells of mergers and rows of lists are turned; what lies below base is as it was -/
structure Trn (base : Nat) (w w' : World) : Prop where
  below : Below base w w'
  keep : ∀ k cs t, Blk w k t cs → t ≠ 53 → t ≠ 25 → Blk w' k t cs
section
variable {base : Nat} {a b w w' : World}
theorem Trn.refl (base : Nat) (w : World) : Trn base w w := ⟨Below.refl _ _, fun _ _ _ h _ _ => h⟩
theorem Trn.trans {c : World} (h : Trn base a b) (k : Trn base b c) : Trn base a c := ⟨h.below.trans k.below, fun i cs t e h1 h2 => k.keep i cs t (h.keep i cs t e h1 h2) h1 h2⟩
theorem Trn.of_below (h : Below w.heap.size w w') (hb : base ≤ w.heap.size) : Trn base w w' :=
  ⟨h.mono hb, fun k cs t e _ _ => e.below h e.lt⟩
theorem Trn.drewN (h : Trn base a w) (i : Nat) : Trn base a (w.drewN i) := ⟨below_drewN h.below i, h.keep⟩
theorem Trn.undrewN {i : Nat} (h : Trn base (a.drewN i) w) : Trn base a w := ⟨⟨h.below.os, h.below.tape, h.below.output, h.below.size, h.below.block⟩, h.keep⟩
theorem Trn.alloc (h : Trn base a w) (hb : base ≤ w.heap.size) (o : Obj) : Trn base a (w.alloc o) := h.trans (.of_below ((Below.refl _ w).alloc (Nat.le_refl _) o) hb)
theorem Trn.size (h : Trn base w w') : w.heap.size ≤ w'.heap.size := h.below.size
/-- one block of a merger or of a row of lists is turned -/
theorem Trn.of_grown {g : Nat} {cs : Array Value} {t : TypeId} (h : w.grownBy w' (some g)) (hg : base ≤ g) (hw : base ≤ w.heap.size) (hb : Blk w g t cs) (ht : t = 53 ∨ t = 25) : Trn base w w' :=
  ⟨below_of_grown' h hw (by intro q hq; injection hq with hq; omega), fun k cs' t' e h1 h2 => by
    have hl : k < w.heap.size := e.lt
    have hne : k ≠ g := by
      intro e2
      subst e2
      unfold Blk at hb e
      rw [hb] at e
      injection e with e
      injection e with e3 e4
      rcases ht with ht | ht
      · exact h1 (e4.symm.trans ht)
      · exact h2 (e4.symm.trans ht)
    exact e.grown h (by intro e2; injection e2 with e2; exact hne e2)⟩
theorem Trn.blk {k : Nat} {t : TypeId} {cs : Array Value} (h : Trn base w w') (hb : Blk w k t cs) (h1 : t ≠ 53) (h2 : t ≠ 25) : Blk w' k t cs := h.keep k cs t hb h1 h2
theorem Trn.row {B n s : Nat} {t : TypeId} {v : Value} {xs : List Value} (h : Trn base w w') (hr : w.ownsRow B t s v n xs) (h1 : t ≠ 53) (h2 : t ≠ 25) : w'.ownsRow B t s v n xs := by
  refine ⟨hr.1, ?_⟩
  rcases hr.2 with h0 | ⟨g, cap, cur, e1, e2, e3, e4⟩
  · exact .inl h0
  · exact .inr ⟨g, cap, cur, e1, e2, h.keep g cur t e3 h1 h2, e4⟩
theorem Trn.own {B n c : Nat} {A : Option Addr} {xs : List Int} (h : Trn base w w') (ho : Own w B A n c xs) : Own w' B A n c xs := ⟨ho.1, h.row ho.2 (by decide) (by decide)⟩
theorem Trn.ownF {B n c : Nat} {A : Option Addr} {qs : List Fq} (h : Trn base w w') (ho : OwnF w B A n c qs) : OwnF w' B A n c qs :=
  ⟨ho.len, h.row ho.row (by decide) (by decide), fun k q hk => h.own (ho.own k q hk), ho.sep⟩
end

/-- a list of the heap: its frames can be read, in a block of frames; it has some -/
structure LstOk (w : World) (base : Nat) (h : Hq) : Prop where
  full : h.qs ≠ []
  cap : h.qs.length ≤ h.cap ∧ h.cap ≤ maxLen
  mem : ∃ (ad : Addr) (cs : Array Value), h.addr = some ad ∧ ad.spot = none ∧ base ≤ ad.block ∧ Blk w ad.block 35 cs ∧ ∀ j u, (flatF h.qs)[j]? = some u → w.cell? (ad.add j) = some u

section
variable {base : Nat} {w w' : World} {h : Hq}
theorem LstOk.trn (hl : LstOk w base h) (ht : Trn base w w') : LstOk w' base h := by
  obtain ⟨ad, cs, e, e2, hb, hk, hc⟩ := hl.mem
  have hk' := ht.keep _ _ _ hk (by decide) (by decide)
  exact ⟨hl.full, hl.cap, ad, cs, e, e2, hb, hk', fun j u hu => (World.cell?_of_block (by rw [block_of_add]; unfold Blk at hk hk'; rw [hk, hk'])).trans (hc j u hu)⟩
theorem LstOk.lt (hl : LstOk w base h) : ∃ ad, h.addr = some ad ∧ ad.block < w.heap.size := by
  obtain ⟨ad, cs, e, e2, hb, hk, hc⟩ := hl.mem
  exact ⟨ad, e, hk.lt⟩
/-- its first frame -/
theorem LstOk.head (hl : LstOk w base h) : ∃ (p : Addr) (q : Fq) (t : List Fq), h.addr = some p ∧ h.qs = q :: t ∧ 0 < h.qs.length ∧ p.block < w.heap.size ∧ w.cell? p = some (.int .i64 q.zone) ∧
    w.cell? ⟨p.block, p.off + 1, none⟩ = some (.int .i64 q.word) ∧ w.cell? ⟨p.block, p.off + 2, none⟩ = some (.int .i64 q.kind) ∧ w.cell? ⟨p.block, p.off + 3, none⟩ = some (.int .i64 q.seq) ∧ w.cell? ⟨p.block, p.off + 4, none⟩ = some q.sl := by
  obtain ⟨ad, cs, e, e2, hb, hk, hc⟩ := hl.mem
  obtain ⟨q, t, hq⟩ := List.exists_cons_of_ne_nil hl.full
  have hcs : ∀ j u, (q.cells)[j]? = some u → w.cell? (ad.add j) = some u := by
    intro j u hu
    refine hc j u ?_
    rw [hq]
    rcases j with _ | _ | _ | _ | _ | j
    · exact hu
    · exact hu
    · exact hu
    · exact hu
    · exact hu
    · simp [Fq.cells] at hu
  have next : ∀ {i : Nat} {v : Value}, i ≠ 0 → w.cell? (ad.add i) = some v → w.cell? ⟨ad.block, ad.off + i, none⟩ = some v := by
    intro i v hi h
    simpa [Addr.add, hi, e2] using h
  exact ⟨ad, q, t, e, hq, by rw [hq]; exact Nat.succ_pos _, hk.lt, by have := hcs 0 _ rfl; simpa [Addr.add] using this, next (by decide) (hcs 1 _ rfl), next (by decide) (hcs 2 _ rfl), next (by decide) (hcs 3 _ rfl), next (by decide) (hcs 4 _ rfl)⟩
/-- what is left of it, once the first frame is taken -/
theorem LstOk.tail {q q2 : Fq} {t : List Fq} (hl : LstOk w base h) (hq : h.qs = q :: q2 :: t) (ad : Addr) (e : h.addr = some ad) : LstOk w base ⟨some (ad.add 5), h.cap - 1, q2 :: t⟩ := by
  obtain ⟨ad', cs, e', e2, hb, hk, hc⟩ := hl.mem
  rw [e] at e'
  injection e' with e'
  subst e'
  have hcap := hl.cap
  rw [hq] at hcap
  simp only [List.length_cons] at hcap
  refine ⟨by simp, ⟨by simp only [List.length_cons]; omega, by have := hcap.2; show h.cap - 1 ≤ maxLen; omega⟩, ad.add 5, cs, rfl, by simp [Addr.add], by rw [block_of_add]; exact hb, by rw [block_of_add]; exact hk, fun j u hu => ?_⟩
  rw [add_of_add]
  refine hc (5 + j) u ?_
  rw [hq, show 5 + j = j + 1 + 1 + 1 + 1 + 1 by omega]
  simpa [flatF] using hu
end

/-- the heap in memory: its cell in block b, its row, its lists -/
structure Mg (w : World) (base b : Nat) (A : Option Addr) (n c : Nat) (hs : List Hq) : Prop where
  cell : Blk w b 53 #[.slice A n c]
  row : w.ownsRow base 25 1 (.slice A n c) n (slH hs)
  len : hs.length = n
  bb : base ≤ b
  lst : ∀ h ∈ hs, LstOk w base h
  small : n ≤ 1000
section
variable {base b n c : Nat} {w w' : World} {A : Option Addr} {hs : List Hq}
theorem Mg.below (h : Mg w base b A n c hs) (hb : Below w.heap.size w w') (hw : base ≤ w.heap.size) : Mg w' base b A n c hs :=
  ⟨h.cell.below hb h.cell.lt, h.row.kept (grown_of_below hb none) (by
    rcases hv : (Value.slice A n c).ownBlock with _ | g
    · exact .inl rfl
    · exact .inr (by simp)), h.len, h.bb, fun x hx => (h.lst x hx).trn (.of_below hb hw), h.small⟩
theorem Mg.drewN (h : Mg w base b A n c hs) (i : Nat) : Mg (w.drewN i) base b A n c hs := ⟨h.cell, h.row, h.len, h.bb, fun x hx => (h.lst x hx).trn ((Trn.refl _ _).drewN i), h.small⟩
theorem Mg.bw (h : Mg w base b A n c hs) : base ≤ w.heap.size := Nat.le_trans h.bb (Nat.le_of_lt h.cell.lt)
/-- list k of the row -/
theorem Mg.at_ (h : Mg w base b A n c hs) {k : Nat} {x : Hq} (hk : hs[k]? = some x) : ∃ g, A = some ⟨g, 0, none⟩ ∧ base ≤ g ∧ g < w.heap.size ∧ g ≠ b ∧ w.cell? ⟨g, k, none⟩ = some x.sl ∧ w.frozen? ⟨g, k, none⟩ = false ∧ ∃ cur, Blk w g 25 cur := by
  have hl : k < n := by rw [← h.len]; exact (List.getElem?_eq_some_iff.1 hk).1
  rcases h.row.2 with ⟨hv, h0⟩ | ⟨g, cap, cur, hv, hb, hh, hc, hm, hs', ht⟩
  · omega
  · injection hv with h1 h2 h3
    subst h1
    have hbl : Blk w g 25 cur := hh
    refine ⟨g, rfl, hb, hbl.lt, fun e => ?_, ?_, hbl.frozen k, cur, hbl⟩
    · subst e
      have hc := h.cell
      unfold Blk at hc
      rw [hc] at hh
      injection hh with hh
      injection hh with _ e4
      exact absurd e4 (by decide)
    · have hc := h.row.cells rfl k x.sl (slH_get hk)
      rwa [add_plain'] at hc
theorem Mg.nilA (h : Mg w base b A n c hs) : n ≤ c ∧ c ≤ maxLen := by
  rcases h.row.2 with ⟨hv, h0⟩ | ⟨g, cap, cur, hv, hb, hh, hc, hm, hs, ht⟩
  · injection hv with _ h1 h2; subst h1; subst h2; exact ⟨Nat.le_refl _, Nat.zero_le _⟩
  · injection hv with _ _ h2; subst h2; exact ⟨hc, hm⟩
end
end Go.Proofs.Ytcocboigjfjnfac
