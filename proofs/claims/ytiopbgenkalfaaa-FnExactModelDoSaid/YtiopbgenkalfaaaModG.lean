/-
  A model in a block of its own, to whose past lists are appended. Plain.
-/
import Derived.Test.YtiopbgenkalfaaaMods
namespace Go.Proofs.Ytiopbgenkalfaaa
open Go.RowKit
set_option linter.unusedVariables false
set_option maxRecDepth 100000

/-- a row lies in no block of another type -/
theorem row_ne_blk {w : World} {b t s n g tb : Nat} {v : Value} {xs : List Value} {cs : Array Value} (h : w.ownsRow b t s v n xs) (hb : Blk w g tb cs) (ht : t ≠ tb) : v.ownBlock ≠ some g := by
  intro hv
  rcases h.2 with ⟨rfl, _⟩ | ⟨g1, cap1, cur1, rfl, _, hh, _⟩
  · simp [Value.ownBlock] at hv
  · simp [Value.ownBlock] at hv
    subst hv
    unfold Blk at hb
    rw [hh] at hb
    simp at hb
    exact ht hb.2

/-- a model of the call's own, whose two slices lie in the block go; L: other blocks of the call's own -/
structure GrS (w W : World) (base go : Nat) (L : List (Nat × TypeId × Array Value)) (q : Mq) : Prop where
  kp : Kp w W ((go, 27, #[.slice q.A q.n q.c, .slice q.P q.m q.d]) :: L)
  own : OwnM W base q
  le : w.heap.size ≤ base
  bw : base ≤ W.heap.size
  tl : ∀ p ∈ L, p.2.1 ≠ 23 ∧ p.1 ≠ go
section
variable {w W W' w5 w6 : World} {base go b5 : Nat} {L : List (Nat × TypeId × Array Value)} {q : Mq}
theorem GrS.step (h : GrS w W base go L q) (hb : Below W.heap.size W W') : GrS w W' base go L q := ⟨h.kp.step hb, h.own.below hb, h.le, Nat.le_trans h.bw hb.size, h.tl⟩
theorem GrS.drewN (h : GrS w W base go L q) (n : Nat) : GrS w (W.drewN n) base go L q := ⟨h.kp.drewN n, h.own.drewN n, h.le, h.bw, h.tl⟩
theorem GrS.alloc (h : GrS w W base go L q) (o : Obj) : GrS w (W.alloc o) base go L q := ⟨h.kp.alloc o, h.own.alloc o, h.le, by have := h.bw; simp; omega, h.tl⟩
theorem GrS.cells (h : GrS w W base go L q) : (W.cell? ⟨go, 0, none⟩ = some (.slice q.A q.n q.c) ∧ W.cell? ⟨go, 1, none⟩ = some (.slice q.P q.m q.d)) ∧ W.frozen? ⟨go, 0, none⟩ = false ∧ W.frozen? ⟨go, 1, none⟩ = false := h.kp.cells2
theorem GrS.new {n5 c5 : Nat} {X : Option Addr} {ps : List Int} (h : GrS w W base go L q) (h5 : Own w5 b5 X n5 c5 ps) (hb : Below W.heap.size W w5) (h5b : W.heap.size ≤ b5) :
    NewN (w5.alloc (.cells #[.slice X n5 c5] 23)) base q.m q.P q.d q.qs (some ⟨w5.heap.size, 0, none⟩) 1 [⟨ps, X, c5⟩] :=
  NewN.lone (h.own.past.below hb) (h5.mono (Nat.le_trans h.bw h5b)) (h.own.past.fresh' (h5.mono h5b))
/-- one list more, and its slice is stored -/
theorem GrS.app {n5 c5 d2 : Nat} {X P2 : Option Addr} {ps : List Int} (h : GrS w W base go L q) (h5 : Own w5 b5 X n5 c5 ps) (hb : Below W.heap.size W w5) (h5b : W.heap.size ≤ b5)
    (hO : OwnN w6 base P2 (q.m + 1) d2 (q.qs ++ [⟨ps, X, c5⟩])) (hg : (w5.alloc (.cells #[.slice X n5 c5] 23)).grownBy w6 (Value.slice q.P q.m q.d).ownBlock) :
    (w6.cell? ⟨go, 1, none⟩ = some (.slice q.P q.m q.d) ∧ w6.frozen? ⟨go, 1, none⟩ = false) ∧ GrS w (w6.setCell ⟨go, 1, none⟩ (.slice P2 (q.m + 1) d2)) base go L ⟨q.A, q.n, q.c, P2, q.m + 1, d2, q.xs, q.qs ++ [⟨ps, X, c5⟩]⟩ := by
  have hx := (h.step hb).alloc (.cells #[.slice X n5 c5] 23)
  have hPb : ∀ g, (Value.slice q.P q.m q.d).ownBlock = some g → base ≤ g ∧ g < w5.heap.size + 1 := fun g e => by have := hx.own.past.block g e; simpa using this
  have hk6 : Kp w w6 ((go, 27, #[.slice q.A q.n q.c, .slice q.P q.m q.d]) :: L) := by
    refine ⟨fun p hp => ⟨(hx.kp.blk p hp).1.grown hg fun e => ?_, (hx.kp.blk p hp).2⟩, hx.kp.below.grown hg hx.kp.below.size fun g e => Nat.le_trans h.le (hPb g e).1⟩
    refine row_ne_blk hx.own.past.row (hx.kp.blk p hp).1 ?_ e.symm
    rcases List.mem_cons.1 hp with rfl | hp
    · exact (show (23 : TypeId) ≠ 27 by decide)
    · exact fun e => (h.tl p hp).1 e.symm
  have hn6 : Own w6 base q.A q.n q.c q.xs := hx.own.now.kept hg fun g e => rows_neN hx.own.past.row hx.own.now.2 (by decide) e
  have hs6 : base ≤ w6.heap.size := Nat.le_trans hx.bw hg.size
  have hbk := hk6.hd
  have hst : w6.grownBy (w6.setCell ⟨go, 1, none⟩ (.slice P2 (q.m + 1) d2)) (some go) := ⟨rfl, rfl, rfl, by simp [World.setCell], fun i hi hne => Below.heap_setCell w6 ⟨go, 1, none⟩ _ i (by rintro rfl; exact hne rfl)⟩
  refine ⟨⟨by rw [hbk.cell]; rfl, hbk.frozen 1⟩, ?_⟩
  refine ⟨hk6.put (fun p hp => (h.tl p hp).2) 1 _, ?_, h.le, by simpa [World.setCell] using hs6, h.tl⟩
  have hm : OwnM w6 base ⟨q.A, q.n, q.c, P2, q.m + 1, d2, q.xs, q.qs ++ [⟨ps, X, c5⟩]⟩ := by
    refine ⟨hn6, hO, fun k r hr g hg' e => ?_⟩
    simp only at hr e
    rcases Nat.lt_or_ge k q.qs.length with hk | hk
    · rw [List.getElem?_append_left hk] at hr
      exact h.own.sep k r hr g hg' e
    · rw [List.getElem?_append_right hk] at hr
      rcases hkk : k - q.qs.length with _ | j
      · rw [hkk] at hr
        simp at hr
        subst hr
        have h1 := (h.own.now.block g e).2
        have h2 := (h5.block g (by rw [← hg', Nq.sl, h5.1])).1
        omega
      · rw [hkk] at hr
        simp at hr
  refine hm.kept hst fun g e => ?_
  injection e with e
  subst e
  exact ⟨row_ne_blk hn6.2 hbk (by decide), row_ne_blk hO.row hbk (by decide), fun k r hr => row_ne_blk (hO.own k r hr).2 hbk (by decide)⟩
/-- .. and is copied into a block of the result -/
theorem GrS.done {G : Nat} {u v : Value} (h : GrS w W base go [(G, 27, #[u, v])] q) :
    Kp w ((W.setCell ⟨G, 0, none⟩ (.slice q.A q.n q.c)).setCell ⟨G, 1, none⟩ (.slice q.P q.m q.d)) [(G, 27, #[.slice q.A q.n q.c, .slice q.P q.m q.d])] ∧
    OwnM ((W.setCell ⟨G, 0, none⟩ (.slice q.A q.n q.c)).setCell ⟨G, 1, none⟩ (.slice q.P q.m q.d)) base q :=
  ⟨h.kp.tl.put2 (by simp) _ _, h.own.kept (grown2 _ _ _ _) fun g e => by
    injection e with e
    subst e
    have hb := h.kp.tl.hd
    exact ⟨row_ne_blk h.own.now.2 hb (by decide), row_ne_blk h.own.past.row hb (by decide), fun k r hr => row_ne_blk (h.own.past.own k r hr).2 hb (by decide)⟩⟩
theorem GrS.appb {B0 : Nat} {o : Obj} (h : GrS w W base go L q) (hb : Below W.heap.size W w5) (hg : (w5.alloc o).grownBy w6 (Value.slice q.P q.m q.d).ownBlock) (h0 : B0 ≤ base) (h1 : B0 ≤ go) (v : Value) : Below B0 W (w6.setCell ⟨go, 1, none⟩ v) := by
  have hs : B0 ≤ W.heap.size := Nat.le_trans h0 h.bw
  have h5 : Below B0 W w5 := hb.mono hs
  have hs5 : B0 ≤ w5.heap.size := Nat.le_trans hs hb.size
  have hs6 : B0 ≤ (w5.alloc o).heap.size := by simp; omega
  have h6 : Below B0 W w6 := (h5.alloc hs5 o).grown hg hs6 fun g e => Nat.le_trans h0 (h.own.past.block g e).1
  exact h6.grown (w' := w6.setCell ⟨go, 1, none⟩ v) (row := some go) ⟨rfl, rfl, rfl, by simp [World.setCell], fun i hi hne => Below.heap_setCell w6 ⟨go, 1, none⟩ _ i (by rintro rfl; exact hne rfl)⟩ (Nat.le_trans hs6 hg.size) fun g e => by injection e with e; omega
theorem grown_undrew {a w' : World} {row : Option Nat} (h : a.drew.grownBy w' row) : a.grownBy w' row := ⟨h.os, h.tape, h.output, h.size, h.block⟩
end
theorem vsN_snoc (qs : List Nq) (ps : List Int) (X : Option Addr) (c : Nat) : vsN (qs ++ [⟨ps, X, c⟩]) = vsN qs ++ [ps] := by rw [vsN_append]; rfl
end Go.Proofs.Ytiopbgenkalfaaa
