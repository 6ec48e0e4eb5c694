/-
  What the walks of the exact laws on stores keep: the argument and a list of integers, the model's result, the copies that were handed over, the program's result.
-/
import Derived.Test.YtblainmjmdbanaaExMO
import Derived.Test.YtblainmjmdbanaaSpecO4
namespace Go.Proofs.Ytblainmjmdbanaa
open Go.RowKit
set_option linter.unusedVariables false
set_option maxRecDepth 100000

theorem row_same {w w' : World} {base s n : Nat} {t : TypeId} {v : Value} {xs : List Value} (h : w.ownsRow base t s v n xs) (hs : ∀ b, v.ownBlock = some b → w'.heap[b]? = w.heap[b]?) : w'.ownsRow base t s v n xs :=
  ⟨h.1, by
    rcases h.2 with h0 | ⟨g, cap, cur, hv, hb, hh, r⟩
    · exact .inl h0
    · exact .inr ⟨g, cap, cur, hv, hb, (hs g (by rw [hv]; rfl)).trans hh, r⟩⟩
theorem OwnO.above {w w' : World} {base lo hi n c : Nat} {A : Option Addr} {qs : List Oq} (h : OwnO w base A n c qs) (hc : Chg lo hi w w') (hb : hi ≤ base) : OwnO w' base A n c qs :=
  ⟨h.len, row_same h.row fun b e => hc.above b (by have := (h.block b e).1; omega) (h.block b e).2,
    fun k q hk => ⟨(h.own k q hk).1, row_same (h.own k q hk).2 fun b e => hc.above b (by have := (h.wblock hk b e).1; omega) (h.wblock hk b e).2⟩, h.sep⟩

theorem Own.above {w w' : World} {base lo hi n c : Nat} {A : Option Addr} {xs : List Int} (h : Own w base A n c xs) (hc : Chg lo hi w w') (hb : hi ≤ base) : Own w' base A n c xs :=
  ⟨h.1, row_same h.2 fun b e => hc.above b (by have := (h.block b e).1; omega) (h.block b e).2⟩

structure OW (w W : World) (B1 B4 B6 B5 : Nat) (A : Option Addr) (n : Nat) (qs : List Oq) (X : Option Addr) (m : Nat) (ws : List Int) (A1 : Option Addr) (m1 : Nat) (rs : List Oq) (A4 : Option Addr) (n4 c4 : Nat) (ys : List Oq)
    (A6 : Option Addr) (c6 : Nat) (A5 : Option Addr) (n5 c5 : Nat) (gs : List Oq) : Prop where
  i : Objs W w.heap.size A n qs
  i2 : Ints W w.heap.size X m ws
  w1 : Objs W B1 A1 m1 rs
  o4 : OwnO W B4 A4 n4 c4 ys
  l4 : Lim A4 n4 c4 ys B6
  o6 : Own W B6 A6 m c6 ws
  l6 : ∀ b, (Value.slice A6 m c6).ownBlock = some b → b < B5
  g5 : OwnO W B5 A5 n5 c5 gs
  b : Below w.heap.size w W
  le0 : w.heap.size ≤ B1
  le1 : B1 ≤ B4
  le2 : B4 ≤ B6
  le6 : B6 ≤ B5
  le3 : B5 ≤ W.heap.size
structure OV (w W : World) (B1 B6 B5 : Nat) (A : Option Addr) (n : Nat) (qs : List Oq) (X : Option Addr) (m : Nat) (ws : List Int) (A1 : Option Addr) (m1 : Nat) (rs : List Oq)
    (A6 : Option Addr) (c6 : Nat) (A5 : Option Addr) (n5 c5 : Nat) (gs : List Oq) : Prop where
  i : Objs W w.heap.size A n qs
  i2 : Ints W w.heap.size X m ws
  w1 : Objs W B1 A1 m1 rs
  o6 : Own W B6 A6 m c6 ws
  l6 : ∀ b, (Value.slice A6 m c6).ownBlock = some b → b < B5
  g5 : OwnO W B5 A5 n5 c5 gs
  b : Below w.heap.size w W
  le0 : w.heap.size ≤ B1
  le2 : B1 ≤ B6
  le6 : B6 ≤ B5
  le3 : B5 ≤ W.heap.size
structure OU (w W : World) (B1 B5 : Nat) (A : Option Addr) (n : Nat) (qs : List Oq) (X : Option Addr) (m : Nat) (ws : List Int) (A1 : Option Addr) (m1 : Nat) (rs : List Oq) (A5 : Option Addr) (n5 c5 : Nat) (gs : List Oq) : Prop where
  i : Objs W w.heap.size A n qs
  i2 : Ints W w.heap.size X m ws
  w1 : Objs W B1 A1 m1 rs
  g5 : OwnO W B5 A5 n5 c5 gs
  b : Below w.heap.size w W
  le0 : w.heap.size ≤ B1
  le2 : B1 ≤ B5
  le3 : B5 ≤ W.heap.size
section
variable {w W W' : World} {B1 B4 B5 B6 n m m1 n4 c4 n5 c5 c6 : Nat} {A A1 A4 A5 A6 X : Option Addr} {qs rs ys gs : List Oq} {ws : List Int}
theorem OW.below (h : OW w W B1 B4 B6 B5 A n qs X m ws A1 m1 rs A4 n4 c4 ys A6 c6 A5 n5 c5 gs) (hb : Below W.heap.size W W') : OW w W' B1 B4 B6 B5 A n qs X m ws A1 m1 rs A4 n4 c4 ys A6 c6 A5 n5 c5 gs :=
  { i := h.i.below hb h.b.size, i2 := h.i2.below hb h.b.size, w1 := h.w1.below hb (by have := h.le1; have := h.le2; have := h.le6; have := h.le3; omega), o4 := h.o4.below hb, l4 := h.l4, o6 := h.o6.below hb, l6 := h.l6, g5 := h.g5.below hb, b := h.b.trans (hb.mono h.b.size)
    le0 := h.le0, le1 := h.le1, le2 := h.le2, le6 := h.le6, le3 := Nat.le_trans h.le3 hb.size }
theorem OW.mark4 (h : OW w W B1 B4 B6 B5 A n qs X m ws A1 m1 rs A4 n4 c4 ys A6 c6 A5 n5 c5 gs) (hc : Chg B4 B6 W W') : OV w W' B1 B6 B5 A n qs X m ws A1 m1 rs A6 c6 A5 n5 c5 gs :=
  { i := h.i.below hc.below (by have := h.le0; have := h.le1; omega), i2 := h.i2.below hc.below (by have := h.le0; have := h.le1; omega), w1 := h.w1.below hc.below h.le1, o6 := h.o6.above hc (Nat.le_refl _), l6 := h.l6
    g5 := h.g5.above hc h.le6, b := h.b.trans (hc.below.mono (by have := h.le0; have := h.le1; omega))
    le0 := h.le0, le2 := Nat.le_trans h.le1 h.le2, le6 := h.le6, le3 := Nat.le_trans h.le3 hc.below.size }
theorem OV.mark6 (h : OV w W B1 B6 B5 A n qs X m ws A1 m1 rs A6 c6 A5 n5 c5 gs) (hg : W.grownBy W' (Value.slice A6 m c6).ownBlock) : OU w W' B1 B5 A n qs X m ws A1 m1 rs A5 n5 c5 gs := by
  have h0 := h.le0
  have h2 := h.le2
  have h6 := h.le6
  have h3 := h.le3
  have hr : ∀ b, (Value.slice A6 m c6).ownBlock = some b → B6 ≤ b ∧ b < B5 := fun b e => ⟨(h.o6.block b e).1, h.l6 b e⟩
  exact
  { i := h.i.grown hg (by omega) (fun b e => by have := hr b e; omega), i2 := h.i2.grown hg (by omega) (fun b e => by have := hr b e; omega), w1 := h.w1.grown hg (by omega) (fun b e => by have := hr b e; omega)
    g5 := h.g5.kept hg (fun b e => ⟨fun e2 => by have := hr b e; have := (h.g5.block b e2).1; omega, fun k q hk e2 => by have := hr b e; have := (h.g5.wblock hk b e2).1; omega⟩)
    b := h.b.grown hg (by omega) (fun b e => by have := hr b e; omega), le0 := h0, le2 := by omega, le3 := Nat.le_trans h3 hg.size }
theorem OU.below (h : OU w W B1 B5 A n qs X m ws A1 m1 rs A5 n5 c5 gs) (hb : Below W.heap.size W W') : OU w W' B1 B5 A n qs X m ws A1 m1 rs A5 n5 c5 gs :=
  { i := h.i.below hb h.b.size, i2 := h.i2.below hb h.b.size, w1 := h.w1.below hb (by have := h.le2; have := h.le3; omega), g5 := h.g5.below hb, b := h.b.trans (hb.mono h.b.size)
    le0 := h.le0, le2 := h.le2, le3 := Nat.le_trans h.le3 hb.size }
theorem OU.mark5 {gs' : List Oq} {hi : Nat} (h : OU w W B1 B5 A n qs X m ws A1 m1 rs A5 n5 c5 gs) (ho : OwnO W' B5 A5 n5 c5 gs') (hc : Chg B5 hi W W') : OU w W' B1 B5 A n qs X m ws A1 m1 rs A5 n5 c5 gs' :=
  { i := h.i.below hc.below (by have := h.le0; have := h.le2; omega), i2 := h.i2.below hc.below (by have := h.le0; have := h.le2; omega), w1 := h.w1.below hc.below h.le2, g5 := ho, b := h.b.trans (hc.below.mono (by have := h.le0; have := h.le2; omega))
    le0 := h.le0, le2 := h.le2, le3 := Nat.le_trans h.le3 hc.below.size }
end

/-- A store of no more than 2^20 objects, each with no more than 2^20 values. -/
def SmallO (ds : Sto) : Prop := ds.length ≤ 1048576 ∧ ∀ z ∈ ds, z.2.length ≤ 1048576
theorem small_nil : SmallO [] := ⟨by simp, by simp⟩
theorem small_obs {qs : List Oq} (h1 : qs.length ≤ 1048576) (h : ∀ q ∈ qs, q.vals.length ≤ 1048576) : SmallO (obs qs) := by
  refine ⟨by unfold obs; rw [List.length_map]; exact h1, fun z hz => ?_⟩
  unfold obs at hz
  obtain ⟨q, hq, rfl⟩ := List.mem_map.1 hz
  exact h q hq
theorem SmallO.words {qs : List Oq} (h : SmallO (obs qs)) : ∀ q ∈ qs, q.vals.length ≤ 1048576 := fun q hq => h.2 q.ob (List.mem_map_of_mem hq)
theorem SmallO.len {qs : List Oq} (h : SmallO (obs qs)) : qs.length ≤ 1048576 := by have := h.1; unfold obs at this; rwa [List.length_map] at this

theorem small_put {s : Sto} (h : SmallO s) (id : Int) {vs : List Int} (hv : vs.length ≤ 1048576) : SmallO (putS s id vs) := by
  rcases putN_cases s id vs with ⟨h1, h2, h3⟩ | ⟨h1, h0, h2, h3⟩ | ⟨h1, h0, h4, h2, h3⟩ | ⟨h1, h0, h4, h2, h3⟩
  · rw [h3]; exact small_nil
  · rw [h3]; exact h
  · rw [h3]; exact h
  · rw [h3]
    refine ⟨by rw [insS_length]; omega, fun o ho => ?_⟩
    rcases insS_mem.1 ho with rfl | ho
    · exact hv
    · exact h.2 o ho
theorem small_keep {s : Sto} (h : SmallO s) (ids : List Int) : SmallO (keepS s ids) := by
  unfold keepS
  split
  · exact ⟨Nat.le_trans (List.length_filter_le _ _) h.1, fun o ho => h.2 o (List.mem_filter.1 ho).1⟩
  · exact small_nil
end Go.Proofs.Ytblainmjmdbanaa
