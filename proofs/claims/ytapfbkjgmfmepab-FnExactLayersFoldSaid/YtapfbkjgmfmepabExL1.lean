/-
  What the walks of the exact laws on layers keep: the argument and a layer, the model's result, the copies that were handed over, the program's result.
-/
import Derived.Test.YtapfbkjgmfmepabExML
namespace Go.Proofs.Ytapfbkjgmfmepab
open Go.RowKit
set_option linter.unusedVariables false
set_option maxRecDepth 100000

theorem row_same_ExL1 {w w' : World} {base s n : Nat} {t : TypeId} {v : Value} {xs : List Value} (h : w.ownsRow base t s v n xs) (hs : ∀ b, v.ownBlock = some b → w'.heap[b]? = w.heap[b]?) : w'.ownsRow base t s v n xs :=
  ⟨h.1, by
    rcases h.2 with h0 | ⟨g, cap, cur, hv, hb, hh, r⟩
    · exact .inl h0
    · exact .inr ⟨g, cap, cur, hv, hb, (hs g (by rw [hv]; rfl)).trans hh, r⟩⟩
theorem OwnL.above_ {w w' : World} {base lo hi n c : Nat} {A : Option Addr} {qs : List Lq} (h : OwnL w base A n c qs) (hc : Chg_ExML lo hi w w') (hb : hi ≤ base) : OwnL w' base A n c qs :=
  ⟨h.len, row_same_ExL1 h.row fun b e => hc.above b (by have := (h.block b e).1; omega) (h.block b e).2,
    fun k q hk => ⟨(h.own k q hk).1, (h.own k q hk).2.1, row_same_ExL1 (h.own k q hk).2.2 fun b e => hc.above b (by have := (h.wblock hk b e).1; omega) (h.wblock hk b e).2⟩, h.sep⟩
theorem PrR.above_ {w w' : World} {base lo hi n c : Nat} {A : Option Addr} {ps : Ly} (h : PrR w base A n c ps) (hc : Chg_ExML lo hi w w') (hb : hi ≤ base) : PrR w' base A n c ps :=
  ⟨h.1, h.2.1, row_same_ExL1 h.2.2 fun b e => hc.above b (by have := (h.block b e).1; omega) (h.block b e).2⟩
theorem Own.aboveL_ {w w' : World} {base lo hi n c : Nat} {A : Option Addr} {xs : List Int} (h : Own w base A n c xs) (hc : Chg_ExML lo hi w w') (hb : hi ≤ base) : Own w' base A n c xs :=
  ⟨h.1, row_same_ExL1 h.2 fun b e => hc.above b (by have := (h.block b e).1; omega) (h.block b e).2⟩

structure LW (w W : World) (B1 B4 B6 B5 : Nat) (A : Option Addr) (n : Nat) (qs : List Lq) (X : Option Addr) (m : Nat) (ws : Ly) (A1 : Option Addr) (m1 : Nat) (rs : List Lq) (A4 : Option Addr) (n4 c4 : Nat) (ys : List Lq)
    (A6 : Option Addr) (c6 : Nat) (A5 : Option Addr) (n5 c5 : Nat) (gs : List Lq) : Prop where
  i : LyI W w.heap.size A n qs
  i2 : PrI W w.heap.size X m ws
  w1 : LyI W B1 A1 m1 rs
  o4 : OwnL W B4 A4 n4 c4 ys
  l4 : Lim_ExML A4 n4 c4 ys B6
  o6 : PrR W B6 A6 m c6 ws
  l6 : ∀ b, (Value.slice A6 m c6).ownBlock = some b → b < B5
  g5 : OwnL W B5 A5 n5 c5 gs
  b : Below w.heap.size w W
  le0 : w.heap.size ≤ B1
  le1 : B1 ≤ B4
  le2 : B4 ≤ B6
  le6 : B6 ≤ B5
  le3 : B5 ≤ W.heap.size
structure LV (w W : World) (B1 B6 B5 : Nat) (A : Option Addr) (n : Nat) (qs : List Lq) (X : Option Addr) (m : Nat) (ws : Ly) (A1 : Option Addr) (m1 : Nat) (rs : List Lq)
    (A6 : Option Addr) (c6 : Nat) (A5 : Option Addr) (n5 c5 : Nat) (gs : List Lq) : Prop where
  i : LyI W w.heap.size A n qs
  i2 : PrI W w.heap.size X m ws
  w1 : LyI W B1 A1 m1 rs
  o6 : PrR W B6 A6 m c6 ws
  l6 : ∀ b, (Value.slice A6 m c6).ownBlock = some b → b < B5
  g5 : OwnL W B5 A5 n5 c5 gs
  b : Below w.heap.size w W
  le0 : w.heap.size ≤ B1
  le2 : B1 ≤ B6
  le6 : B6 ≤ B5
  le3 : B5 ≤ W.heap.size
structure LU (w W : World) (B1 B5 : Nat) (A : Option Addr) (n : Nat) (qs : List Lq) (X : Option Addr) (m : Nat) (ws : Ly) (A1 : Option Addr) (m1 : Nat) (rs : List Lq) (A5 : Option Addr) (n5 c5 : Nat) (gs : List Lq) : Prop where
  i : LyI W w.heap.size A n qs
  i2 : PrI W w.heap.size X m ws
  w1 : LyI W B1 A1 m1 rs
  g5 : OwnL W B5 A5 n5 c5 gs
  b : Below w.heap.size w W
  le0 : w.heap.size ≤ B1
  le2 : B1 ≤ B5
  le3 : B5 ≤ W.heap.size
section
variable {w W W' : World} {B1 B4 B5 B6 n m m1 n4 c4 n5 c5 c6 : Nat} {A A1 A4 A5 A6 X : Option Addr} {qs rs ys gs : List Lq} {ws : Ly}
theorem LW.below (h : LW w W B1 B4 B6 B5 A n qs X m ws A1 m1 rs A4 n4 c4 ys A6 c6 A5 n5 c5 gs) (hb : Below W.heap.size W W') : LW w W' B1 B4 B6 B5 A n qs X m ws A1 m1 rs A4 n4 c4 ys A6 c6 A5 n5 c5 gs :=
  { i := h.i.below hb h.b.size, i2 := h.i2.below hb h.b.size, w1 := h.w1.below hb (by have := h.le1; have := h.le2; have := h.le6; have := h.le3; omega), o4 := h.o4.below hb, l4 := h.l4, o6 := h.o6.below hb, l6 := h.l6, g5 := h.g5.below hb, b := h.b.trans (hb.mono h.b.size)
    le0 := h.le0, le1 := h.le1, le2 := h.le2, le6 := h.le6, le3 := Nat.le_trans h.le3 hb.size }
theorem LW.mark4 (h : LW w W B1 B4 B6 B5 A n qs X m ws A1 m1 rs A4 n4 c4 ys A6 c6 A5 n5 c5 gs) (hc : Chg_ExML B4 B6 W W') : LV w W' B1 B6 B5 A n qs X m ws A1 m1 rs A6 c6 A5 n5 c5 gs :=
  { i := h.i.below hc.below (by have := h.le0; have := h.le1; omega), i2 := h.i2.below hc.below (by have := h.le0; have := h.le1; omega), w1 := h.w1.below hc.below h.le1, o6 := h.o6.above_ hc (Nat.le_refl _), l6 := h.l6
    g5 := h.g5.above_ hc h.le6, b := h.b.trans (hc.below.mono (by have := h.le0; have := h.le1; omega))
    le0 := h.le0, le2 := Nat.le_trans h.le1 h.le2, le6 := h.le6, le3 := Nat.le_trans h.le3 hc.below.size }
theorem LV.toU (h : LV w W B1 B6 B5 A n qs X m ws A1 m1 rs A6 c6 A5 n5 c5 gs) : LU w W B1 B5 A n qs X m ws A1 m1 rs A5 n5 c5 gs :=
  { i := h.i, i2 := h.i2, w1 := h.w1, g5 := h.g5, b := h.b, le0 := h.le0, le2 := Nat.le_trans h.le2 h.le6, le3 := h.le3 }
theorem LV.mark6 (h : LV w W B1 B6 B5 A n qs X m ws A1 m1 rs A6 c6 A5 n5 c5 gs) (hg : W.grownBy W' (Value.slice A6 m c6).ownBlock) : LU w W' B1 B5 A n qs X m ws A1 m1 rs A5 n5 c5 gs := by
  have h0 := h.le0
  have h2 := h.le2
  have h6 := h.le6
  have h3 := h.le3
  have hr : ∀ b, (Value.slice A6 m c6).ownBlock = some b → B6 ≤ b ∧ b < B5 := fun b e => ⟨(h.o6.block b e).1, h.l6 b e⟩
  exact
  { i := h.i.grown hg (by omega) (fun b e => by have := hr b e; omega), i2 := h.i2.grown hg (by omega) (fun b e => by have := hr b e; omega), w1 := h.w1.grown hg (by omega) (fun b e => by have := hr b e; omega)
    g5 := h.g5.kept hg (fun b e => ⟨fun e2 => by have := hr b e; have := (h.g5.block b e2).1; omega, fun k q hk e2 => by have := hr b e; have := (h.g5.wblock hk b e2).1; omega⟩)
    b := h.b.grown hg (by omega) (fun b e => by have := hr b e; omega), le0 := h0, le2 := by omega, le3 := Nat.le_trans h3 hg.size }
theorem LU.below (h : LU w W B1 B5 A n qs X m ws A1 m1 rs A5 n5 c5 gs) (hb : Below W.heap.size W W') : LU w W' B1 B5 A n qs X m ws A1 m1 rs A5 n5 c5 gs :=
  { i := h.i.below hb h.b.size, i2 := h.i2.below hb h.b.size, w1 := h.w1.below hb (by have := h.le2; have := h.le3; omega), g5 := h.g5.below hb, b := h.b.trans (hb.mono h.b.size)
    le0 := h.le0, le2 := h.le2, le3 := Nat.le_trans h.le3 hb.size }
theorem LU.mark5 {gs' : List Lq} {hi : Nat} (h : LU w W B1 B5 A n qs X m ws A1 m1 rs A5 n5 c5 gs) (ho : OwnL W' B5 A5 n5 c5 gs') (hc : Chg_ExML B5 hi W W') : LU w W' B1 B5 A n qs X m ws A1 m1 rs A5 n5 c5 gs' :=
  { i := h.i.below hc.below (by have := h.le0; have := h.le2; omega), i2 := h.i2.below hc.below (by have := h.le0; have := h.le2; omega), w1 := h.w1.below hc.below h.le2, g5 := ho, b := h.b.trans (hc.below.mono (by have := h.le0; have := h.le2; omega))
    le0 := h.le0, le2 := h.le2, le3 := Nat.le_trans h.le3 hc.below.size }
end

/-! where the result is a list of integers -/
structure KW (w W : World) (B1 B4 B5 : Nat) (A : Option Addr) (n : Nat) (qs : List Lq) (A1 : Option Addr) (m1 : Nat) (rs : List Int) (A4 : Option Addr) (n4 c4 : Nat) (ys : List Lq) (A5 : Option Addr) (n5 c5 : Nat) (gs : List Int) : Prop where
  i : LyI W w.heap.size A n qs
  w1 : Ints W B1 A1 m1 rs
  o4 : OwnL W B4 A4 n4 c4 ys
  l4 : Lim_ExML A4 n4 c4 ys B5
  g5 : Own W B5 A5 n5 c5 gs
  b : Below w.heap.size w W
  le0 : w.heap.size ≤ B1
  le1 : B1 ≤ B4
  le2 : B4 ≤ B5
  le3 : B5 ≤ W.heap.size
structure KU (w W : World) (B1 B5 : Nat) (A : Option Addr) (n : Nat) (qs : List Lq) (A1 : Option Addr) (m1 : Nat) (rs : List Int) (A5 : Option Addr) (n5 c5 : Nat) (gs : List Int) : Prop where
  i : LyI W w.heap.size A n qs
  w1 : Ints W B1 A1 m1 rs
  g5 : Own W B5 A5 n5 c5 gs
  b : Below w.heap.size w W
  le0 : w.heap.size ≤ B1
  le2 : B1 ≤ B5
  le3 : B5 ≤ W.heap.size
section
variable {w W W' : World} {B1 B4 B5 n m1 n4 c4 n5 c5 : Nat} {A A1 A4 A5 : Option Addr} {qs ys : List Lq} {rs gs : List Int}
theorem KW.below (h : KW w W B1 B4 B5 A n qs A1 m1 rs A4 n4 c4 ys A5 n5 c5 gs) (hb : Below W.heap.size W W') : KW w W' B1 B4 B5 A n qs A1 m1 rs A4 n4 c4 ys A5 n5 c5 gs :=
  { i := h.i.below hb h.b.size, w1 := h.w1.below hb (by have := h.le1; have := h.le2; have := h.le3; omega), o4 := h.o4.below hb, l4 := h.l4, g5 := h.g5.below hb, b := h.b.trans (hb.mono h.b.size)
    le0 := h.le0, le1 := h.le1, le2 := h.le2, le3 := Nat.le_trans h.le3 hb.size }
theorem KW.mark4 (h : KW w W B1 B4 B5 A n qs A1 m1 rs A4 n4 c4 ys A5 n5 c5 gs) (hc : Chg_ExML B4 B5 W W') : KU w W' B1 B5 A n qs A1 m1 rs A5 n5 c5 gs :=
  { i := h.i.below hc.below (by have := h.le0; have := h.le1; omega), w1 := h.w1.below hc.below h.le1
    g5 := h.g5.aboveL_ hc (Nat.le_refl _), b := h.b.trans (hc.below.mono (by have := h.le0; have := h.le1; omega))
    le0 := h.le0, le2 := Nat.le_trans h.le1 h.le2, le3 := Nat.le_trans h.le3 hc.below.size }
theorem KU.below (h : KU w W B1 B5 A n qs A1 m1 rs A5 n5 c5 gs) (hb : Below W.heap.size W W') : KU w W' B1 B5 A n qs A1 m1 rs A5 n5 c5 gs :=
  { i := h.i.below hb h.b.size, w1 := h.w1.below hb (by have := h.le2; have := h.le3; omega), g5 := h.g5.below hb, b := h.b.trans (hb.mono h.b.size)
    le0 := h.le0, le2 := h.le2, le3 := Nat.le_trans h.le3 hb.size }
theorem KU.mark5 {gs' : List Int} (h : KU w W B1 B5 A n qs A1 m1 rs A5 n5 c5 gs) (ho : Own W' B5 A5 n5 c5 gs') (hg : W.grownBy W' (Value.slice A5 n5 c5).ownBlock) : KU w W' B1 B5 A n qs A1 m1 rs A5 n5 c5 gs' := by
  have h0 := h.le0
  have h2 := h.le2
  have h3 := h.le3
  have hr : ∀ b, (Value.slice A5 n5 c5).ownBlock = some b → B5 ≤ b := fun b e => (h.g5.block b e).1
  exact
  { i := h.i.grown hg (by omega) (fun b e => by have := hr b e; omega), w1 := h.w1.grown hg (by omega) (fun b e => by have := hr b e; omega), g5 := ho
    b := h.b.grown hg (by omega) (fun b e => by have := hr b e; omega), le0 := h0, le2 := h2, le3 := Nat.le_trans h3 hg.size }
end

/-- No more than ten layers, each with no more than twelve pairs. -/
def SmallL (ls : List Ly) : Prop := ls.length ≤ 10 ∧ ∀ p ∈ ls, p.length ≤ 12
theorem small_nilL : SmallL [] := ⟨by simp, by simp⟩
theorem SmallL.words {qs : List Lq} (h : SmallL (lys qs)) : ∀ q ∈ qs, q.ps.length ≤ 1000000000 := fun q hq => Nat.le_trans (h.2 q.ps (List.mem_map_of_mem hq)) (by decide)
theorem SmallL.len {qs : List Lq} (h : SmallL (lys qs)) : qs.length ≤ 10 := by have := h.1; rwa [lys_length] at this
theorem SmallL.mv {qs : List Lq} (h : SmallL (lys qs)) : mvL 1 qs ≤ 1000000000 := by
  have key : ∀ (rs : List Lq) (v : Int), (∀ q ∈ rs, q.ps.length ≤ 12) → mvL v rs ≤ v + 24 * (rs.length : Int) := by
    intro rs
    induction rs with
    | nil => intro v _; simp [mvL]
    | cons r rs ih =>
      intro v hv
      have h1 := ih (v + ((r.ps.length * 2 : Nat) : Int)) fun q hq => hv q (by simp [hq])
      have h2 := hv r (by simp)
      simp only [mvL, List.length_cons]
      omega
  have h1 := key qs 1 fun q hq => h.2 q.ps (List.mem_map_of_mem hq)
  have h2 := h.len
  omega
theorem layV_mem12 {ls : List Ly} (h : laysV ls = true) : ∀ p ∈ ls, p.length ≤ 12 := fun p hp => layV_len ((laysV_iff.1 h).1 p hp)
theorem small_wrL (ls : List Ly) (ps : Ly) : SmallL (wrL ls ps) := by
  unfold wrL
  split
  · rename_i h
    unfold wrV at h
    rw [Bool.and_eq_true] at h
    have h5 := (laysV_iff.1 h.1).2.2
    refine ⟨by simp only [List.length_append, List.length_take, List.length_cons, List.length_nil]; omega, fun p hp => ?_⟩
    rcases List.mem_append.1 hp with hp | hp
    · exact layV_mem12 h.1 p (List.mem_of_mem_take hp)
    · simp only [List.mem_singleton] at hp
      rw [hp]
      exact layV_len (overL_valid (laysV_getD h.1 _) h.2)
  · exact small_nilL
theorem small_snL (ls : List Ly) : SmallL (snL ls) := by
  unfold snL
  split
  · rename_i h
    unfold snV at h
    rw [Bool.and_eq_true] at h
    have h5 := (laysV_iff.1 h.1).2.2
    refine ⟨by simp only [List.length_append, List.length_cons, List.length_nil]; omega, fun p hp => ?_⟩
    rcases List.mem_append.1 hp with hp | hp
    · exact layV_mem12 h.1 p hp
    · simp only [List.mem_singleton] at hp
      rw [hp]; simp
  · exact small_nilL
theorem small_foL (ls : List Ly) (a : Int) : SmallL (foL ls a) := by
  unfold foL
  split
  · rename_i h
    unfold foV at h
    rw [Bool.and_eq_true] at h
    have h5 := (laysV_iff.1 h.1).2.2
    refine ⟨by simp only [List.length_append, List.length_take, List.length_drop, List.length_cons, List.length_nil]; omega, fun p hp => ?_⟩
    rcases List.mem_append.1 hp with hp | hp
    · rcases List.mem_append.1 hp with hp | hp
      · exact layV_mem12 h.1 p (List.mem_of_mem_take hp)
      · simp only [List.mem_singleton] at hp
        rw [hp]
        exact layV_len (overL_valid (laysV_getD h.1 _) (laysV_getD h.1 _))
    · exact layV_mem12 h.1 p (List.mem_of_mem_drop hp)
  · exact small_nilL
theorem dfL_le (ls : List Ly) (a b : Int) : (dfL ls a b).length ≤ 12 := by
  unfold dfL
  split
  · exact diffN_le _ _ _ _
  · simp

/-- what the count says of the argument -/
theorem szL_words {qs : List Lq} {l : Int} (h0 : 0 ≤ l) (h : mvL 1 qs + 2 * l ≤ 2097153) : ∀ q ∈ qs, q.ps.length ≤ 1000000000 := fun q hq => by
  have := mvL_mem 1 qs q hq
  omega
theorem words_lys {qs rs : List Lq} (h : lys rs = lys qs) (hl : ∀ q ∈ qs, q.ps.length ≤ 1000000000) : ∀ q ∈ rs, q.ps.length ≤ 1000000000 := by
  intro q hq
  have h1 : q.ps ∈ lys qs := by rw [← h]; exact List.mem_map_of_mem hq
  obtain ⟨r, hr, e⟩ := List.mem_map.1 h1
  rw [← e]
  exact hl r hr
theorem lys_len {qs rs : List Lq} (h : lys qs = lys rs) : qs.length = rs.length := by rw [← lys_length, h, lys_length]
end Go.Proofs.Ytapfbkjgmfmepab
