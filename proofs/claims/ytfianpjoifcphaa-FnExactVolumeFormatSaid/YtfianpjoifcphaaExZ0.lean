/-
  What the walks of the exact laws on devices keep: the argument, the model's result, the copy that was handed over, the program's result.
-/
import Derived.Test.YtfianpjoifcphaaExMZ
import Derived.Test.YtfianpjoifcphaaSpecZ5
import Derived.Test.YtfianpjoifcphaaSpecZ6
namespace Go.Proofs.Ytfianpjoifcphaa
open Go.RowKit
set_option linter.unusedVariables false
set_option maxRecDepth 100000

theorem row_same {w w' : World} {base s n : Nat} {t : TypeId} {v : Value} {xs : List Value} (h : w.ownsRow base t s v n xs) (hs : ∀ b, v.ownBlock = some b → w'.heap[b]? = w.heap[b]?) : w'.ownsRow base t s v n xs :=
  ⟨h.1, by
    rcases h.2 with h0 | ⟨g, cap, cur, hv, hb, hh, r⟩
    · exact .inl h0
    · exact .inr ⟨g, cap, cur, hv, hb, (hs g (by rw [hv]; rfl)).trans hh, r⟩⟩
theorem OwnZ.above {w w' : World} {base lo hi n c : Nat} {A : Option Addr} {qs : List Zq} (h : OwnZ w base A n c qs) (hc : Chg lo hi w w') (hb : hi ≤ base) : OwnZ w' base A n c qs :=
  ⟨h.len, row_same h.row fun b e => hc.above b (by have := (h.block b e).1; omega) (h.block b e).2,
    fun k q hk => ⟨(h.own k q hk).1, row_same (h.own k q hk).2 fun b e => hc.above b (by have := (h.wblock hk b e).1; omega) (h.wblock hk b e).2⟩, h.sep⟩

structure ZZ (w W : World) (B1 B4 B5 : Nat) (A : Option Addr) (n : Nat) (qs : List Zq) (A1 : Option Addr) (m1 : Nat) (rs : List Zq) (A4 : Option Addr) (n4 c4 : Nat) (ys : List Zq) (A5 : Option Addr) (n5 c5 : Nat) (gs : List Zq) : Prop where
  i : Zns W w.heap.size A n qs
  w1 : Zns W B1 A1 m1 rs
  o4 : OwnZ W B4 A4 n4 c4 ys
  l4 : Lim A4 n4 c4 ys B5
  g5 : OwnZ W B5 A5 n5 c5 gs
  b : Below w.heap.size w W
  le0 : w.heap.size ≤ B1
  le1 : B1 ≤ B4
  le2 : B4 ≤ B5
  le3 : B5 ≤ W.heap.size
structure ZY (w W : World) (B1 B5 : Nat) (A : Option Addr) (n : Nat) (qs : List Zq) (A1 : Option Addr) (m1 : Nat) (rs : List Zq) (A5 : Option Addr) (n5 c5 : Nat) (gs : List Zq) : Prop where
  i : Zns W w.heap.size A n qs
  w1 : Zns W B1 A1 m1 rs
  g5 : OwnZ W B5 A5 n5 c5 gs
  b : Below w.heap.size w W
  le0 : w.heap.size ≤ B1
  le2 : B1 ≤ B5
  le3 : B5 ≤ W.heap.size
section
variable {w W W' : World} {B1 B4 B5 n m1 n4 c4 n5 c5 : Nat} {A A1 A4 A5 : Option Addr} {qs rs ys gs : List Zq}
theorem ZZ.below (h : ZZ w W B1 B4 B5 A n qs A1 m1 rs A4 n4 c4 ys A5 n5 c5 gs) (hb : Below W.heap.size W W') : ZZ w W' B1 B4 B5 A n qs A1 m1 rs A4 n4 c4 ys A5 n5 c5 gs :=
  { i := h.i.below hb h.b.size, w1 := h.w1.below hb (by have := h.le1; have := h.le2; have := h.le3; omega), o4 := h.o4.below hb, l4 := h.l4, g5 := h.g5.below hb, b := h.b.trans (hb.mono h.b.size)
    le0 := h.le0, le1 := h.le1, le2 := h.le2, le3 := Nat.le_trans h.le3 hb.size }
theorem ZZ.mark4 (h : ZZ w W B1 B4 B5 A n qs A1 m1 rs A4 n4 c4 ys A5 n5 c5 gs) (hc : Chg B4 B5 W W') : ZY w W' B1 B5 A n qs A1 m1 rs A5 n5 c5 gs :=
  { i := h.i.below hc.below (by have := h.le0; have := h.le1; omega), w1 := h.w1.below hc.below h.le1, g5 := h.g5.above hc (Nat.le_refl _), b := h.b.trans (hc.below.mono (by have := h.le0; have := h.le1; omega))
    le0 := h.le0, le2 := Nat.le_trans h.le1 h.le2, le3 := Nat.le_trans h.le3 hc.below.size }
theorem ZY.below (h : ZY w W B1 B5 A n qs A1 m1 rs A5 n5 c5 gs) (hb : Below W.heap.size W W') : ZY w W' B1 B5 A n qs A1 m1 rs A5 n5 c5 gs :=
  { i := h.i.below hb h.b.size, w1 := h.w1.below hb (by have := h.le2; have := h.le3; omega), g5 := h.g5.below hb, b := h.b.trans (hb.mono h.b.size)
    le0 := h.le0, le2 := h.le2, le3 := Nat.le_trans h.le3 hb.size }
theorem ZY.mark5 {gs' : List Zq} {hi : Nat} (h : ZY w W B1 B5 A n qs A1 m1 rs A5 n5 c5 gs) (ho : OwnZ W' B5 A5 n5 c5 gs') (hc : Chg B5 hi W W') : ZY w W' B1 B5 A n qs A1 m1 rs A5 n5 c5 gs' :=
  { i := h.i.below hc.below (by have := h.le0; have := h.le2; omega), w1 := h.w1.below hc.below h.le2, g5 := ho, b := h.b.trans (hc.below.mono (by have := h.le0; have := h.le2; omega))
    le0 := h.le0, le2 := h.le2, le3 := Nat.le_trans h.le3 hc.below.size }
end

/-- A device of no more than 2^20 zones, each with no more than 2^20 words. -/
def SmallD (ds : Dev) : Prop := ds.length ≤ 1048576 ∧ ∀ z ∈ ds, z.1.length ≤ 1048576
theorem small_nil : SmallD [] := ⟨by simp, by simp⟩
theorem small_zns {qs : List Zq} (h1 : qs.length ≤ 1048576) (h : ∀ q ∈ qs, q.words.length ≤ 1048576) : SmallD (zns qs) := by
  refine ⟨by unfold zns; rw [List.length_map]; exact h1, fun z hz => ?_⟩
  unfold zns at hz
  obtain ⟨q, hq, rfl⟩ := List.mem_map.1 hz
  exact h q hq
theorem SmallD.words {qs : List Zq} (h : SmallD (zns qs)) : ∀ q ∈ qs, q.words.length ≤ 1048576 := fun q hq => h.2 q.zn (List.mem_map_of_mem hq)
theorem SmallD.len {qs : List Zq} (h : SmallD (zns qs)) : qs.length ≤ 1048576 := by have := h.1; unfold zns at this; rwa [List.length_map] at this
theorem small_erase (b : Bool) : SmallD (if b then List.replicate 4 zone0 else []) := by
  rcases b with _ | _
  · exact small_nil
  · exact ⟨by simp, fun z hz => by rw [(List.mem_replicate.1 hz).2]; exact Nat.zero_le _⟩
theorem small_mod {ds : Dev} (h : SmallD ds) (z : Int) (f : List Int × Int × Bool → List Int × Int × Bool) (hf : ∀ q, (f q).1.length ≤ q.1.length) : SmallD (modD ds z f) := by
  unfold modD
  rcases e : ds[z.toNat]? with _ | q
  · exact h
  · refine ⟨by rw [List.length_set]; exact h.1, fun r hr => ?_⟩
    rcases List.mem_or_eq_of_mem_set hr with hr | rfl
    · exact h.2 r hr
    · exact Nat.le_trans (hf q) (h.2 q (List.mem_of_getElem? e))
theorem small_finish {ds : Dev} (h : SmallD ds) (z : Int) : SmallD (finishD ds z) := by
  unfold finishD
  split
  · exact small_mod h z _ fun q => Nat.le_refl _
  · exact small_nil
theorem small_reset {ds : Dev} (h : SmallD ds) (z : Int) : SmallD (resetD ds z) := by
  unfold resetD
  split
  · exact small_mod h z _ fun q => Nat.zero_le _
  · exact small_nil
theorem small_cut {ds : Dev} (h : SmallD ds) (z n : Int) : SmallD (cutD ds z n) := by
  unfold cutD
  split
  · refine small_mod h z _ fun q => ?_
    simp only [cutZ, List.length_take]
    omega
  · exact small_nil
theorem small_sync {ds : Dev} (h : SmallD ds) : SmallD (syncF ds) := by
  unfold syncF
  split
  · refine ⟨by unfold syncD; rw [List.length_map]; exact h.1, fun z hz => ?_⟩
    obtain ⟨q, hq, rfl⟩ := List.mem_map.1 hz
    exact h.2 q hq
  · exact small_nil
end Go.Proofs.Ytfianpjoifcphaa
