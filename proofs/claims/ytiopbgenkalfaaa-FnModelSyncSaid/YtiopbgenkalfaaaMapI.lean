/-
  Maps in memory: a slice of elements that can be read ('MpI'), and a row of the call's own ('MpR'). Plain.
-/
import Derived.Test.YtiopbgenkalfaaaMapM
import Derived.Test.YtiopbgenkalfaaaRec
namespace Go.Proofs.Ytiopbgenkalfaaa
open Go.RowKit
set_option linter.unusedVariables false
set_option maxRecDepth 100000

theorem whT : RT 68 107 5 40 (.agg #[.int .i64 0, .int .i64 0, .int .i64 0, .int .i64 0, .int .i64 0]) := ⟨Try.underlying68, by kernel_rfl, by decide, by decide, by decide⟩
/-- the slice reads as the elements ms -/
def MpI (w : World) (B : Nat) (A : Option Addr) (n : Nat) (ms : List Wh) : Prop := ms.length = n ∧ Ints w B A (n * 5) (fl5 ms)
/-- a row of the call's own -/
def MpR (w : World) (base : Nat) (A : Option Addr) (n c : Nat) (ms : List Wh) : Prop := ms.length = n ∧ OwnR w base 107 5 A n c (fl5 ms)
/-- five cells of an element -/
def Cells5 (w : World) (p : Addr) (x : Wh) : Prop := w.cell? p = some (.int .i64 x.1) ∧ w.cell? ⟨p.block, p.off + 1, none⟩ = some (.int .i64 x.2.1) ∧ w.cell? ⟨p.block, p.off + 2, none⟩ = some (.int .i64 x.2.2.1) ∧
  w.cell? ⟨p.block, p.off + 3, none⟩ = some (.int .i64 x.2.2.2.1) ∧ w.cell? ⟨p.block, p.off + 4, none⟩ = some (.int .i64 x.2.2.2.2)
theorem cell_next' {w : World} {ad p : Addr} {m i : Nat} {v : Value} (hi : i ≠ 0) (e : ad.add m = p) (h : w.cell? (ad.add (m + i)) = some v) : w.cell? ⟨p.block, p.off + i, none⟩ = some v := by
  rw [← add_of_add, e] at h
  simpa [Addr.add, hi] using h
section
variable {w w' : World} {base B n c : Nat} {A : Option Addr} {ms : List Wh}
theorem MpI.at_ (h : MpI w B A n ms) {k : Nat} {x : Wh} (hk : ms[k]? = some x) : ∃ ad p, A = some ad ∧ ad.add (k * 5) = p ∧ p.block < B ∧ Cells5 w p x := by
  have hl : k < n := by rw [← h.1]; exact (List.getElem?_eq_some_iff.1 hk).1
  obtain ⟨ad, rfl, hb, hc⟩ := h.2.2 (by omega)
  obtain ⟨e0, e1, e2, e3, e4⟩ := fl5_getD hk
  refine ⟨ad, _, rfl, rfl, by rw [block_of_add]; exact hb, ?_, ?_, ?_, ?_, ?_⟩
  · rw [← e0]; exact hc _ (by omega)
  · rw [← e1]; exact cell_next' (by decide) rfl (hc (k * 5 + 1) (by omega))
  · rw [← e2]; exact cell_next' (by decide) rfl (hc (k * 5 + 2) (by omega))
  · rw [← e3]; exact cell_next' (by decide) rfl (hc (k * 5 + 3) (by omega))
  · rw [← e4]; exact cell_next' (by decide) rfl (hc (k * 5 + 4) (by omega))
theorem MpI.below {B2 : Nat} (h : MpI w B A n ms) (hb : Below B2 w w') (hB : B ≤ B2) : MpI w' B A n ms := ⟨h.1, h.2.below hb hB⟩
theorem MpI.more {B' : Nat} (h : MpI w B A n ms) (hB : B ≤ B') : MpI w B' A n ms := ⟨h.1, h.2.more hB⟩
theorem MpI.drewN (h : MpI w B A n ms) (k : Nat) : MpI (w.drewN k) B A n ms := h
theorem MpI.alloc (h : MpI w B A n ms) (hB : B ≤ w.heap.size) (o : Obj) : MpI (w.alloc o) B A n ms := ⟨h.1, h.2.alloc hB o⟩
theorem MpI.grown {row : Option Nat} (h : MpI w B A n ms) (hg : w.grownBy w' row) (hB : B ≤ w.heap.size) (hr : ∀ g, row = some g → B ≤ g) : MpI w' B A n ms := ⟨h.1, h.2.grown hg hB hr⟩
theorem MpR.mpi (h : MpR w base A n c ms) : MpI w w.heap.size A n ms := ⟨h.1, h.2.ints⟩
theorem MpR.below (h : MpR w base A n c ms) (hg : Below w.heap.size w w') : MpR w' base A n c ms := ⟨h.1, h.2.below hg⟩
theorem MpR.alloc (h : MpR w base A n c ms) (o : Obj) : MpR (w.alloc o) base A n c ms := ⟨h.1, h.2.alloc o⟩
theorem MpR.kept {row : Option Nat} (h : MpR w base A n c ms) (hg : w.grownBy w' row) (hne : ∀ k, row = some k → (Value.slice A n c).ownBlock ≠ some k) : MpR w' base A n c ms := ⟨h.1, h.2.kept hg hne⟩
theorem MpR.mono {b' : Nat} (h : MpR w base A n c ms) (hb : b' ≤ base) : MpR w b' A n c ms := ⟨h.1, h.2.mono hb⟩
theorem MpR.drewN (h : MpR w base A n c ms) (k : Nat) : MpR (w.drewN k) base A n c ms := h
theorem MpR.lit0 (w : World) (base : Nat) (hb : base ≤ w.heap.size) : MpR (w.alloc (.cells #[] 107)) base (some ⟨w.heap.size, 0, none⟩) 0 0 [] := ⟨rfl, OwnR.lit0 w base hb _ _⟩
theorem MpR.nil_ (w : World) (base : Nat) : MpR w base none 0 0 [] := ⟨rfl, OwnR.nil_ w base _ _⟩
theorem MpR.cap (h : MpR w base A n c ms) : n ≤ c ∧ c ≤ maxLen := h.2.cap
theorem MpI.firsts (h : MpI w B A n ms) {m : Nat} (hm : m ≤ n) : MpI w B A m (ms.take m) := by
  refine ⟨by rw [List.length_take, h.1]; omega, ?_⟩
  rw [fl5_take]
  exact h.2.firsts (by omega)
/-- the cells of one's own row -/
theorem MpR.at_ {g k : Nat} {x : Wh} (h : MpR w base (some ⟨g, 0, none⟩) n c ms) (hk : ms[k]? = some x) :
    w.cell? ⟨g, k * 5, none⟩ = some (.int .i64 x.1) ∧ w.cell? ⟨g, k * 5 + 1, none⟩ = some (.int .i64 x.2.1) ∧ w.cell? ⟨g, k * 5 + 2, none⟩ = some (.int .i64 x.2.2.1) ∧
    w.cell? ⟨g, k * 5 + 3, none⟩ = some (.int .i64 x.2.2.2.1) ∧ w.cell? ⟨g, k * 5 + 4, none⟩ = some (.int .i64 x.2.2.2.2) := by
  have hl : k < n := by rw [← h.1]; exact (List.getElem?_eq_some_iff.1 hk).1
  obtain ⟨e0, e1, e2, e3, e4⟩ := fl5_getD hk
  exact ⟨by rw [h.2.cell (j := k * 5) (by omega), e0], by rw [h.2.cell (j := k * 5 + 1) (by omega), e1], by rw [h.2.cell (j := k * 5 + 2) (by omega), e2], by rw [h.2.cell (j := k * 5 + 3) (by omega), e3],
    by rw [h.2.cell (j := k * 5 + 4) (by omega), e4]⟩
/-- five stores: an element is another one -/
def set5 (w : World) (g k : Nat) (x0 x1 x2 x3 x4 : Int) : World :=
  ((((w.setCell ⟨g, k * 5, none⟩ (.int .i64 x0)).setCell ⟨g, k * 5 + 1, none⟩ (.int .i64 x1)).setCell ⟨g, k * 5 + 2, none⟩ (.int .i64 x2)).setCell ⟨g, k * 5 + 3, none⟩ (.int .i64 x3)).setCell ⟨g, k * 5 + 4, none⟩ (.int .i64 x4)
/-- what five stores ask, one after the other -/
def Five (w : World) (g k : Nat) (x0 x1 x2 x3 x4 : Int) : Prop :=
  ∃ y0 y1 y2 y3 y4 : Int, w.cell? ⟨g, k * 5, none⟩ = some (.int .i64 y0) ∧ w.frozen? ⟨g, k * 5, none⟩ = false ∧
    (w.setCell ⟨g, k * 5, none⟩ (.int .i64 x0)).cell? ⟨g, k * 5 + 1, none⟩ = some (.int .i64 y1) ∧ (w.setCell ⟨g, k * 5, none⟩ (.int .i64 x0)).frozen? ⟨g, k * 5 + 1, none⟩ = false ∧
    ((w.setCell ⟨g, k * 5, none⟩ (.int .i64 x0)).setCell ⟨g, k * 5 + 1, none⟩ (.int .i64 x1)).cell? ⟨g, k * 5 + 2, none⟩ = some (.int .i64 y2) ∧
    ((w.setCell ⟨g, k * 5, none⟩ (.int .i64 x0)).setCell ⟨g, k * 5 + 1, none⟩ (.int .i64 x1)).frozen? ⟨g, k * 5 + 2, none⟩ = false ∧
    (((w.setCell ⟨g, k * 5, none⟩ (.int .i64 x0)).setCell ⟨g, k * 5 + 1, none⟩ (.int .i64 x1)).setCell ⟨g, k * 5 + 2, none⟩ (.int .i64 x2)).cell? ⟨g, k * 5 + 3, none⟩ = some (.int .i64 y3) ∧
    (((w.setCell ⟨g, k * 5, none⟩ (.int .i64 x0)).setCell ⟨g, k * 5 + 1, none⟩ (.int .i64 x1)).setCell ⟨g, k * 5 + 2, none⟩ (.int .i64 x2)).frozen? ⟨g, k * 5 + 3, none⟩ = false ∧
    ((((w.setCell ⟨g, k * 5, none⟩ (.int .i64 x0)).setCell ⟨g, k * 5 + 1, none⟩ (.int .i64 x1)).setCell ⟨g, k * 5 + 2, none⟩ (.int .i64 x2)).setCell ⟨g, k * 5 + 3, none⟩ (.int .i64 x3)).cell? ⟨g, k * 5 + 4, none⟩ = some (.int .i64 y4) ∧
    ((((w.setCell ⟨g, k * 5, none⟩ (.int .i64 x0)).setCell ⟨g, k * 5 + 1, none⟩ (.int .i64 x1)).setCell ⟨g, k * 5 + 2, none⟩ (.int .i64 x2)).setCell ⟨g, k * 5 + 3, none⟩ (.int .i64 x3)).frozen? ⟨g, k * 5 + 4, none⟩ = false
theorem MpR.put {g k : Nat} (h : MpR w base (some ⟨g, 0, none⟩) n c ms) (hk : k < n) (x0 x1 x2 x3 x4 : Int) :
    MpR (set5 w g k x0 x1 x2 x3 x4) base (some ⟨g, 0, none⟩) n c (ms.set k (x0, x1, x2, x3, x4)) ∧ w.grownBy (set5 w g k x0 x1 x2 x3 x4) (some g) ∧ Five w g k x0 x1 x2 x3 x4 := by
  have h0 := h.2.stored (j := k * 5) x0
  have h1 := h0.1.stored (j := k * 5 + 1) x1
  have h2 := h1.1.stored (j := k * 5 + 2) x2
  have h3 := h2.1.stored (j := k * 5 + 3) x3
  have h4 := h3.1.stored (j := k * 5 + 4) x4
  refine ⟨⟨by rw [List.length_set]; exact h.1, ?_⟩, grown_trans' (grown_trans' (grown_trans' (grown_trans' h0.2 h1.2) h2.2) h3.2) h4.2, ?_⟩
  · have := h4.1
    rw [fl5_set (by rw [h.1]; exact hk)] at this
    exact this
  · exact ⟨_, _, _, _, _, h.2.cell (by omega), h.2.free, h0.1.cell (by omega), h0.1.free, h1.1.cell (by omega), h1.1.free, h2.1.cell (by omega), h2.1.free, h3.1.cell (by omega), h3.1.free⟩
theorem MpR.five {g k : Nat} (h : MpR w base (some ⟨g, 0, none⟩) n c ms) (hk : k < n) : ∃ y0 y1 y2 y3 y4 : Int,
    (w.cell? ⟨g, k * 5, none⟩ = some (.int .i64 y0) ∧ w.cell? ⟨g, k * 5 + 1, none⟩ = some (.int .i64 y1) ∧ w.cell? ⟨g, k * 5 + 2, none⟩ = some (.int .i64 y2) ∧ w.cell? ⟨g, k * 5 + 3, none⟩ = some (.int .i64 y3) ∧ w.cell? ⟨g, k * 5 + 4, none⟩ = some (.int .i64 y4)) ∧
    (w.frozen? ⟨g, k * 5, none⟩ = false ∧ w.frozen? ⟨g, k * 5 + 1, none⟩ = false ∧ w.frozen? ⟨g, k * 5 + 2, none⟩ = false ∧ w.frozen? ⟨g, k * 5 + 3, none⟩ = false ∧ w.frozen? ⟨g, k * 5 + 4, none⟩ = false) :=
  ⟨_, _, _, _, _, ⟨h.2.cell (by omega), h.2.cell (by omega), h.2.cell (by omega), h.2.cell (by omega), h.2.cell (by omega)⟩, h.2.free, h.2.free, h.2.free, h.2.free, h.2.free⟩
theorem MpR.free {g j : Nat} (h : MpR w base (some ⟨g, 0, none⟩) n c ms) : w.frozen? ⟨g, j, none⟩ = false := h.2.free
/-- one store into an element -/
theorem MpR.put0 {g k : Nat} {y : Wh} (h : MpR w base (some ⟨g, 0, none⟩) n c ms) (hk : ms[k]? = some y) (x : Int) :
    MpR (w.setCell ⟨g, k * 5, none⟩ (.int .i64 x)) base (some ⟨g, 0, none⟩) n c (ms.set k (x, y.2)) ∧ w.grownBy (w.setCell ⟨g, k * 5, none⟩ (.int .i64 x)) (some g) := by
  have h0 := h.2.stored (j := k * 5) x
  rw [fl5_set0 hk] at h0
  exact ⟨⟨by rw [List.length_set]; exact h.1, h0.1⟩, h0.2⟩
theorem MpR.put1 {g k : Nat} {y : Wh} (h : MpR w base (some ⟨g, 0, none⟩) n c ms) (hk : ms[k]? = some y) (x : Int) :
    MpR (w.setCell ⟨g, k * 5 + 1, none⟩ (.int .i64 x)) base (some ⟨g, 0, none⟩) n c (ms.set k (y.1, x, y.2.2)) ∧ w.grownBy (w.setCell ⟨g, k * 5 + 1, none⟩ (.int .i64 x)) (some g) := by
  have h0 := h.2.stored (j := k * 5 + 1) x
  rw [fl5_set1 hk] at h0
  exact ⟨⟨by rw [List.length_set]; exact h.1, h0.1⟩, h0.2⟩
theorem MpR.put3 {g k : Nat} {y : Wh} (h : MpR w base (some ⟨g, 0, none⟩) n c ms) (hk : ms[k]? = some y) (x : Int) :
    MpR (w.setCell ⟨g, k * 5 + 3, none⟩ (.int .i64 x)) base (some ⟨g, 0, none⟩) n c (ms.set k (y.1, y.2.1, y.2.2.1, x, y.2.2.2.2)) ∧ w.grownBy (w.setCell ⟨g, k * 5 + 3, none⟩ (.int .i64 x)) (some g) := by
  have h0 := h.2.stored (j := k * 5 + 3) x
  rw [fl5_set3 hk] at h0
  exact ⟨⟨by rw [List.length_set]; exact h.1, h0.1⟩, h0.2⟩
end
end Go.Proofs.Ytiopbgenkalfaaa
