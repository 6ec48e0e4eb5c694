/-
  Twelve marks: a row of the call's own of twelve bools, known by a set of blocks ('OwnM'); twelve bools that can be read ('Rdm'). Extents in memory. Plain.
-/
import Derived.Test.YthpipgcgnhgphaaExtM
import Derived.Test.YthpipgcgnhgphaaRec
import Derived.Test.YthpipgcgnhgphaaQo
namespace Go.Proofs.Ythpipgcgnhgphaa
open Go.RowKit
set_option linter.unusedVariables false
set_option maxRecDepth 100000

def mk12 (p : Int → Bool) : List Value := (List.range 12).map fun (i : Nat) => Value.bool (p i)
theorem mk12_get (p : Int → Bool) (j : Nat) (h : j < 12) : (mk12 p)[j]? = some (.bool (p j)) := by
  unfold mk12
  rw [List.getElem?_map, List.getElem?_range h]
  rfl
theorem mk12_length (p : Int → Bool) : (mk12 p).length = 12 := by simp [mk12]
theorem mk12_set (p : Int → Bool) (j : Nat) (h : j < 12) (b : Bool) : (mk12 p).set j (.bool b) = mk12 (fun i => if i = (j : Int) then b else p i) := by
  apply List.ext_getElem?
  intro i
  rw [List.getElem?_set]
  by_cases hi : i < 12
  · rw [mk12_get _ i hi, mk12_get _ i hi, mk12_length]
    by_cases e : j = i
    · subst e
      rw [if_pos rfl, if_pos h, if_pos rfl]
    · rw [if_neg e, if_neg (by omega)]
  · rw [List.getElem?_eq_none (by rw [mk12_length]; omega), List.getElem?_eq_none (by rw [mk12_length]; omega)]
    split
    · rw [mk12_length, if_neg (by omega)]
    · rfl
theorem mk12_congr {p q : Int → Bool} (h : ∀ i : Nat, i < 12 → p i = q i) : mk12 p = mk12 q := by
  apply List.ext_getElem?
  intro i
  by_cases hi : i < 12
  · rw [mk12_get _ i hi, mk12_get _ i hi, h i hi]
  · rw [List.getElem?_eq_none (by rw [mk12_length]; omega), List.getElem?_eq_none (by rw [mk12_length]; omega)]

def OwnM (w : World) (base g : Nat) (p : Int → Bool) : Prop := w.ownsRow base 4 1 (.slice (some ⟨g, 0, none⟩) 12 12) 12 (mk12 p)
section
variable {w w' : World} {base g B : Nat} {p : Int → Bool}
theorem OwnM.lt (h : OwnM w base g p) : base ≤ g ∧ g < w.heap.size := World.ownsRow.lt h g rfl
theorem OwnM.kept {row : Option Nat} (h : OwnM w base g p) (hg : w.grownBy w' row) (hne : ∀ k, row = some k → g ≠ k) : OwnM w' base g p :=
  World.ownsRow.kept h hg (.inr (fun e => hne g e.symm rfl))
theorem OwnM.free (h : OwnM w base g p) (j : Nat) : w.frozen? ⟨g, j, none⟩ = false := h.frozenAt j
theorem OwnM.cell (h : OwnM w base g p) {j : Nat} (hj : j < 12) : w.cell? ⟨g, j, none⟩ = some (.bool (p j)) := by
  have := h.cells rfl j _ (mk12_get p j hj)
  rwa [add_plain'] at this
theorem OwnM.put (h : OwnM w base g p) {j : Nat} (hj : j < 12) (b : Bool) : OwnM (w.setCell ⟨g, j, none⟩ (.bool b)) base g (fun i => if i = (j : Int) then b else p i) ∧ w.grownBy (w.setCell ⟨g, j, none⟩ (.bool b)) (some g) := by
  have := World.ownsRow.stored h j (.bool b)
  rw [mk12_set p j hj b] at this
  exact this
theorem OwnM.ext {q : Int → Bool} (h : OwnM w base g p) (he : ∀ i : Nat, i < 12 → p i = q i) : OwnM w base g q := by
  unfold OwnM at h ⊢
  rwa [mk12_congr he] at h
/-- twelve bools that can be read -/
def Rdm (w : World) (B g : Nat) (p : Int → Bool) : Prop := g < B ∧ ∀ j : Nat, j < 12 → w.cell? ⟨g, j, none⟩ = some (.bool (p j))
theorem OwnM.rdm (h : OwnM w base g p) : Rdm w w.heap.size g p := ⟨h.lt.2, fun j hj => h.cell hj⟩
theorem Rdm.below {B2 : Nat} (h : Rdm w B g p) (hb : Below B2 w w') (hB : B ≤ B2) : Rdm w' B g p := ⟨h.1, fun j hj => (hb.cell (by have := h.1; show g < B2; omega)).trans (h.2 j hj)⟩
theorem Rdm.grown {row : Option Nat} (h : Rdm w B g p) (hg : w.grownBy w' row) (hB : B ≤ w.heap.size) (hr : ∀ k, row = some k → B ≤ k) : Rdm w' B g p :=
  ⟨h.1, fun j hj => (World.cell?_of_block (hg.block g (by have := h.1; omega) (fun e => by have := hr _ e.symm; have := h.1; omega))).trans (h.2 j hj)⟩
theorem Rdm.drewN (h : Rdm w B g p) (k : Nat) : Rdm (w.drewN k) B g p := h
end
theorem made12 : (madeCells (Value.bool false).cells (12 * 1)).toList = mk12 (fun _ => false) := by
  show (madeCells #[Value.bool false] 12).toList = _
  rw [toList_madeCells_one]
  rfl

/-! ### extents in memory -/
theorem extT : RT 25 42 2 16 (.agg #[.int .i64 0, .int .i64 0]) := ⟨Try.underlying25, by kernel_rfl, by decide, by decide, by decide⟩
/-- the slice reads as the extents es -/
def ExI (w : World) (B : Nat) (A : Option Addr) (n : Nat) (es : Exs) : Prop := es.length = n ∧ Ints w B A (n * 2) (fl es)
/-- a row of the call's own -/
def ExR (w : World) (base : Nat) (A : Option Addr) (n c : Nat) (es : Exs) : Prop := es.length = n ∧ OwnR w base 42 2 A n c (fl es)
section
variable {w w' : World} {base B n c : Nat} {A : Option Addr} {es : Exs}
theorem ExI.at_ (h : ExI w B A n es) {k : Nat} {e : Int × Int} (hk : es[k]? = some e) : ∃ ad p, A = some ad ∧ ad.add (k * 2) = p ∧ p.block < B ∧ w.cell? p = some (.int .i64 e.1) ∧ w.cell? ⟨p.block, p.off + 1, none⟩ = some (.int .i64 e.2) := by
  have hl : k < n := by rw [← h.1]; exact (List.getElem?_eq_some_iff.1 hk).1
  obtain ⟨ad, rfl, hb, hc⟩ := h.2.2 (by omega)
  have h0 := hc (k * 2) (by omega)
  have h1 := hc (k * 2 + 1) (by omega)
  rw [(fl_getD hk).1] at h0
  rw [(fl_getD hk).2] at h1
  refine ⟨ad, _, rfl, rfl, by rw [block_of_add]; exact hb, h0, ?_⟩
  rw [← add_of_add] at h1
  simpa [Addr.add] using h1
theorem ExI.below {B2 : Nat} (h : ExI w B A n es) (hb : Below B2 w w') (hB : B ≤ B2) : ExI w' B A n es := ⟨h.1, h.2.below hb hB⟩
theorem ExI.more {B' : Nat} (h : ExI w B A n es) (hB : B ≤ B') : ExI w B' A n es := ⟨h.1, h.2.more hB⟩
theorem ExI.drewN (h : ExI w B A n es) (k : Nat) : ExI (w.drewN k) B A n es := h
theorem ExI.alloc (h : ExI w B A n es) (hB : B ≤ w.heap.size) (o : Obj) : ExI (w.alloc o) B A n es := ⟨h.1, h.2.alloc hB o⟩
theorem ExI.grown {row : Option Nat} (h : ExI w B A n es) (hg : w.grownBy w' row) (hB : B ≤ w.heap.size) (hr : ∀ g, row = some g → B ≤ g) : ExI w' B A n es := ⟨h.1, h.2.grown hg hB hr⟩
theorem ExR.exi (h : ExR w base A n c es) : ExI w w.heap.size A n es := ⟨h.1, h.2.ints⟩
theorem ExR.below (h : ExR w base A n c es) (hg : Below w.heap.size w w') : ExR w' base A n c es := ⟨h.1, h.2.below hg⟩
theorem ExR.alloc (h : ExR w base A n c es) (o : Obj) : ExR (w.alloc o) base A n c es := ⟨h.1, h.2.alloc o⟩
theorem ExR.kept {row : Option Nat} (h : ExR w base A n c es) (hg : w.grownBy w' row) (hne : ∀ k, row = some k → (Value.slice A n c).ownBlock ≠ some k) : ExR w' base A n c es := ⟨h.1, h.2.kept hg hne⟩
theorem ExR.mono {b' : Nat} (h : ExR w base A n c es) (hb : b' ≤ base) : ExR w b' A n c es := ⟨h.1, h.2.mono hb⟩
theorem ExR.drewN (h : ExR w base A n c es) (k : Nat) : ExR (w.drewN k) base A n c es := h
theorem ExR.lit0 (w : World) (base : Nat) (hb : base ≤ w.heap.size) : ExR (w.alloc (.cells #[] 42)) base (some ⟨w.heap.size, 0, none⟩) 0 0 [] := ⟨rfl, OwnR.lit0 w base hb _ _⟩
end
end Go.Proofs.Ythpipgcgnhgphaa
