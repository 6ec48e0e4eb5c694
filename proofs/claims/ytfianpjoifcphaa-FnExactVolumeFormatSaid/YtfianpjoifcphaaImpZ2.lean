/-
  The program's gridOf, gridWith: a device's grid, by value.
-/
import Derived.Test.YtfianpjoifcphaaGrid
import Derived.Test.YtfianpjoifcphaaImpZ1
import Derived.Deep.RegionLaw
import Derived.Test.YtfianpjoifcphaaSpecZ5
import Derived.Deep.DeepCutAuto
import Derived.Deep.CutBlock
namespace Go.Proofs.Ytfianpjoifcphaa
open Go.RowKit
set_option linter.unusedVariables false
set_option maxRecDepth 100000

/-- a grid by value, and whether there is one -/
def GridPost (w : World) (v : Bool) (ds : Dev) (e : Ending) (w' : World) : Prop :=
  ∃ cs : List Value, e = .returned (.tuple #[.agg cs.toArray, .bool v]) ∧ cs.length = 268 ∧ (∀ u ∈ cs, u.oneCell' = true) ∧ (v = true → ∃ W M, cs = gcells W M ∧ GrOk W M ∧ devG W M = ds) ∧ Below w.heap.size w w'

theorem zero_post {w w' : World} (ds : Dev) (hb : Below w.heap.size w w') : GridPost w false ds (.returned (.tuple #[.agg (gcells zeroW zeroM).toArray, .bool false])) w' :=
  ⟨_, rfl, gcells_length zeroOk, gcells_one, (fun h => absurd h (by decide)), hb⟩

/-- behind k rounds of gridOf -/
structure GIn (w wr : World) (R G k : Nat) (ds : Dev) (W : List Int) (M : List Mk) : Prop where
  grid : GB wr G W M
  res : Blk wr R 66 (gcells zeroW zeroM).toArray
  below : Below w.heap.size w wr
  done : ∀ i, i < k → (devG W M)[i]? = ds[i]?

theorem GIn.next {w wr w4 : World} {R G k m : Nat} {qs : List Zq} {W : List Int} {M : List Mk} {q : Zq} (h : GIn w wr R G k (zns qs) W M) (hR : w.heap.size ≤ R) (hRG : R < G) (hk : k < 4) (hq : qs[k]? = some q) (hm : q.words.length = m) (h64 : m ≤ 64) (o : Obj)
    (hb : Blk w4 G 66 (splice (gcells W M) (k * 64) (q.words.map (Value.int .i64))).toArray) (hg : (wr.alloc o).grownBy w4 (some G)) :
    GIn w (((w4.setCell ⟨G, 256 + k * 3, none⟩ (.int .i64 m)).setCell ⟨G, 256 + k * 3 + 1, none⟩ (.int .i64 q.synced)).setCell ⟨G, 256 + k * 3 + 2, none⟩ (.bool q.full)) R G (k + 1) (zns qs) (splice W (k * 64) q.words) (M.set k ((m : Int), q.synced, q.full)) := by
  subst hm
  obtain ⟨mk, hmk, _⟩ := h.grid.2.at_ hk
  have g4 : GB w4 G (splice W (k * 64) q.words) M := ⟨by rw [← splice_gcells h.grid.2 _ _ (by omega)]; exact hb, h.grid.2.splice _ _ (by omega)⟩
  refine ⟨g4.set3 hmk _ _ _ (by omega) (by omega), ?_, ?_, fun i hi => ?_⟩
  · exact ((h.res.alloc o).grown hg (by simp; omega)).grown (grown3 _ _ _ _ _ _ _ _) (by simp; omega)
  · have hs := h.below.size
    have hlt := h.grid.1.lt
    exact ((h.below.alloc hs o).grown hg (by simp; omega) (fun b hb => by injection hb with hb; omega)).grown (grown3 _ _ _ _ _ _ _ _) (Nat.le_trans (Nat.le_trans hs (by simp)) hg.size) (fun b hb => by injection hb with hb; omega)
  · rw [devG_set]
    have hl : (devG (splice W (k * 64) q.words) M).length = 4 := by rw [devG_length, h.grid.2.marks]
    rw [List.getElem?_set]
    by_cases e : k = i
    · subst e
      rw [if_pos rfl, if_pos (by omega)]
      have := zoneG_splice_at h.grid.2 (k := k) (n := 0) q.words q.synced q.full hk (by omega)
      simp only [Nat.add_zero, List.take_zero, List.nil_append] at this
      have e0 : ((0 : Nat) : Int) + (q.words.length : Int) = (q.words.length : Int) := by omega
      rw [e0] at this
      rw [this]
      unfold zns
      rw [List.getElem?_map, hq]
      rfl
    · rw [if_neg e, ← h.done i (by omega)]
      obtain ⟨mi, hmi, hi1⟩ := h.grid.2.at_ (k := i) (by omega)
      rw [devG_get hmi, devG_get hmi]
      have := zoneG_splice h.grid.2 (k := k) (i := i) (n := 0) mi q.words hk (by omega) hi1 (by omega) (fun e2 => absurd e2.symm e)
      rw [Nat.add_zero] at this
      rw [this]

theorem GIn.end_ {w wr : World} {R G : Nat} {qs : List Zq} {W : List Int} {M : List Mk} (h : GIn w wr R G 4 (zns qs) W M) (h4 : qs.length = 4) : devG W M = zns qs := by
  apply List.ext_getElem?
  intro i
  by_cases hi : i < 4
  · exact h.done i hi
  · rw [List.getElem?_eq_none (by rw [devG_length, h.grid.2.marks]; omega), List.getElem?_eq_none (by unfold zns; rw [List.length_map]; omega)]

theorem cell_facts {w : World} {g : Nat} {t : TypeId} {a b c : Value} (h : Blk w g t #[a, b, c]) : w.cell? ⟨g, 0, none⟩ = some a ∧ w.cell? ⟨g, 1, none⟩ = some b ∧ w.cell? ⟨g, 2, none⟩ = some c :=
  ⟨by rw [h.cell]; rfl, by rw [h.cell]; rfl, by rw [h.cell]; rfl⟩

theorem info1 : (Try.prog.info? 3).map (·.size) = some 1 := by kernel_rfl

end Go.Proofs.Ytfianpjoifcphaa
