/-
  slices.Sort, on a row of integers of the call's own.
-/
import Derived.Test.YtnkflcibbhoedaaBase
import Derived.Test.YtnkflcibbhoedaaLayS
import Derived.Shelf.SortM.Plain
import Derived.Shelf.SortM.SortNone
import Derived.Sort.Grow
import Derived.Lib.OwnBridge
namespace Go.Proofs.Ytnkflcibbhoedaa
open Go.RowKit Go.Sort Go.Shelf
set_option linter.unusedVariables false
set_option maxRecDepth 100000

theorem below_growW (w : World) (os : Array Obj) : Below w.heap.size w (grow w os) := ⟨rfl, rfl, rfl, by simp, fun k hk => heap_grow_old _ _ hk⟩

/-- slices.Sort, on a row of the call's own -/
theorem sortI_any (base m d : Nat) (X : Option Addr) (zs : List Int) (w : World) (ho : Own w base X m d zs) (hb : base ≤ w.heap.size) (hm : m ≤ 1000000000) :
    Calls Try.prog 42 #[.slice X m d] w fun e w' => e = .returned (.tuple #[]) ∧ Own w' base X m d (zs.mergeSort fun x y => decide (x ≤ y)) ∧ Below base w w' := by
  by_cases h0 : m = 0
  · subst h0
    have hz : zs = [] := List.eq_nil_of_length_eq_zero ho.1
    subst hz
    refine (AnyM.slices_Sort_int_none sortA X d w).mono ?_
    rintro e w' ⟨rfl, rfl⟩
    exact ⟨rfl, by simpa using ho, Below.refl _ _⟩
  · have hnn : (Value.slice X m d) ≠ .slice none 0 0 := by intro e; injection e with _ e; exact h0 e
    obtain ⟨g, cap, he, hbg, hgl, hmc, hcm, hlen, hH⟩ := Lib.holds_of_ownsRow ho.2 hnn
    injection he with e1 _ e3
    subst e1 e3
    have hc := AnyM.slices_Sort_int sortA g 0 d zs w hH hgl (by omega)
    rw [hlen] at hc
    refine hc.mono ?_
    rintro e w' ⟨rfl, nn, os, rfl⟩
    have hl2 : (zs.mergeSort fun x y => decide (x ≤ y)).length = m := by rw [List.length_mergeSort]; exact hlen
    have hp := Lib.ownsRow_putRow (enc := Value.int .i64) (q := nn) (k := m) (ys := zs.mergeSort fun x y => decide (x ≤ y)) ho.2 hl2 (Nat.le_refl _)
    rw [List.take_of_length_le (by rw [hl2]; exact Nat.le_refl _)] at hp
    have hbp : Below base w (putRow (Value.int .i64) (Sort.ahead w nn) g 0 (zs.mergeSort fun x y => decide (x ≤ y)).toArray) := Lib.below_putRow (Below.refl _ _) hbg
    have hg := below_growW (putRow (Value.int .i64) (Sort.ahead w nn) g 0 (zs.mergeSort fun x y => decide (x ≤ y)).toArray) os
    have hown : Own (putRow (Value.int .i64) (Sort.ahead w nn) g 0 (zs.mergeSort fun x y => decide (x ≤ y)).toArray) base (some ⟨g, 0, none⟩) m d (zs.mergeSort fun x y => decide (x ≤ y)) := ⟨hl2, hp⟩
    exact ⟨rfl, hown.below hg, hbp.trans (hg.mono (Nat.le_trans hb hbp.size))⟩

end Go.Proofs.Ytnkflcibbhoedaa
