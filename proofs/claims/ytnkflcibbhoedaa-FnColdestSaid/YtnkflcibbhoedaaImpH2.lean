/-
  The program's slices.SortedFunc by heat.
-/
import Derived.Test.YtnkflcibbhoedaaImpH1
import Derived.Test.YtnkflcibbhoedaaSpecH2
import Derived.Test.YtnkflcibbhoedaaCmpH
import Derived.Test.YtnkflcibbhoedaaColI
import Derived.Test.YtnkflcibbhoedaaIterE
import Derived.Test.YtnkflcibbhoedaaSortH0
namespace Go.Proofs.Ytnkflcibbhoedaa
open Go.RowKit Go.Sort Go.Shelf
set_option linter.unusedVariables false
set_option maxRecDepth 100000

set_option maxHeartbeats 3200000 in
theorem sortedH_any (Bs G c m d B B' : Nat) (X A : Option Addr) (h ls : List Int) (w : World) (hBs : w.cell? ⟨Bs, 0, none⟩ = some (.slice X m d)) (hBs' : Bs < w.heap.size) (hl : Ints w B' X m ls) (hB' : B' ≤ w.heap.size) (hm : m ≤ 1000000000)
    (hbox : w.cell? ⟨G, 0, none⟩ = some (.slice A 12 c)) (hG : G < w.heap.size) (hi : Ints w B A 12 h) (hB : B ≤ w.heap.size) (hr : ∀ x ∈ ls, 0 ≤ x ∧ x ≤ 11) :
    Calls Try.prog 40 #[.func (.func 45) #[] #[.pointer (some ⟨Bs, 0, none⟩)], .func (.func 48) #[] #[.pointer (some ⟨G, 0, none⟩)]] w fun e w' =>
      ∃ A2 c2 rs, e = .returned (.slice A2 m c2) ∧ Own w' w.heap.size A2 m c2 rs ∧ rs.Perm ls ∧ (rs.Pairwise fun a b => ltH h b a = false) ∧ Go.RowKit.Below w.heap.size w w' := by
  have HC := hide (collectI _ _ _ _ w.heap.size m hm w (Nat.le_refl _) (enters_of Try.func45 (by kernel_rfl) rfl)
    (values_stops X m d 3 Bs w.heap.size ls w (by omega) hBs' (Nat.le_refl _) hBs (hl.more hB') hm))
  rw [blocksOf_one hl.1] at HC
  have HL := hide hl.1
  have HI := hide hi
  have HR := hide hr
  clear hl hi hBs hr
  go_enter Try.func40, Try.ntmps40
  go_wp2_with fail
  refine HC.out.mono ?_
  rintro e w1 ⟨A2, c2, ys, rfl, rfl, ho1, hb1⟩
  rw [HL.out] at ho1 ⊢
  have HB1 := hide hb1
  have hs1 := hb1.size
  have HO1 := hide ho1
  by_cases h0 : m = 0
  · subst h0
    have hz : ys = [] := List.eq_nil_of_length_eq_zero HL.out
    subst hz
    clear ho1 hb1 HC
    go_wp2_with fail
    refine (sortH_none A2 c2 _ w1).mono ?_
    rintro e w2 ⟨rfl, rfl⟩
    go_wp2
    go_ret
    exact ⟨_, _, [], rfl, HO1.out, List.Perm.refl _, List.Pairwise.nil, HB1.out⟩
  · have HS := hide (sortH_any w.heap.size m c2 G c B A2 A h ys w1 ho1 hs1 hm (by omega) HR.out ((hb1.cell (p := ⟨G, 0, none⟩) hG).trans hbox) hG (HI.out.below hb1 hB) hB)
    clear ho1 hb1 HC
    go_wp2_with fail
    refine HS.out.mono ?_
    rintro e w2 ⟨rfl, rs, ho2, hp, hpw, hb2⟩
    have HO2 := hide ho2
    have HP := hide hp
    have HW := hide hpw
    have HB2 := hide (HB1.out.trans hb2)
    clear ho2 hp hpw hb2
    go_wp2
    go_ret
    exact ⟨_, _, rs, rfl, HO2.out, HP.out, HW.out, HB2.out⟩

theorem byHeat_any (A : Option Addr) (n c : Nat) (w : World) :
    Calls Try.prog 41 #[.slice A n c] w fun e w' => e = .returned (.func (.func 48) #[] #[.pointer (some ⟨w.heap.size, 0, none⟩)]) ∧ w' = w.alloc (.cells #[.slice A n c] 23) := by
  go_enter Try.func41, Try.ntmps41
  go_wp2
  go_ret
  exact ⟨rfl, rfl⟩

end Go.Proofs.Ytnkflcibbhoedaa
