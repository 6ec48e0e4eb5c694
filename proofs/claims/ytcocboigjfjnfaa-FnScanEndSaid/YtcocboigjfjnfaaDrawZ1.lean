/-
  Drawn bodies and zones' numbers: l91Body, l91Zone.
-/
import Derived.Test.YtcocboigjfjnfaaDrawP
import Derived.Test.YtcocboigjfjnfaaDrawC
import Derived.Test.YtcocboigjfjnfaaSpecP
import Derived.Test.YtcocboigjfjnfaaSpecC
namespace Go.Proofs.Ytcocboigjfjnfaa
open Go.RowKit
set_option linter.unusedVariables false
set_option maxRecDepth 100000

set_option maxHeartbeats 1600000 in
theorem body91_any (R : Nat) (p : Int) (w : World) (hr : Rd w R p) (hp : p < 19000) :
    Calls Try.prog 56 #[.pointer (some ⟨R, 0, none⟩)] w fun e w' => ∃ (kd : Int) (A2 : Option Addr) (m c2 : Nat) (xs : List Int) (p' : Int), e = .returned (.tuple #[.int .i64 kd, .slice A2 m c2]) ∧ Own w' w.heap.size A2 m c2 xs ∧ m ≤ 100 ∧
      p ≤ p' ∧ p' ≤ p + 101 ∧ Rd w' R p' ∧ w.grownBy w' (some R) := by
  have hRw := hr.lt
  go_enter Try.func56, Try.ntmps56
  go_wp2_with fail
  refine (pick_any R p 3 _ hr (by omega) (by omega)).mono ?_
  rintro e w1 ⟨v, rfl, hv0, hv1, hr1, hg1⟩
  have hs1 := hg1.size
  have HG1 := hide hg1
  clear hg1 hr
  by_cases hv : v = 0
  · subst hv
    go_wp2_with fail
    refine (draw91C_any R (p + 1) _ hr1 (by omega)).mono ?_
    rintro e w2 ⟨A2, k, c2, xs, p', rfl, hown, hk, hrng, hp0, hp1, hr2, hg2⟩
    have hs2 := hg2.size
    have HI2 := hide hown.ints
    have hlen := hown.1
    have HG2 := hide (grown_trans' HG1.out hg2)
    have HR2 := hide hr2
    clear hown hg2 hr1 hr2
    go_wp2_with fail
    refine (specPutC A2 k c2 _ xs _ HI2.out (Nat.le_refl _) (by omega)).mono ?_
    rintro e w3 ⟨A3, m, c3, rfl, ho3, hb3⟩
    have hm : m ≤ 100 := by
      have h1 := ho3.1
      split at h1
      · omega
      · simp at h1; omega
    have HG3 := hide (grown_own HG2.out (grown_of_below hb3 none) (by simp))
    have HR3 := hide (HR2.out.below hb3)
    have HO3 := hide (ho3.mono (show w.heap.size ≤ w2.heap.size by omega))
    clear hb3 ho3
    go_wp2
    go_ret2
    exact ⟨_, _, _, _, _, p', rfl, HO3.out, hm, by omega, by omega, HR3.out, HG3.out⟩
  · have hv' : (v == 0) = false := by simpa using hv
    go_wp2_with fail
    refine (draw91P_any R (p + 1) _ hr1 (by omega)).mono ?_
    rintro e w2 ⟨A2, k, c2, xs, p', rfl, hown, hk, hrng, hp0, hp1, hr2, hg2⟩
    have hs2 := hg2.size
    have HI2 := hide hown.ints
    have hlen := hown.1
    have HG2 := hide (grown_trans' HG1.out hg2)
    have HR2 := hide hr2
    clear hown hg2 hr1 hr2
    go_wp2_with fail
    refine (specPutP A2 k c2 _ xs _ HI2.out (Nat.le_refl _) (by omega)).mono ?_
    rintro e w3 ⟨A3, m, c3, rfl, ho3, hb3⟩
    have hm : m ≤ 100 := by
      have h1 := ho3.1
      split at h1
      · omega
      · simp at h1; omega
    have HG3 := hide (grown_own HG2.out (grown_of_below hb3 none) (by simp))
    have HR3 := hide (HR2.out.below hb3)
    have HO3 := hide (ho3.mono (show w.heap.size ≤ w2.heap.size by omega))
    clear hb3 ho3
    go_wp2
    go_ret2
    exact ⟨_, _, _, _, _, p', rfl, HO3.out, hm, by omega, by omega, HR3.out, HG3.out⟩

theorem cell_facts' {w : World} {g : Nat} {t : TypeId} {a b c : Value} (h : Blk w g t #[a, b, c]) : w.cell? ⟨g, 0, none⟩ = some a ∧ w.cell? ⟨g, 1, none⟩ = some b ∧ w.cell? ⟨g, 2, none⟩ = some c :=
  ⟨by rw [h.cell]; rfl, by rw [h.cell]; rfl, by rw [h.cell]; rfl⟩

set_option maxHeartbeats 1600000 in
theorem zone91_any (R : Nat) (p : Int) (w : World) (hr : Rd w R p) (hp : p < 29000) :
    Calls Try.prog 45 #[.pointer (some ⟨R, 0, none⟩)] w fun e w' => ∃ (z p' : Int), e = .returned (.int .i64 z) ∧ -1 ≤ z ∧ z ≤ 5 ∧ p ≤ p' ∧ p' ≤ p + 2 ∧ Rd w' R p' ∧ w.grownBy w' (some R) := by
  have hRw := hr.lt
  go_enter Try.func45, Try.ntmps45
  go_wp2_with fail
  refine (pick_any R p 16 _ hr (by omega) (by omega)).mono ?_
  rintro e w1 ⟨v, rfl, hv0, hv1, hr1, hg1⟩
  have hs1 := hg1.size
  by_cases hv : v = 0
  · subst hv
    have HB := hide (Blk.new w1 3 #[.int .i64 (-1), .int .i64 4, .int .i64 5])
    have HG2 := hide (grown_alloc hg1 (.cells #[.int .i64 (-1), .int .i64 4, .int .i64 5] 3))
    have hR1 := hr1.lt
    have hr2 := hr1.alloc (.cells #[.int .i64 (-1), .int .i64 4, .int .i64 5] 3)
    clear hg1 hr hr1
    go_wp2_with fail
    refine (pick_any R (p + 1) 3 _ hr2 (by omega) (by omega)).mono ?_
    rintro e w2 ⟨u, rfl, hu0, hu1, hr3, hg3⟩
    have HB3 := hide (HB.out.grown hg3 (by simp; omega))
    have HG3 := hide (grown_trans' HG2.out hg3)
    obtain ⟨hc0, hc1, hc2⟩ := cell_facts' HB3.out
    clear hr2 hg3
    have hu : u = 0 ∨ u = 1 ∨ u = 2 := by omega
    rcases hu with rfl | rfl | rfl
    all_goals
      go_wp2
      go_ret
      exact ⟨_, _, rfl, by omega, by omega, by omega, by omega, hr3, HG3.out⟩
  · have hv' : (v == 0) = false := by simpa using hv
    have HG1 := hide hg1
    clear hg1 hr
    go_wp2_with fail
    refine (pick_any R (p + 1) 4 _ hr1 (by omega) (by omega)).mono ?_
    rintro e w2 ⟨u, rfl, hu0, hu1, hr2, hg2⟩
    have HG2 := hide (grown_trans' HG1.out hg2)
    clear hg2
    go_wp2
    go_ret
    exact ⟨_, _, rfl, by omega, by omega, by omega, by omega, hr2, HG2.out⟩
end Go.Proofs.Ytcocboigjfjnfaa
