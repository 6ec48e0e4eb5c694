/-
  The model's BucketTake.
-/
import Derived.Test.YtcekikblgbdcoaaSpecB1
namespace Go.Proofs.Ytcekikblgbdcoaa
open Go.RowKit
set_option linter.unusedVariables false
set_option maxRecDepth 100000

theorem mayT_in (x : Int) : decide (mayT x) = inB x 0 100 := by
  rw [Bool.eq_iff_iff, decide_eq_true_iff, inB_iff]; rfl

set_option maxHeartbeats 3200000 in
theorem specBT (l m r t T many : Int) (w : World) :
    Calls Try.prog 21 #[.agg #[.int .i64 l, .int .i64 m, .int .i64 r, .int .i64 t], .int .i64 T, .int .i64 many] w fun e w' =>
      e = .returned (.tuple #[.agg #[.int .i64 (takB ⟨l, m, r, t⟩ T many).1.l, .int .i64 (takB ⟨l, m, r, t⟩ T many).1.m, .int .i64 (takB ⟨l, m, r, t⟩ T many).1.r, .int .i64 (takB ⟨l, m, r, t⟩ T many).1.t], .bool (takB ⟨l, m, r, t⟩ T many).2]) ∧ Below w.heap.size w w' := by
  have HK0 := hide (((Kp.refl w).push 24 #[.int .i64 l, .int .i64 m, .int .i64 r, .int .i64 t]).pushN (w.heap.size + 1) (by simp) 24 #[.int .i64 0, .int .i64 0, .int .i64 0, .int .i64 0])
  have HA := hide fun (W : World) => specBA l m r t T W
  by_cases hin : inT ⟨l, m, r, t⟩ T
  case neg =>
    rw [show takB ⟨l, m, r, t⟩ T many = (⟨0, 0, 0, 0⟩, false) from if_neg (fun h => hin h.1)]
    rw [show atB ⟨l, m, r, t⟩ T = (⟨0, 0, 0, 0⟩, false) from if_neg hin] at HA
    simp only at HA ⊢
    clear hin
    go_enter Try.func21, Try.ntmps21
    go_wp2_with fail
    refine (HA.out _).mono ?_
    rintro e w1 ⟨rfl, hb⟩
    obtain ⟨g, hg⟩ : ∃ g, w1.heap.size = g := ⟨_, rfl⟩
    have hgl : w.heap.size + 1 < g := by rw [← hg]; exact (HK0.out.step hb).lt
    have HK1 := hide ((HK0.out.step hb).pushN g hg 24 #[.int .i64 0, .int .i64 0, .int .i64 0, .int .i64 0])
    clear hb HK0 HA
    obtain ⟨⟨q0, q1, q2, q3⟩, f0, f1, f2, f3⟩ := HK1.out.cells4
    obtain ⟨⟨r0, r1, r2, r3⟩, g0, g1, g2, g3⟩ := HK1.out.tl.cells4
    have HK2 := hide (HK1.out.swap.put4 (by intro p hp; simp at hp; rcases hp with rfl | rfl <;> simp <;> omega) (u0 := .int .i64 0) (u1 := .int .i64 0) (u2 := .int .i64 0) (u3 := .int .i64 0))
    obtain ⟨⟨z0, z1, z2, z3⟩, -⟩ := HK2.out.cells4
    clear HK1
    clear hg
    go_wp2
    exact bodyPost_ret (v := .tuple #[.agg #[.int .i64 0, .int .i64 0, .int .i64 0, .int .i64 0], .bool false]) (by simp [results, Try.results21, go_sem, z0, z1, z2, z3]) rfl ⟨rfl, HK2.out.below⟩
  rw [show atB ⟨l, m, r, t⟩ T = (⟨lvl ⟨l, m, r, t⟩ (T - t), m, r, T⟩, true) from if_pos hin] at HA
  have hlv := lvl_rng hin.1 (k := T - t) (by have := hin.2.1; simp only at this; omega) (by have := hin.2.2; have := hin.1.2.2.2.2.2.2.1; simp only at this; omega)
  have hm : m ≤ 100 := hin.1.2.1
  have hl : 0 ≤ l := hin.1.2.2.1
  obtain ⟨K, hK⟩ : ∃ K, lvl ⟨l, m, r, t⟩ (T - t) = K := ⟨_, rfl⟩
  rw [hK] at hlv HA
  simp only at hlv HA
  have HM := hide fun (W : World) => in_any many 0 100 W
  rw [← mayT_in] at HM
  by_cases hmay : mayT many
  case neg =>
    rw [show takB ⟨l, m, r, t⟩ T many = (⟨0, 0, 0, 0⟩, false) from if_neg (fun h => hmay h.2)]
    rw [decide_eq_false hmay] at HM
    simp only
    clear hin hmay hK
    go_enter Try.func21, Try.ntmps21
    go_wp2_with fail
    refine (HA.out _).mono ?_
    rintro e w1 ⟨rfl, hb⟩
    obtain ⟨g, hg⟩ : ∃ g, w1.heap.size = g := ⟨_, rfl⟩
    have hgl : w.heap.size + 1 < g := by rw [← hg]; exact (HK0.out.step hb).lt
    have HK1 := hide ((HK0.out.step hb).pushN g hg 24 #[.int .i64 K, .int .i64 m, .int .i64 r, .int .i64 T])
    clear hb HK0 HA
    go_wp2_with fail
    refine (HM.out _).mono ?_
    rintro e w' ⟨rfl, rfl⟩
    clear HM
    obtain ⟨⟨q0, q1, q2, q3⟩, f0, f1, f2, f3⟩ := HK1.out.cells4
    obtain ⟨⟨r0, r1, r2, r3⟩, g0, g1, g2, g3⟩ := HK1.out.tl.cells4
    have HK2 := hide (HK1.out.swap.put4 (by intro p hp; simp at hp; rcases hp with rfl | rfl <;> simp <;> omega) (u0 := .int .i64 0) (u1 := .int .i64 0) (u2 := .int .i64 0) (u3 := .int .i64 0))
    obtain ⟨⟨z0, z1, z2, z3⟩, -⟩ := HK2.out.cells4
    clear HK1
    clear hg
    go_wp2
    exact bodyPost_ret (v := .tuple #[.agg #[.int .i64 0, .int .i64 0, .int .i64 0, .int .i64 0], .bool false]) (by simp [results, Try.results21, go_sem, z0, z1, z2, z3]) rfl ⟨rfl, HK2.out.below⟩
  rw [decide_eq_true hmay] at HM
  by_cases hlt : K < many
  · rw [show takB ⟨l, m, r, t⟩ T many = (⟨lvl ⟨l, m, r, t⟩ (T - t), m, r, T⟩, false) from (if_pos ⟨hin, hmay⟩).trans (if_pos (by simp only; rw [hK]; exact hlt)), hK]
    simp only
    have hd : decide (K < many) = true := by simpa using hlt
    clear hin hmay hK
    go_enter Try.func21, Try.ntmps21
    go_wp2_with fail
    refine (HA.out _).mono ?_
    rintro e w1 ⟨rfl, hb⟩
    obtain ⟨g, hg⟩ : ∃ g, w1.heap.size = g := ⟨_, rfl⟩
    have hgl : w.heap.size + 1 < g := by rw [← hg]; exact (HK0.out.step hb).lt
    have HK1 := hide ((HK0.out.step hb).pushN g hg 24 #[.int .i64 K, .int .i64 m, .int .i64 r, .int .i64 T])
    clear hb HK0 HA
    go_wp2_with fail
    refine (HM.out _).mono ?_
    rintro e w' ⟨rfl, rfl⟩
    clear HM
    obtain ⟨⟨q0, q1, q2, q3⟩, f0, f1, f2, f3⟩ := HK1.out.cells4
    obtain ⟨⟨r0, r1, r2, r3⟩, g0, g1, g2, g3⟩ := HK1.out.tl.cells4
    have HK2 := hide (HK1.out.swap.put4 (by intro p hp; simp at hp; rcases hp with rfl | rfl <;> simp <;> omega) (u0 := .int .i64 K) (u1 := .int .i64 m) (u2 := .int .i64 r) (u3 := .int .i64 T))
    obtain ⟨⟨z0, z1, z2, z3⟩, -⟩ := HK2.out.cells4
    clear HK1
    clear hg
    go_wp2
    exact bodyPost_ret (v := .tuple #[.agg #[.int .i64 K, .int .i64 m, .int .i64 r, .int .i64 T], .bool false]) (by simp [results, Try.results21, go_sem, z0, z1, z2, z3]) rfl ⟨rfl, HK2.out.below⟩
  · rw [show takB ⟨l, m, r, t⟩ T many = (⟨lvl ⟨l, m, r, t⟩ (T - t) - many, m, r, T⟩, true) from (if_pos ⟨hin, hmay⟩).trans (if_neg (by simp only; rw [hK]; exact hlt)), hK]
    simp only
    have hd : decide (K < many) = false := by simpa using hlt
    have wk : IntKind.i64.wrap (K - many) = K - many := IntWalk.i64_in _ (by have := hmay.1; have := hmay.2; omega)
    clear hin hmay hK
    go_enter Try.func21, Try.ntmps21
    go_wp2_with fail
    refine (HA.out _).mono ?_
    rintro e w1 ⟨rfl, hb⟩
    obtain ⟨g, hg⟩ : ∃ g, w1.heap.size = g := ⟨_, rfl⟩
    have hgl : w.heap.size + 1 < g := by rw [← hg]; exact (HK0.out.step hb).lt
    have HK1 := hide ((HK0.out.step hb).pushN g hg 24 #[.int .i64 K, .int .i64 m, .int .i64 r, .int .i64 T])
    have HK2 := hide (((HK0.out.step hb).pushN g hg 24 #[.int .i64 (K - many), .int .i64 m, .int .i64 r, .int .i64 T]).swap)
    clear hb HK0 HA
    go_wp2_with fail
    refine (HM.out _).mono ?_
    rintro e w' ⟨rfl, rfl⟩
    clear HM
    obtain ⟨⟨q0, q1, q2, q3⟩, f0, f1, f2, f3⟩ := HK1.out.cells4
    obtain ⟨⟨r0, r1, r2, r3⟩, g0, g1, g2, g3⟩ := HK1.out.tl.cells4
    clear HK1
    go_upto_region 7 with fail
    clear q0 q1 q2 q3 f0 f1 f2 f3 r0 r1 r2 r3 g0 g1 g2 g3 hg
    generalize w1.alloc (.cells #[.int .i64 (K - many), .int .i64 m, .int .i64 r, .int .i64 T] 24) = W2 at HK2 ⊢
    obtain ⟨⟨q0, q1, q2, q3⟩, f0, f1, f2, f3⟩ := HK2.out.cells4
    obtain ⟨⟨r0, r1, r2, r3⟩, g0, g1, g2, g3⟩ := HK2.out.tl.cells4
    have HK3 := hide (HK2.out.put4 (by intro p hp; simp at hp; rcases hp with rfl | rfl <;> simp <;> omega) (u0 := .int .i64 (K - many)) (u1 := .int .i64 m) (u2 := .int .i64 r) (u3 := .int .i64 T))
    obtain ⟨⟨z0, z1, z2, z3⟩, -⟩ := HK3.out.cells4
    clear HK2
    go_wp2
    exact bodyPost_ret (v := .tuple #[.agg #[.int .i64 (K - many), .int .i64 m, .int .i64 r, .int .i64 T], .bool true]) (by simp [results, Try.results21, go_sem, z0, z1, z2, z3]) rfl ⟨rfl, HK3.out.below⟩
end Go.Proofs.Ytcekikblgbdcoaa
