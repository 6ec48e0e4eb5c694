/-
  The program's BucketAt.
-/
import Derived.Test.YtcekikblgbdcoaaImpB1
import Derived.Deep.DeepCutAuto
import Derived.Deep.CutBlock
namespace Go.Proofs.Ytcekikblgbdcoaa
open Go.RowKit
set_option linter.unusedVariables false
set_option maxRecDepth 100000

set_option maxHeartbeats 3200000 in
theorem implBA (l m r t T : Int) (w : World) :
    Calls Try.prog 16 #[.agg #[.int .i64 l, .int .i64 m, .int .i64 r, .int .i64 t], .int .i64 T] w fun e w' =>
      e = .returned (.tuple #[.agg #[.int .i64 (atB ⟨l, m, r, t⟩ T).1.l, .int .i64 (atB ⟨l, m, r, t⟩ T).1.m, .int .i64 (atB ⟨l, m, r, t⟩ T).1.r, .int .i64 (atB ⟨l, m, r, t⟩ T).1.t], .bool (atB ⟨l, m, r, t⟩ T).2]) ∧ Below w.heap.size w w' := by
  have HK0 := hide (((Kp.refl w).push 24 #[.int .i64 l, .int .i64 m, .int .i64 r, .int .i64 t]).pushN (w.heap.size + 1) (by simp) 24 #[.int .i64 0, .int .i64 0, .int .i64 0, .int .i64 0])
  have HV := hide fun (W : World) => implBV l m r t W
  have HO := hide (bkV_iff ⟨l, m, r, t⟩)
  by_cases hin : inT ⟨l, m, r, t⟩ T
  · obtain ⟨hok, hT0, hT1⟩ := hin
    rw [show atB ⟨l, m, r, t⟩ T = (⟨lvl ⟨l, m, r, t⟩ (T - t), m, r, T⟩, true) from if_pos ⟨hok, hT0, hT1⟩]
    rw [HO.out.2 hok] at HV
    obtain ⟨h1, h2, h3, h4, h5, h6, h7, h8⟩ := hok
    simp only at *
    have hp := prod_rng h5 h6 (k := T - t) (by omega) (by omega)
    obtain ⟨p, hpe⟩ : ∃ p, r * (T - t) = p := ⟨_, rfl⟩
    obtain ⟨K, hK⟩ : ∃ K, lvl ⟨l, m, r, t⟩ (T - t) = K := ⟨_, rfl⟩
    rw [hK]
    rw [hpe] at hp
    have hcase : (l + p ≤ m ∧ K = l + p) ∨ (m < l + p ∧ K = m) := by
      rw [← hK]; unfold lvl; simp only; rw [hpe]; split <;> omega
    have w1 : IntKind.i64.wrap (T - t) = T - t := IntWalk.i64_in _ (by omega)
    have w2 : IntKind.i64.wrap (r * (T - t)) = p := by rw [hpe]; exact IntWalk.i64_in _ (by omega)
    have w3 : IntKind.i64.wrap (l + p) = l + p := IntWalk.i64_in _ (by omega)
    have d1 : decide (T < t) = false := by simp; omega
    have d2 : decide (999 < T) = false := by simp; omega
    clear hK hpe HO
    rcases hcase with ⟨c1, hKe⟩ | ⟨c1, hKe⟩ <;> rw [hKe] <;> clear hKe
    · have c2 : ¬ m < l + p := by omega
      go_enter Try.func16, Try.ntmps16
      go_wp2_with fail
      refine (HV.out _).mono ?_
      rintro e w1' ⟨rfl, hb⟩
      have HK1 := hide (HK0.out.step hb)
      obtain ⟨⟨q0, q1, q2, q3⟩, f0, f1, f2, f3⟩ := HK1.out.cells4
      obtain ⟨⟨r0, r1, r2, r3⟩, g0, g1, g2, g3⟩ := HK1.out.tl.cells4
      have HK2 := hide (((HK1.out.swap.put (by intro p hp; simp at hp; rcases hp with rfl; simp) 0 (.int .i64 (l + p))).put (by intro p hp; simp at hp; rcases hp with rfl; simp) 3 (.int .i64 T)).swap)
      simp only [List.setIfInBounds_toArray, List.set_cons_zero, List.set_cons_succ] at HK2
      clear hb HK0 HK1 HV
      go_upto_region 5 with fail
      clear q0 q1 q2 q3 f0 f1 f2 f3 r0 r1 r2 r3 g0 g1 g2 g3
      generalize (w1'.setCell ⟨w.heap.size, 0, none⟩ (.int .i64 (l + p))).setCell ⟨w.heap.size, 3, none⟩ (.int .i64 T) = W2 at HK2 ⊢
      obtain ⟨⟨q0, q1, q2, q3⟩, f0, f1, f2, f3⟩ := HK2.out.cells4
      obtain ⟨⟨r0, r1, r2, r3⟩, g0, g1, g2, g3⟩ := HK2.out.tl.cells4
      have HK3 := hide (HK2.out.put4 (by intro p hp; simp at hp; rcases hp with rfl; simp) (u0 := .int .i64 (l + p)) (u1 := .int .i64 m) (u2 := .int .i64 r) (u3 := .int .i64 T))
      obtain ⟨⟨z0, z1, z2, z3⟩, -⟩ := HK3.out.cells4
      clear HK2
      go_wp2
      exact bodyPost_ret (v := .tuple #[.agg #[.int .i64 (l + p), .int .i64 m, .int .i64 r, .int .i64 T], .bool true]) (by simp [results, Try.results16, go_sem, z0, z1, z2, z3]) rfl ⟨rfl, HK3.out.below⟩
    · have c2 : ¬ l + p ≤ m := by omega
      go_enter Try.func16, Try.ntmps16
      go_wp2_with fail
      refine (HV.out _).mono ?_
      rintro e w1' ⟨rfl, hb⟩
      have HK1 := hide (HK0.out.step hb)
      obtain ⟨⟨q0, q1, q2, q3⟩, f0, f1, f2, f3⟩ := HK1.out.cells4
      obtain ⟨⟨r0, r1, r2, r3⟩, g0, g1, g2, g3⟩ := HK1.out.tl.cells4
      have HK2 := hide (((HK1.out.swap.put (by intro p hp; simp at hp; rcases hp with rfl; simp) 0 (.int .i64 m)).put (by intro p hp; simp at hp; rcases hp with rfl; simp) 3 (.int .i64 T)).swap)
      simp only [List.setIfInBounds_toArray, List.set_cons_zero, List.set_cons_succ] at HK2
      clear hb HK0 HK1 HV
      go_upto_region 5 with fail
      clear q0 q1 q2 q3 f0 f1 f2 f3 r0 r1 r2 r3 g0 g1 g2 g3
      generalize (w1'.setCell ⟨w.heap.size, 0, none⟩ (.int .i64 m)).setCell ⟨w.heap.size, 3, none⟩ (.int .i64 T) = W2 at HK2 ⊢
      obtain ⟨⟨q0, q1, q2, q3⟩, f0, f1, f2, f3⟩ := HK2.out.cells4
      obtain ⟨⟨r0, r1, r2, r3⟩, g0, g1, g2, g3⟩ := HK2.out.tl.cells4
      have HK3 := hide (HK2.out.put4 (by intro p hp; simp at hp; rcases hp with rfl; simp) (u0 := .int .i64 m) (u1 := .int .i64 m) (u2 := .int .i64 r) (u3 := .int .i64 T))
      obtain ⟨⟨z0, z1, z2, z3⟩, -⟩ := HK3.out.cells4
      clear HK2
      go_wp2
      exact bodyPost_ret (v := .tuple #[.agg #[.int .i64 m, .int .i64 m, .int .i64 r, .int .i64 T], .bool true]) (by simp [results, Try.results16, go_sem, z0, z1, z2, z3]) rfl ⟨rfl, HK3.out.below⟩
  · rw [show atB ⟨l, m, r, t⟩ T = (⟨0, 0, 0, 0⟩, false) from if_neg hin]
    simp only
    rcases hv : bkV ⟨l, m, r, t⟩ with _ | _
    · rw [hv] at HV
      clear HO hin hv
      go_enter Try.func16, Try.ntmps16
      go_wp2_with fail
      refine (HV.out _).mono ?_
      rintro e w1' ⟨rfl, hb⟩
      have HK1 := hide (HK0.out.step hb)
      obtain ⟨⟨q0, q1, q2, q3⟩, f0, f1, f2, f3⟩ := HK1.out.cells4
      obtain ⟨⟨r0, r1, r2, r3⟩, g0, g1, g2, g3⟩ := HK1.out.tl.cells4
      have HK2 := hide (HK1.out.put4 (by intro p hp; simp at hp; rcases hp with rfl; simp) (u0 := .int .i64 0) (u1 := .int .i64 0) (u2 := .int .i64 0) (u3 := .int .i64 0))
      obtain ⟨⟨z0, z1, z2, z3⟩, -⟩ := HK2.out.cells4
      clear hb HK0 HK1 HV
      go_wp2
      exact bodyPost_ret (v := .tuple #[.agg #[.int .i64 0, .int .i64 0, .int .i64 0, .int .i64 0], .bool false]) (by simp [results, Try.results16, go_sem, z0, z1, z2, z3]) rfl ⟨rfl, HK2.out.below⟩
    · rw [hv] at HV
      have hok := HO.out.1 hv
      have hTT : T < t ∨ 999 < T := by
        rcases Int.lt_or_le T t with h | h
        · exact .inl h
        · right
          rcases Int.lt_or_le 999 T with h' | h'
          · exact h'
          · exact absurd ⟨hok, h, h'⟩ hin
      clear HO hin hv hok
      by_cases hlt : T < t
      · have d1 : decide (T < t) = true := by simpa using hlt
        go_enter Try.func16, Try.ntmps16
        go_wp2_with fail
        refine (HV.out _).mono ?_
        rintro e w1' ⟨rfl, hb⟩
        have HK1 := hide (HK0.out.step hb)
        obtain ⟨⟨q0, q1, q2, q3⟩, f0, f1, f2, f3⟩ := HK1.out.cells4
        obtain ⟨⟨r0, r1, r2, r3⟩, g0, g1, g2, g3⟩ := HK1.out.tl.cells4
        have HK2 := hide (HK1.out.put4 (by intro p hp; simp at hp; rcases hp with rfl; simp) (u0 := .int .i64 0) (u1 := .int .i64 0) (u2 := .int .i64 0) (u3 := .int .i64 0))
        obtain ⟨⟨z0, z1, z2, z3⟩, -⟩ := HK2.out.cells4
        clear hb HK0 HK1 HV
        go_wp2
        exact bodyPost_ret (v := .tuple #[.agg #[.int .i64 0, .int .i64 0, .int .i64 0, .int .i64 0], .bool false]) (by simp [results, Try.results16, go_sem, z0, z1, z2, z3]) rfl ⟨rfl, HK2.out.below⟩
      · have h9 : 999 < T := by omega
        have d1 : decide (T < t) = false := by simpa using hlt
        have d2 : decide (999 < T) = true := by simpa using h9
        go_enter Try.func16, Try.ntmps16
        go_wp2_with fail
        refine (HV.out _).mono ?_
        rintro e w1' ⟨rfl, hb⟩
        have HK1 := hide (HK0.out.step hb)
        obtain ⟨⟨q0, q1, q2, q3⟩, f0, f1, f2, f3⟩ := HK1.out.cells4
        obtain ⟨⟨r0, r1, r2, r3⟩, g0, g1, g2, g3⟩ := HK1.out.tl.cells4
        have HK2 := hide (HK1.out.put4 (by intro p hp; simp at hp; rcases hp with rfl; simp) (u0 := .int .i64 0) (u1 := .int .i64 0) (u2 := .int .i64 0) (u3 := .int .i64 0))
        obtain ⟨⟨z0, z1, z2, z3⟩, -⟩ := HK2.out.cells4
        clear hb HK0 HK1 HV
        go_wp2
        exact bodyPost_ret (v := .tuple #[.agg #[.int .i64 0, .int .i64 0, .int .i64 0, .int .i64 0], .bool false]) (by simp [results, Try.results16, go_sem, z0, z1, z2, z3]) rfl ⟨rfl, HK2.out.below⟩
end Go.Proofs.Ytcekikblgbdcoaa
