/-
  The model's buckets: BucketValid, BucketAt.
-/
import Derived.Test.YtcekikblgbdcoaaImpB2
namespace Go.Proofs.Ytcekikblgbdcoaa
open Go.RowKit
set_option linter.unusedVariables false
set_option maxRecDepth 100000

theorem bkV_eqS (l m r t : Int) : bkV ⟨l, m, r, t⟩ = (inB m 1 100 && inB l 0 m && inB r 0 100 && inB t 0 999) := by
  rw [Bool.eq_iff_iff, bkV_iff]
  simp only [okK, Bool.and_eq_true, inB_iff, and_assoc]

set_option maxHeartbeats 3200000 in
theorem specBV (l m r t : Int) (w : World) : Calls Try.prog 25 #[.agg #[.int .i64 l, .int .i64 m, .int .i64 r, .int .i64 t]] w fun e w' => e = .returned (.bool (bkV ⟨l, m, r, t⟩)) ∧ Below w.heap.size w w' := by
  have HB := hide ((Below.refl w.heap.size w).alloc (Nat.le_refl _) (.cells #[.int .i64 l, .int .i64 m, .int .i64 r, .int .i64 t] 24))
  rw [bkV_eqS]
  rcases h1 : inB m 1 100 with _ | _
  · have H1 := hide h1
    clear h1
    go_enter Try.func25, Try.ntmps25
    go_wp2_with fail
    refine (in_no _ _ _ _ H1.out).mono ?_
    rintro e w' ⟨rfl, rfl⟩
    go_wp2
    go_ret
    exact ⟨rfl, HB.out⟩
  rcases h2 : inB l 0 m with _ | _
  · have H1 := hide h1
    have H2 := hide h2
    clear h1 h2
    go_enter Try.func25, Try.ntmps25
    go_wp2_with fail
    refine (in_yes _ _ _ _ H1.out).mono ?_
    rintro e w' ⟨rfl, rfl⟩
    go_wp2_with fail
    refine (in_no _ _ _ _ H2.out).mono ?_
    rintro e w' ⟨rfl, rfl⟩
    go_wp2
    go_ret
    exact ⟨rfl, HB.out⟩
  rcases h3 : inB r 0 100 with _ | _
  · have H1 := hide h1
    have H2 := hide h2
    have H3 := hide h3
    clear h1 h2 h3
    go_enter Try.func25, Try.ntmps25
    go_wp2_with fail
    refine (in_yes _ _ _ _ H1.out).mono ?_
    rintro e w' ⟨rfl, rfl⟩
    go_wp2_with fail
    refine (in_yes _ _ _ _ H2.out).mono ?_
    rintro e w' ⟨rfl, rfl⟩
    go_wp2_with fail
    refine (in_no _ _ _ _ H3.out).mono ?_
    rintro e w' ⟨rfl, rfl⟩
    go_wp2
    go_ret
    exact ⟨rfl, HB.out⟩
  rcases h4 : inB t 0 999 with _ | _
  · have H1 := hide h1
    have H2 := hide h2
    have H3 := hide h3
    have H4 := hide h4
    clear h1 h2 h3 h4
    go_enter Try.func25, Try.ntmps25
    go_wp2_with fail
    refine (in_yes _ _ _ _ H1.out).mono ?_
    rintro e w' ⟨rfl, rfl⟩
    go_wp2_with fail
    refine (in_yes _ _ _ _ H2.out).mono ?_
    rintro e w' ⟨rfl, rfl⟩
    go_wp2_with fail
    refine (in_yes _ _ _ _ H3.out).mono ?_
    rintro e w' ⟨rfl, rfl⟩
    go_wp2_with fail
    refine (in_no _ _ _ _ H4.out).mono ?_
    rintro e w' ⟨rfl, rfl⟩
    go_wp2
    go_ret
    exact ⟨rfl, HB.out⟩
  have H1 := hide h1
  have H2 := hide h2
  have H3 := hide h3
  have H4 := hide h4
  clear h1 h2 h3 h4
  go_enter Try.func25, Try.ntmps25
  go_wp2_with fail
  refine (in_yes _ _ _ _ H1.out).mono ?_
  rintro e w' ⟨rfl, rfl⟩
  go_wp2_with fail
  refine (in_yes _ _ _ _ H2.out).mono ?_
  rintro e w' ⟨rfl, rfl⟩
  go_wp2_with fail
  refine (in_yes _ _ _ _ H3.out).mono ?_
  rintro e w' ⟨rfl, rfl⟩
  go_wp2_with fail
  refine (in_yes _ _ _ _ H4.out).mono ?_
  rintro e w' ⟨rfl, rfl⟩
  go_wp2
  go_ret
  exact ⟨rfl, HB.out⟩

set_option maxHeartbeats 3200000 in
theorem specBA (l m r t T : Int) (w : World) :
    Calls Try.prog 17 #[.agg #[.int .i64 l, .int .i64 m, .int .i64 r, .int .i64 t], .int .i64 T] w fun e w' =>
      e = .returned (.tuple #[.agg #[.int .i64 (atB ⟨l, m, r, t⟩ T).1.l, .int .i64 (atB ⟨l, m, r, t⟩ T).1.m, .int .i64 (atB ⟨l, m, r, t⟩ T).1.r, .int .i64 (atB ⟨l, m, r, t⟩ T).1.t], .bool (atB ⟨l, m, r, t⟩ T).2]) ∧ Below w.heap.size w w' := by
  have HK0 := hide (((Kp.refl w).push 24 #[.int .i64 l, .int .i64 m, .int .i64 r, .int .i64 t]).pushN (w.heap.size + 1) (by simp) 24 #[.int .i64 0, .int .i64 0, .int .i64 0, .int .i64 0])
  have HV := hide fun (W : World) => specBV l m r t W
  have HO := hide (bkV_iff ⟨l, m, r, t⟩)
  by_cases hin : inT ⟨l, m, r, t⟩ T
  · obtain ⟨hok, hT0, hT1⟩ := hin
    rw [show atB ⟨l, m, r, t⟩ T = (⟨lvl ⟨l, m, r, t⟩ (T - t), m, r, T⟩, true) from if_pos ⟨hok, hT0, hT1⟩]
    rw [HO.out.2 hok] at HV
    obtain ⟨h1, h2, h3, h4, h5, h6, h7, h8⟩ := hok
    simp only at *
    have hp := prod_rng h5 h6 (k := T - t) (by omega) (by omega)
    obtain ⟨p, hpe⟩ : ∃ p, r * (T - t) = p := ⟨_, rfl⟩
    obtain ⟨K, hK⟩ : ∃ K, lvl ⟨l, m, r, t⟩ (T - t) = K := ⟨_, rfl⟩
    rw [hK]
    rw [hpe] at hp
    have hcase : (l + p < m ∧ K = l + p) ∨ (m ≤ l + p ∧ K = m) := by
      rw [← hK]; unfold lvl; simp only; rw [hpe]; split <;> omega
    have w1 : IntKind.i64.wrap (T - t) = T - t := IntWalk.i64_in _ (by omega)
    have w2 : IntKind.i64.wrap (r * (T - t)) = p := by rw [hpe]; exact IntWalk.i64_in _ (by omega)
    have w3 : IntKind.i64.wrap (l + p) = l + p := IntWalk.i64_in _ (by omega)
    have HI := hide (inB_true hT0 hT1)
    clear hK hpe HO
    rcases hcase with ⟨c1, hKe⟩ | ⟨c1, hKe⟩ <;> rw [hKe] <;> clear hKe
    · have c2 : ¬ m ≤ l + p := by omega
      go_enter Try.func17, Try.ntmps17
      go_wp2_with fail
      refine (HV.out _).mono ?_
      rintro e w1' ⟨rfl, hb⟩
      have HK1 := hide (HK0.out.step hb)
      obtain ⟨⟨q0, q1, q2, q3⟩, f0, f1, f2, f3⟩ := HK1.out.cells4
      obtain ⟨⟨r0, r1, r2, r3⟩, g0, g1, g2, g3⟩ := HK1.out.tl.cells4
      have HK2 := hide (((HK1.out.swap.put (by intro p hp; simp at hp; rcases hp with rfl; simp) 0 (.int .i64 (l + p))).put (by intro p hp; simp at hp; rcases hp with rfl; simp) 3 (.int .i64 T)).swap)
      simp only [List.setIfInBounds_toArray, List.set_cons_zero, List.set_cons_succ] at HK2
      clear hb HK0 HK1 HV
      go_wp2_with fail
      refine (in_yes _ _ _ _ HI.out).mono ?_
      rintro e w' ⟨rfl, rfl⟩
      go_upto_region 5 with fail
      clear q0 q1 q2 q3 f0 f1 f2 f3 r0 r1 r2 r3 g0 g1 g2 g3
      generalize (w1'.setCell ⟨w.heap.size, 0, none⟩ (.int .i64 (l + p))).setCell ⟨w.heap.size, 3, none⟩ (.int .i64 T) = W2 at HK2 ⊢
      obtain ⟨⟨q0, q1, q2, q3⟩, f0, f1, f2, f3⟩ := HK2.out.cells4
      obtain ⟨⟨r0, r1, r2, r3⟩, g0, g1, g2, g3⟩ := HK2.out.tl.cells4
      have HK3 := hide (HK2.out.put4 (by intro p hp; simp at hp; rcases hp with rfl; simp) (u0 := .int .i64 (l + p)) (u1 := .int .i64 m) (u2 := .int .i64 r) (u3 := .int .i64 T))
      obtain ⟨⟨z0, z1, z2, z3⟩, -⟩ := HK3.out.cells4
      clear HK2
      go_wp2
      exact bodyPost_ret (v := .tuple #[.agg #[.int .i64 (l + p), .int .i64 m, .int .i64 r, .int .i64 T], .bool true]) (by simp [results, Try.results17, go_sem, z0, z1, z2, z3]) rfl ⟨rfl, HK3.out.below⟩
    · have c2 : ¬ l + p < m := by omega
      go_enter Try.func17, Try.ntmps17
      go_wp2_with fail
      refine (HV.out _).mono ?_
      rintro e w1' ⟨rfl, hb⟩
      have HK1 := hide (HK0.out.step hb)
      obtain ⟨⟨q0, q1, q2, q3⟩, f0, f1, f2, f3⟩ := HK1.out.cells4
      obtain ⟨⟨r0, r1, r2, r3⟩, g0, g1, g2, g3⟩ := HK1.out.tl.cells4
      have HK2 := hide (((HK1.out.swap.put (by intro p hp; simp at hp; rcases hp with rfl; simp) 0 (.int .i64 m)).put (by intro p hp; simp at hp; rcases hp with rfl; simp) 3 (.int .i64 T)).swap)
      simp only [List.setIfInBounds_toArray, List.set_cons_zero, List.set_cons_succ] at HK2
      clear hb HK0 HK1 HV
      go_wp2_with fail
      refine (in_yes _ _ _ _ HI.out).mono ?_
      rintro e w' ⟨rfl, rfl⟩
      go_upto_region 5 with fail
      clear q0 q1 q2 q3 f0 f1 f2 f3 r0 r1 r2 r3 g0 g1 g2 g3
      generalize (w1'.setCell ⟨w.heap.size, 0, none⟩ (.int .i64 m)).setCell ⟨w.heap.size, 3, none⟩ (.int .i64 T) = W2 at HK2 ⊢
      obtain ⟨⟨q0, q1, q2, q3⟩, f0, f1, f2, f3⟩ := HK2.out.cells4
      obtain ⟨⟨r0, r1, r2, r3⟩, g0, g1, g2, g3⟩ := HK2.out.tl.cells4
      have HK3 := hide (HK2.out.put4 (by intro p hp; simp at hp; rcases hp with rfl; simp) (u0 := .int .i64 m) (u1 := .int .i64 m) (u2 := .int .i64 r) (u3 := .int .i64 T))
      obtain ⟨⟨z0, z1, z2, z3⟩, -⟩ := HK3.out.cells4
      clear HK2
      go_wp2
      exact bodyPost_ret (v := .tuple #[.agg #[.int .i64 m, .int .i64 m, .int .i64 r, .int .i64 T], .bool true]) (by simp [results, Try.results17, go_sem, z0, z1, z2, z3]) rfl ⟨rfl, HK3.out.below⟩
  · rw [show atB ⟨l, m, r, t⟩ T = (⟨0, 0, 0, 0⟩, false) from if_neg hin]
    simp only
    rcases hv : bkV ⟨l, m, r, t⟩ with _ | _
    · rw [hv] at HV
      clear HO hin hv
      go_enter Try.func17, Try.ntmps17
      go_wp2_with fail
      refine (HV.out _).mono ?_
      rintro e w1' ⟨rfl, hb⟩
      have HK1 := hide (HK0.out.step hb)
      obtain ⟨⟨q0, q1, q2, q3⟩, f0, f1, f2, f3⟩ := HK1.out.cells4
      obtain ⟨⟨r0, r1, r2, r3⟩, g0, g1, g2, g3⟩ := HK1.out.tl.cells4
      have HK2 := hide (HK1.out.put4 (by intro p hp; simp at hp; rcases hp with rfl; simp) (u0 := .int .i64 0) (u1 := .int .i64 0) (u2 := .int .i64 0) (u3 := .int .i64 0))
      obtain ⟨⟨z0, z1, z2, z3⟩, -⟩ := HK2.out.cells4
      clear hb HK0 HK1 HV
      go_wp2
      exact bodyPost_ret (v := .tuple #[.agg #[.int .i64 0, .int .i64 0, .int .i64 0, .int .i64 0], .bool false]) (by simp [results, Try.results17, go_sem, z0, z1, z2, z3]) rfl ⟨rfl, HK2.out.below⟩
    · rw [hv] at HV
      have HI := hide (show inB T t 999 = false from by
        rw [Bool.eq_false_iff]; intro h; rw [inB_iff] at h; exact hin ⟨HO.out.1 hv, h.1, h.2⟩)
      clear HO hin hv
      go_enter Try.func17, Try.ntmps17
      go_wp2_with fail
      refine (HV.out _).mono ?_
      rintro e w1' ⟨rfl, hb⟩
      have HK1 := hide (HK0.out.step hb)
      obtain ⟨⟨k0, k1, k2, k3⟩, -⟩ := HK1.out.tl.cells4
      go_wp2_with fail
      refine (in_no _ _ _ _ HI.out).mono ?_
      rintro e w' ⟨rfl, rfl⟩
      clear k0 k1 k2 k3
      obtain ⟨⟨q0, q1, q2, q3⟩, f0, f1, f2, f3⟩ := HK1.out.cells4
      obtain ⟨⟨r0, r1, r2, r3⟩, g0, g1, g2, g3⟩ := HK1.out.tl.cells4
      have HK2 := hide (HK1.out.put4 (by intro p hp; simp at hp; rcases hp with rfl; simp) (u0 := .int .i64 0) (u1 := .int .i64 0) (u2 := .int .i64 0) (u3 := .int .i64 0))
      obtain ⟨⟨z0, z1, z2, z3⟩, -⟩ := HK2.out.cells4
      clear hb HK0 HK1 HV
      go_wp2
      exact bodyPost_ret (v := .tuple #[.agg #[.int .i64 0, .int .i64 0, .int .i64 0, .int .i64 0], .bool false]) (by simp [results, Try.results17, go_sem, z0, z1, z2, z3]) rfl ⟨rfl, HK2.out.below⟩
end Go.Proofs.Ytcekikblgbdcoaa
