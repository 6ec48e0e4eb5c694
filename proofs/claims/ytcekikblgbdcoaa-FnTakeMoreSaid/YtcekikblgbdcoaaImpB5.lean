/-
  The program's levels: take, grown.
-/
import Derived.Test.YtcekikblgbdcoaaImpB4
namespace Go.Proofs.Ytcekikblgbdcoaa
open Go.RowKit
set_option linter.unusedVariables false
set_option maxRecDepth 100000

theorem Blk.set4 {w : World} {g : Nat} {t : TypeId} {v0 v1 v2 v3 : Value} (h : Blk w g t #[v0, v1, v2, v3]) (u0 u1 u2 u3 : Value) :
    Blk ((((w.setCell ⟨g, 0, none⟩ u0).setCell ⟨g, 1, none⟩ u1).setCell ⟨g, 2, none⟩ u2).setCell ⟨g, 3, none⟩ u3) g t #[u0, u1, u2, u3] ∧ w.grownBy ((((w.setCell ⟨g, 0, none⟩ u0).setCell ⟨g, 1, none⟩ u1).setCell ⟨g, 2, none⟩ u2).setCell ⟨g, 3, none⟩ u3) (some g) := by
  refine ⟨?_, grown_trans' (grown_trans' (grown_trans' (grown1B _ _ _ _) (grown1B _ _ _ _)) (grown1B _ _ _ _)) (grown1B _ _ _ _)⟩
  have := (((h.set_ 0 u0).set_ 1 u1).set_ 2 u2).set_ 3 u3
  simpa using this
theorem Blk.cells4 {w : World} {g : Nat} {t : TypeId} {v0 v1 v2 v3 : Value} (h : Blk w g t #[v0, v1, v2, v3]) :
    (w.cell? ⟨g, 0, none⟩ = some v0 ∧ w.cell? ⟨g, 1, none⟩ = some v1 ∧ w.cell? ⟨g, 2, none⟩ = some v2 ∧ w.cell? ⟨g, 3, none⟩ = some v3) ∧ w.frozen? ⟨g, 0, none⟩ = false ∧ w.frozen? ⟨g, 1, none⟩ = false ∧ w.frozen? ⟨g, 2, none⟩ = false ∧ w.frozen? ⟨g, 3, none⟩ = false :=
  ⟨⟨by rw [h.cell]; rfl, by rw [h.cell]; rfl, by rw [h.cell]; rfl, by rw [h.cell]; rfl⟩, h.frozen 0, h.frozen 1, h.frozen 2, h.frozen 3⟩

set_option maxHeartbeats 3200000 in
theorem take_none (Q c : Nat) (A : Option Addr) (w : World) (hq : Blk w Q 50 #[.slice A 0 c]) :
    Calls Try.prog 34 #[.pointer (some ⟨Q, 0, none⟩)] w fun e w' => e = .returned (.tuple #[.agg #[.int .i64 0, .int .i64 0, .int .i64 0, .int .i64 0], .bool false]) ∧ Below w.heap.size w w' := by
  have HK0 := hide ((Kp.refl w).push 24 #[.int .i64 0, .int .i64 0, .int .i64 0, .int .i64 0])
  have hq1 := hq.alloc (.cells #[.int .i64 0, .int .i64 0, .int .i64 0, .int .i64 0] 24)
  have q0 := hq1.cell 0
  simp at q0
  clear hq hq1
  go_enter Try.func34, Try.ntmps34
  go_wp2
  exact bodyPost_ret (v := .tuple #[.agg #[.int .i64 0, .int .i64 0, .int .i64 0, .int .i64 0], .bool false]) (by simp [results, Try.results34, go_sem]) rfl ⟨rfl, HK0.out.below⟩

/-- what is handed on -/
def TakeP (w W : World) (Q g o n : Nat) : Prop :=
  ∃ A2 c2, Blk W Q 50 #[.slice A2 n c2] ∧ (0 < n → A2 = some ⟨g, o + 4, none⟩) ∧ n ≤ c2 ∧ c2 ≤ maxLen ∧ w.grownBy W (some Q)

set_option maxHeartbeats 3200000 in
theorem take_yes (Q g o n c : Nat) (x0 x1 x2 x3 : Int) (w : World) (hq : Blk w Q 50 #[.slice (some ⟨g, o, none⟩) (n + 1) c]) (hc : n + 1 ≤ c) (hcm : c ≤ maxLen)
    (h0 : w.cell? ⟨g, o, none⟩ = some (.int .i64 x0)) (h1 : w.cell? ⟨g, o + 1, none⟩ = some (.int .i64 x1)) (h2 : w.cell? ⟨g, o + 2, none⟩ = some (.int .i64 x2)) (h3 : w.cell? ⟨g, o + 3, none⟩ = some (.int .i64 x3)) (hg : g < w.heap.size) :
    Calls Try.prog 34 #[.pointer (some ⟨Q, 0, none⟩)] w fun e w' => e = .returned (.tuple #[.agg #[.int .i64 x0, .int .i64 x1, .int .i64 x2, .int .i64 x3], .bool true]) ∧ TakeP w w' Q g o n := by
  have hQw := hq.lt
  unfold maxLen at hcm
  have k : ∀ (a : Addr), a.block < w.heap.size → (w.alloc (.cells #[.int .i64 0, .int .i64 0, .int .i64 0, .int .i64 0] 24)).cell? a = w.cell? a := fun a ha => World.cell?_alloc_lt w _ a ha
  have e0 := (k ⟨g, o, none⟩ hg).trans h0
  have e1 := (k ⟨g, o + 1, none⟩ hg).trans h1
  have e2 := (k ⟨g, o + 2, none⟩ hg).trans h2
  have e3 := (k ⟨g, o + 3, none⟩ hg).trans h3
  have hq1 := hq.alloc (.cells #[.int .i64 0, .int .i64 0, .int .i64 0, .int .i64 0] 24)
  have q0 := hq1.cell 0
  simp at q0
  clear k h0 h1 h2 h3
  go_enter Try.func34, Try.ntmps34
  go_upto_region 4 with fail
  have HK2 := hide ((((Kp.refl w).push 24 #[.int .i64 0, .int .i64 0, .int .i64 0, .int .i64 0]).pushN (w.heap.size + 1) (by simp) 24 #[.int .i64 x0, .int .i64 x1, .int .i64 x2, .int .i64 x3]))
  have hq2 := hq1.alloc (.cells #[.int .i64 x0, .int .i64 x1, .int .i64 x2, .int .i64 x3] 24)
  clear e0 e1 e2 e3 q0 hq1 hq
  generalize (w.alloc (.cells #[.int .i64 0, .int .i64 0, .int .i64 0, .int .i64 0] 24)).alloc (.cells #[.int .i64 x0, .int .i64 x1, .int .i64 x2, .int .i64 x3] 24) = W2 at *
  have q0 := hq2.cell 0
  have qf := hq2.frozen 0
  simp at q0
  obtain ⟨X, hX⟩ : ∃ X, (if c = 1 then some (⟨g, o, none⟩ : Addr) else some ⟨g, o + 4, none⟩) = X := ⟨_, rfl⟩
  have HX : Hid (0 < n → X = some ⟨g, o + 4, none⟩) := fun hn => by rw [← hX, if_neg (by omega)]
  have HQ3 := hide (hq2.set_ 0 (.slice X n (c - 1)))
  have HN := hide (HK2.out.hd.far (p := ⟨Q, 0, none⟩) (by simp; omega) (.slice X n (c - 1)))
  have HR := hide (HK2.out.tl.hd.far (p := ⟨Q, 0, none⟩) (by simp; omega) (.slice X n (c - 1)))
  have HG := hide (grown_trans' (grown_of_below HK2.out.below (some Q)) (grown1B W2 Q 0 (.slice X n (c - 1))))
  clear hq2 HK2
  go_upto_region 5 with fail
  clear q0 qf hX
  generalize W2.setCell ⟨Q, 0, none⟩ (.slice X n (c - 1)) = W3 at HQ3 HN HR HG ⊢
  obtain ⟨⟨q0, q1, q2, q3⟩, -⟩ := HN.out.cells4
  obtain ⟨⟨r0, r1, r2, r3⟩, f0, f1, f2, f3⟩ := HR.out.cells4
  have hs := HR.out.set4 (.int .i64 x0) (.int .i64 x1) (.int .i64 x2) (.int .i64 x3)
  obtain ⟨⟨z0, z1, z2, z3⟩, -⟩ := hs.1.cells4
  have HT : Hid (TakeP w ((((W3.setCell ⟨w.heap.size, 0, none⟩ (.int .i64 x0)).setCell ⟨w.heap.size, 1, none⟩ (.int .i64 x1)).setCell ⟨w.heap.size, 2, none⟩ (.int .i64 x2)).setCell ⟨w.heap.size, 3, none⟩ (.int .i64 x3)) Q g o n) :=
    ⟨X, c - 1, by simpa using HQ3.out.grown hs.2 (by intro e; injection e with e; omega), HX.out, by omega, by unfold maxLen; omega, grown_own HG.out hs.2 (fun k hk => by injection hk with hk; omega)⟩
  clear hs HQ3 HN HR HG HX
  go_wp2
  exact bodyPost_ret (v := .tuple #[.agg #[.int .i64 x0, .int .i64 x1, .int .i64 x2, .int .i64 x3], .bool true]) (by simp [results, Try.results34, go_sem, z0, z1, z2, z3]) rfl ⟨rfl, HT.out⟩

set_option maxHeartbeats 3200000 in
theorem grown_yes (l m r t : Int) (w : World) (ht0 : 0 ≤ t) (ht1 : t ≤ 999) :
    Calls Try.prog 35 #[.agg #[.int .i64 l, .int .i64 m, .int .i64 r, .int .i64 t]] w fun e w' =>
      e = .returned (.tuple #[.agg #[.int .i64 (atB ⟨l, m, r, t⟩ (t + 1)).1.l, .int .i64 (atB ⟨l, m, r, t⟩ (t + 1)).1.m, .int .i64 (atB ⟨l, m, r, t⟩ (t + 1)).1.r, .int .i64 (atB ⟨l, m, r, t⟩ (t + 1)).1.t], .bool ((atB ⟨l, m, r, t⟩ (t + 1)).2 && decide (l < (atB ⟨l, m, r, t⟩ (t + 1)).1.l))]) ∧ Below w.heap.size w w' := by
  have HK0 := hide (((Kp.refl w).push 24 #[.int .i64 l, .int .i64 m, .int .i64 r, .int .i64 t]).pushN (w.heap.size + 1) (by simp) 24 #[.int .i64 0, .int .i64 0, .int .i64 0, .int .i64 0])
  have HA := hide fun (W : World) => implBA l m r t (t + 1) W
  have wt : IntKind.i64.wrap (t + 1) = t + 1 := IntWalk.i64_in _ (by omega)
  generalize atB ⟨l, m, r, t⟩ (t + 1) = q at *
  obtain ⟨⟨a, b, c, d⟩, k⟩ := q
  simp only at HA ⊢
  rcases k with _ | _
  · simp only [Bool.false_and]
    go_enter Try.func35, Try.ntmps35
    go_wp2_with fail
    refine (HA.out _).mono ?_
    rintro e w1 ⟨rfl, hb⟩
    obtain ⟨g, hg⟩ : ∃ g, w1.heap.size = g := ⟨_, rfl⟩
    have hgl : w.heap.size + 1 < g := by rw [← hg]; exact (HK0.out.step hb).lt
    have HK1 := hide ((HK0.out.step hb).pushN g hg 24 #[.int .i64 a, .int .i64 b, .int .i64 c, .int .i64 d])
    clear hb HK0 HA wt
    have HK2 := hide HK1.out.drew
    go_upto_region 2 with fail
    clear hg
    generalize w1.alloc (.cells #[.int .i64 a, .int .i64 b, .int .i64 c, .int .i64 d] 24) = W2 at *
    obtain ⟨⟨q0, q1, q2, q3⟩, f0, f1, f2, f3⟩ := HK1.out.cells4
    obtain ⟨⟨r0, r1, r2, r3⟩, g0, g1, g2, g3⟩ := HK1.out.tl.cells4
    obtain ⟨⟨s0, s1, s2, s3⟩, -⟩ := HK1.out.tl.tl.cells4
    have HK3 := hide (HK2.out.swap.put4 (by intro p hp; simp at hp; rcases hp with rfl | rfl <;> simp <;> omega) (u0 := .int .i64 a) (u1 := .int .i64 b) (u2 := .int .i64 c) (u3 := .int .i64 d))
    have y0 := HK1.out.tl.hd.set_ 0 (.int .i64 a)
    have y1 := y0.set_ 1 (.int .i64 b)
    have y2 := y1.set_ 2 (.int .i64 c)
    have y3 := y2.set_ 3 (.int .i64 d)
    have z0 := y0.cell 0
    have z1 := y1.cell 1
    have z2 := y2.cell 2
    have z3 := y3.cell 3
    simp only [List.setIfInBounds_toArray, List.set_cons_zero, List.set_cons_succ, List.getElem?_toArray, List.getElem?_cons_zero, List.getElem?_cons_succ] at z0 z1 z2 z3
    clear y0 y1 y2 y3
    clear HK1 HK2
    go_region
    all_goals go_wp2
    all_goals exact bodyPost_ret (v := .tuple #[.agg #[.int .i64 a, .int .i64 b, .int .i64 c, .int .i64 d], .bool false]) (by simp [results, Try.results35, go_sem, z0, z1, z2, z3]) rfl ⟨rfl, HK3.out.below⟩
  · simp only [Bool.true_and]
    go_enter Try.func35, Try.ntmps35
    go_wp2_with fail
    refine (HA.out _).mono ?_
    rintro e w1 ⟨rfl, hb⟩
    obtain ⟨g, hg⟩ : ∃ g, w1.heap.size = g := ⟨_, rfl⟩
    have hgl : w.heap.size + 1 < g := by rw [← hg]; exact (HK0.out.step hb).lt
    have HK1 := hide ((HK0.out.step hb).pushN g hg 24 #[.int .i64 a, .int .i64 b, .int .i64 c, .int .i64 d])
    clear hb HK0 HA wt
    have HK2 := hide HK1.out.drew
    go_upto_region 2 with fail
    clear hg
    generalize w1.alloc (.cells #[.int .i64 a, .int .i64 b, .int .i64 c, .int .i64 d] 24) = W2 at *
    obtain ⟨⟨q0, q1, q2, q3⟩, f0, f1, f2, f3⟩ := HK1.out.cells4
    obtain ⟨⟨r0, r1, r2, r3⟩, g0, g1, g2, g3⟩ := HK1.out.tl.cells4
    obtain ⟨⟨s0, s1, s2, s3⟩, -⟩ := HK1.out.tl.tl.cells4
    have HK3 := hide (HK2.out.swap.put4 (by intro p hp; simp at hp; rcases hp with rfl | rfl <;> simp <;> omega) (u0 := .int .i64 a) (u1 := .int .i64 b) (u2 := .int .i64 c) (u3 := .int .i64 d))
    have y0 := HK1.out.tl.hd.set_ 0 (.int .i64 a)
    have y1 := y0.set_ 1 (.int .i64 b)
    have y2 := y1.set_ 2 (.int .i64 c)
    have y3 := y2.set_ 3 (.int .i64 d)
    have z0 := y0.cell 0
    have z1 := y1.cell 1
    have z2 := y2.cell 2
    have z3 := y3.cell 3
    simp only [List.setIfInBounds_toArray, List.set_cons_zero, List.set_cons_succ, List.getElem?_toArray, List.getElem?_cons_zero, List.getElem?_cons_succ] at z0 z1 z2 z3
    clear y0 y1 y2 y3
    clear HK1 HK2
    go_region
    all_goals go_wp2
    all_goals exact bodyPost_ret (v := .tuple #[.agg #[.int .i64 a, .int .i64 b, .int .i64 c, .int .i64 d], .bool (decide (l < a))]) (by simp [results, Try.results35, go_sem, z0, z1, z2, z3]) rfl ⟨rfl, HK3.out.below⟩
end Go.Proofs.Ytcekikblgbdcoaa
