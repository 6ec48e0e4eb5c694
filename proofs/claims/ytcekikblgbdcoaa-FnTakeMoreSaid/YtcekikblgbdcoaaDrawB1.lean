/-
  Drawn buckets: l93Bucket.
-/
import Derived.Test.YtcekikblgbdcoaaKG
import Derived.Test.YtcekikblgbdcoaaBktM
import Derived.Handy
import Derived.Deep.DeepCutAuto
import Derived.Deep.CutBlock
namespace Go.Proofs.Ytcekikblgbdcoaa
open Go.RowKit
set_option linter.unusedVariables false
set_option maxRecDepth 100000

theorem KG.put4 {w W : World} {R g : Nat} {p : Int} {t : TypeId} {v0 v1 v2 v3 : Value} {L : List (Nat × TypeId × Array Value)} (h : KG w W R p ((g, t, #[v0, v1, v2, v3]) :: L)) (hne : ∀ q ∈ L, q.1 ≠ g) (u0 u1 u2 u3 : Value) :
    KG w ((((W.setCell ⟨g, 0, none⟩ u0).setCell ⟨g, 1, none⟩ u1).setCell ⟨g, 2, none⟩ u2).setCell ⟨g, 3, none⟩ u3) R p ((g, t, #[u0, u1, u2, u3]) :: L) := by
  have := (((h.put hne 0 u0).put hne 1 u1).put hne 2 u2).put hne 3 u3
  simpa using this
theorem KG.cells4 {w W : World} {R g : Nat} {p a b c d : Int} {t : TypeId} {L : List (Nat × TypeId × Array Value)} (h : KG w W R p ((g, t, #[.int .i64 a, .int .i64 b, .int .i64 c, .int .i64 d]) :: L)) :
    (W.cell? ⟨g, 0, none⟩ = some (.int .i64 a) ∧ W.cell? ⟨g, 1, none⟩ = some (.int .i64 b) ∧ W.cell? ⟨g, 2, none⟩ = some (.int .i64 c) ∧ W.cell? ⟨g, 3, none⟩ = some (.int .i64 d)) ∧
      W.frozen? ⟨g, 0, none⟩ = false ∧ W.frozen? ⟨g, 1, none⟩ = false ∧ W.frozen? ⟨g, 2, none⟩ = false ∧ W.frozen? ⟨g, 3, none⟩ = false :=
  ⟨⟨by rw [h.hd.cell]; rfl, by rw [h.hd.cell]; rfl, by rw [h.hd.cell]; rfl, by rw [h.hd.cell]; rfl⟩, h.hd.frozen 0, h.hd.frozen 1, h.hd.frozen 2, h.hd.frozen 3⟩
theorem KG.drew {w W : World} {R : Nat} {p : Int} {L : List (Nat × TypeId × Array Value)} (h : KG w W R p L) : KG w W.drew R p L := ⟨h.rd, h.rlt, grown_drewN h.grown 1, h.blk⟩

def thr (a b c : Int) (v : Int) : Int := ([a, b, c] : List Int).getD v.toNat 0
theorem thr_rng {a b c v lo hi : Int} (h0 : lo ≤ a ∧ a ≤ hi) (h1 : lo ≤ b ∧ b ≤ hi) (h2 : lo ≤ c ∧ c ≤ hi) (v0 : 0 ≤ v) (v1 : v < 3) : lo ≤ thr a b c v ∧ thr a b c v ≤ hi := by
  have : v = 0 ∨ v = 1 ∨ v = 2 := by omega
  rcases this with rfl | rfl | rfl
  · exact h0
  · exact h1
  · exact h2
theorem thr_cell {W : World} {g : Nat} {t : TypeId} {a b c v : Int} (h : Blk W g t #[.int .i64 a, .int .i64 b, .int .i64 c]) (v0 : 0 ≤ v) (v1 : v < 3) : W.cell? ⟨g, v.toNat, none⟩ = some (.int .i64 (thr a b c v)) := by
  rw [h.cell]
  have : v = 0 ∨ v = 1 ∨ v = 2 := by omega
  rcases this with rfl | rfl | rfl <;> rfl

/-- a drawn bucket's numbers -/
def rngK (l m r t : Int) : Prop := (0 ≤ l ∧ l ≤ 31) ∧ (0 ≤ m ∧ m ≤ 101) ∧ (-1 ≤ r ∧ r ≤ 101) ∧ (-1 ≤ t ∧ t ≤ 1000)
def DrawnBk (w : World) (R : Nat) (p : Int) (e : Ending) (w' : World) : Prop :=
  ∃ l m r t p', e = .returned (.agg #[.int .i64 l, .int .i64 m, .int .i64 r, .int .i64 t]) ∧ rngK l m r t ∧ p ≤ p' ∧ p' ≤ p + 10 ∧ Rd w' R p' ∧ w.grownBy w' (some R)

set_option maxHeartbeats 6400000 in
theorem bucket93_any (R : Nat) (p : Int) (w : World) (hr : Rd w R p) (hp : p < 20000) :
    Calls Try.prog 29 #[.pointer (some ⟨R, 0, none⟩)] w (DrawnBk w R p) := by
  have HK0 := hide ((KG.new hr).pushN w.heap.size rfl 24 #[.int .i64 0, .int .i64 0, .int .i64 0, .int .i64 0])
  clear hr
  go_enter Try.func29, Try.ntmps29
  go_wp2_with fail
  refine (pick_any R _ 30 _ HK0.out.rd (by omega) (by omega)).mono ?_
  rintro e w1 ⟨v1, rfl, hv10, hv11, hr1, hg1⟩
  have HK1 := hide (HK0.out.pick hr1 hg1)
  have wt1 : IntKind.i64.wrap (1 + v1) = 1 + v1 := IntWalk.i64_in _ (by omega)
  have wt2 : IntKind.i64.wrap (1 + v1 + 1) = 1 + v1 + 1 := IntWalk.i64_in _ (by omega)
  clear hr1 hg1 HK0
  go_wp2_with fail
  refine (pick_any R _ (1 + v1 + 1) _ HK1.out.rd (by omega) (by omega)).mono ?_
  rintro e w2 ⟨v2, rfl, hv20, hv21, hr2, hg2⟩
  have HK2 := hide (HK1.out.pick hr2 hg2)
  clear hr2 hg2 HK1
  go_wp2_with fail
  refine (pick_any R _ 6 _ HK2.out.rd (by omega) (by omega)).mono ?_
  rintro e w3 ⟨v3, rfl, hv30, hv31, hr3, hg3⟩
  have HK3 := hide (HK2.out.pick hr3 hg3)
  clear hr3 hg3 HK2
  go_wp2_with fail
  refine (pick_any R _ 200 _ HK3.out.rd (by omega) (by omega)).mono ?_
  rintro e w4 ⟨v4, rfl, hv40, hv41, hr4, hg4⟩
  have HK4 := hide (HK3.out.pick hr4 hg4)
  clear hr4 hg4 HK3
  obtain ⟨g, hg⟩ : ∃ g, w4.heap.size = g := ⟨_, rfl⟩
  have hgl : w.heap.size < g := by rw [← hg]; exact HK4.out.hd.lt
  have hRl : R < w.heap.size := HK4.out.rlt
  have HK5 := hide (HK4.out.pushN g hg 24 #[.int .i64 v2, .int .i64 (1 + v1), .int .i64 v3, .int .i64 v4])
  clear HK4
  go_wp2_with fail
  refine (pick_any R _ 24 _ HK5.out.rd (by omega) (by omega)).mono ?_
  rintro e w6 ⟨u, rfl, hu0, hu1, hr6, hg6⟩
  have HK6 := hide (HK5.out.pick hr6 hg6)
  clear hr6 hg6 HK5 hg
  by_cases h0 : u = 0
  · subst h0
    obtain ⟨⟨q0, q1, q2, q3⟩, f0, f1, f2, f3⟩ := HK6.out.cells4
    have HP := hide (HK6.out.put (by intro q hq; simp at hq; rcases hq with rfl; simp; omega) 0 (.int .i64 (1 + v1 + 1)))
    simp only [List.setIfInBounds_toArray, List.set_cons_zero] at HP
    clear HK6
    go_upto_region 12 with fail
    clear q0 q1 q2 q3 f0 f1 f2 f3
    generalize w6.setCell ⟨g, 0, none⟩ (.int .i64 (1 + v1 + 1)) = W7 at HP ⊢
    have HK7 := HP
    clear HP
    obtain ⟨⟨q0, q1, q2, q3⟩, f0, f1, f2, f3⟩ := HK7.out.cells4
    obtain ⟨⟨s0, s1, s2, s3⟩, k0, k1, k2, k3⟩ := HK7.out.tl.cells4
    have HF := hide (HK7.out.swap.put4 (by intro q hq; simp at hq; rcases hq with rfl; simp; omega) (.int .i64 (1 + v1 + 1)) (.int .i64 (1 + v1)) (.int .i64 v3) (.int .i64 v4))
    obtain ⟨⟨z0, z1, z2, z3⟩, -⟩ := HF.out.cells4
    have HR := hide (show rngK (1 + v1 + 1) (1 + v1) v3 v4 from ⟨⟨by omega, by omega⟩, ⟨by omega, by omega⟩, ⟨by omega, by omega⟩, by omega, by omega⟩)
    clear HK7
    go_wp2
    exact bodyPost_ret (v := .agg #[.int .i64 (1 + v1 + 1), .int .i64 (1 + v1), .int .i64 v3, .int .i64 v4]) (by simp [results, Try.results29, go_sem, z0, z1, z2, z3]) rfl ⟨_, _, _, _, _, rfl, HR.out, by omega, by omega, HF.out.rd, HF.out.grown⟩
  have h0' : (u == 0) = false := by simpa using h0
  by_cases h1 : u = 1
  · subst h1
    have HB := hide ((HK6.out.pushN w6.heap.size rfl 3 #[.int .i64 (-1), .int .i64 999, .int .i64 1000]))
    go_wp2_with fail
    refine (pick_any R _ 3 _ HB.out.rd (by omega) (by omega)).mono ?_
    rintro e w8 ⟨x, rfl, hx0, hx1, hr8, hg8⟩
    have HB8 := hide (HB.out.pick hr8 hg8)
    have hc := thr_cell HB8.out.hd hx0 hx1
    have hy := thr_rng (a := (-1)) (b := 999) (c := 1000) (v := x) (lo := (-1)) (hi := 1000) (by omega) (by omega) (by omega) hx0 hx1
    generalize thr (-1) 999 1000 x = y at hc hy
    have HK8 := hide HB8.out.tl
    clear hr8 hg8 HB HB8 HK6
    obtain ⟨⟨q0, q1, q2, q3⟩, f0, f1, f2, f3⟩ := HK8.out.cells4
    have HP := hide (HK8.out.put (by intro q hq; simp at hq; rcases hq with rfl; simp; omega) 3 (.int .i64 y))
    simp only [List.setIfInBounds_toArray, List.set_cons_zero, List.set_cons_succ] at HP
    clear HK8
    go_upto_region 12 with fail
    clear q0 q1 q2 q3 f0 f1 f2 f3 hc
    generalize w8.setCell ⟨g, 3, none⟩ (.int .i64 y) = W7 at HP ⊢
    have HK7 := HP
    clear HP
    obtain ⟨⟨q0, q1, q2, q3⟩, f0, f1, f2, f3⟩ := HK7.out.cells4
    obtain ⟨⟨s0, s1, s2, s3⟩, k0, k1, k2, k3⟩ := HK7.out.tl.cells4
    have HF := hide (HK7.out.swap.put4 (by intro q hq; simp at hq; rcases hq with rfl; simp; omega) (.int .i64 v2) (.int .i64 (1 + v1)) (.int .i64 v3) (.int .i64 y))
    obtain ⟨⟨z0, z1, z2, z3⟩, -⟩ := HF.out.cells4
    have HR := hide (show rngK v2 (1 + v1) v3 y from ⟨⟨by omega, by omega⟩, ⟨by omega, by omega⟩, ⟨by omega, by omega⟩, by omega, by omega⟩)
    clear HK7
    go_wp2
    exact bodyPost_ret (v := .agg #[.int .i64 v2, .int .i64 (1 + v1), .int .i64 v3, .int .i64 y]) (by simp [results, Try.results29, go_sem, z0, z1, z2, z3]) rfl ⟨_, _, _, _, _, rfl, HR.out, by omega, by omega, HF.out.rd, HF.out.grown⟩
  have h1' : (u == 1) = false := by simpa using h1
  by_cases h2 : u = 2
  · subst h2
    have HB := hide ((HK6.out.pushN w6.heap.size rfl 3 #[.int .i64 (-1), .int .i64 100, .int .i64 101]))
    go_wp2_with fail
    refine (pick_any R _ 3 _ HB.out.rd (by omega) (by omega)).mono ?_
    rintro e w8 ⟨x, rfl, hx0, hx1, hr8, hg8⟩
    have HB8 := hide (HB.out.pick hr8 hg8)
    have hc := thr_cell HB8.out.hd hx0 hx1
    have hy := thr_rng (a := (-1)) (b := 100) (c := 101) (v := x) (lo := (-1)) (hi := 101) (by omega) (by omega) (by omega) hx0 hx1
    generalize thr (-1) 100 101 x = y at hc hy
    have HK8 := hide HB8.out.tl
    clear hr8 hg8 HB HB8 HK6
    obtain ⟨⟨q0, q1, q2, q3⟩, f0, f1, f2, f3⟩ := HK8.out.cells4
    have HP := hide (HK8.out.put (by intro q hq; simp at hq; rcases hq with rfl; simp; omega) 2 (.int .i64 y))
    simp only [List.setIfInBounds_toArray, List.set_cons_zero, List.set_cons_succ] at HP
    clear HK8
    go_upto_region 12 with fail
    clear q0 q1 q2 q3 f0 f1 f2 f3 hc
    generalize w8.setCell ⟨g, 2, none⟩ (.int .i64 y) = W7 at HP ⊢
    have HK7 := HP
    clear HP
    obtain ⟨⟨q0, q1, q2, q3⟩, f0, f1, f2, f3⟩ := HK7.out.cells4
    obtain ⟨⟨s0, s1, s2, s3⟩, k0, k1, k2, k3⟩ := HK7.out.tl.cells4
    have HF := hide (HK7.out.swap.put4 (by intro q hq; simp at hq; rcases hq with rfl; simp; omega) (.int .i64 v2) (.int .i64 (1 + v1)) (.int .i64 y) (.int .i64 v4))
    obtain ⟨⟨z0, z1, z2, z3⟩, -⟩ := HF.out.cells4
    have HR := hide (show rngK v2 (1 + v1) y v4 from ⟨⟨by omega, by omega⟩, ⟨by omega, by omega⟩, ⟨by omega, by omega⟩, by omega, by omega⟩)
    clear HK7
    go_wp2
    exact bodyPost_ret (v := .agg #[.int .i64 v2, .int .i64 (1 + v1), .int .i64 y, .int .i64 v4]) (by simp [results, Try.results29, go_sem, z0, z1, z2, z3]) rfl ⟨_, _, _, _, _, rfl, HR.out, by omega, by omega, HF.out.rd, HF.out.grown⟩
  have h2' : (u == 2) = false := by simpa using h2
  by_cases h3 : u = 3
  · subst h3
    have HB := hide ((HK6.out.pushN w6.heap.size rfl 3 #[.int .i64 0, .int .i64 100, .int .i64 101]))
    go_wp2_with fail
    refine (pick_any R _ 3 _ HB.out.rd (by omega) (by omega)).mono ?_
    rintro e w8 ⟨x, rfl, hx0, hx1, hr8, hg8⟩
    have HB8 := hide (HB.out.pick hr8 hg8)
    have hc := thr_cell HB8.out.hd hx0 hx1
    have hy := thr_rng (a := 0) (b := 100) (c := 101) (v := x) (lo := 0) (hi := 101) (by omega) (by omega) (by omega) hx0 hx1
    generalize thr 0 100 101 x = y at hc hy
    have HK8 := hide HB8.out.tl
    clear hr8 hg8 HB HB8 HK6
    obtain ⟨⟨q0, q1, q2, q3⟩, f0, f1, f2, f3⟩ := HK8.out.cells4
    have HP := hide (HK8.out.put (by intro q hq; simp at hq; rcases hq with rfl; simp; omega) 1 (.int .i64 y))
    simp only [List.setIfInBounds_toArray, List.set_cons_zero, List.set_cons_succ] at HP
    clear HK8
    go_upto_region 12 with fail
    clear q0 q1 q2 q3 f0 f1 f2 f3 hc
    generalize w8.setCell ⟨g, 1, none⟩ (.int .i64 y) = W7 at HP ⊢
    have HK7 := HP
    clear HP
    obtain ⟨⟨q0, q1, q2, q3⟩, f0, f1, f2, f3⟩ := HK7.out.cells4
    obtain ⟨⟨s0, s1, s2, s3⟩, k0, k1, k2, k3⟩ := HK7.out.tl.cells4
    have HF := hide (HK7.out.swap.put4 (by intro q hq; simp at hq; rcases hq with rfl; simp; omega) (.int .i64 v2) (.int .i64 y) (.int .i64 v3) (.int .i64 v4))
    obtain ⟨⟨z0, z1, z2, z3⟩, -⟩ := HF.out.cells4
    have HR := hide (show rngK v2 y v3 v4 from ⟨⟨by omega, by omega⟩, ⟨by omega, by omega⟩, ⟨by omega, by omega⟩, by omega, by omega⟩)
    clear HK7
    go_wp2
    exact bodyPost_ret (v := .agg #[.int .i64 v2, .int .i64 y, .int .i64 v3, .int .i64 v4]) (by simp [results, Try.results29, go_sem, z0, z1, z2, z3]) rfl ⟨_, _, _, _, _, rfl, HR.out, by omega, by omega, HF.out.rd, HF.out.grown⟩
  have h3' : (u == 3) = false := by simpa using h3
  obtain ⟨⟨q0, q1, q2, q3⟩, f0, f1, f2, f3⟩ := HK6.out.cells4
  obtain ⟨⟨s0, s1, s2, s3⟩, k0, k1, k2, k3⟩ := HK6.out.tl.cells4
  have HF := hide (HK6.out.swap.put4 (by intro q hq; simp at hq; rcases hq with rfl; simp; omega) (.int .i64 v2) (.int .i64 (1 + v1)) (.int .i64 v3) (.int .i64 v4))
  obtain ⟨⟨z0, z1, z2, z3⟩, -⟩ := HF.out.cells4
  have HR := hide (show rngK v2 (1 + v1) v3 v4 from ⟨⟨by omega, by omega⟩, ⟨by omega, by omega⟩, ⟨by omega, by omega⟩, by omega, by omega⟩)
  clear HK6
  go_wp2
  exact bodyPost_ret (v := .agg #[.int .i64 v2, .int .i64 (1 + v1), .int .i64 v3, .int .i64 v4]) (by simp [results, Try.results29, go_sem, z0, z1, z2, z3]) rfl ⟨_, _, _, _, _, rfl, HR.out, by omega, by omega, HF.out.rd, HF.out.grown⟩
end Go.Proofs.Ytcekikblgbdcoaa
