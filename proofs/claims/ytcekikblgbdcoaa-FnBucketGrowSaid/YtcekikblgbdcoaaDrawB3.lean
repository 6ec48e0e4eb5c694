/-
  Drawn buckets and times: DrawBucketAt.
-/
import Derived.Test.YtcekikblgbdcoaaDrawBh
namespace Go.Proofs.Ytcekikblgbdcoaa
open Go.RowKit
set_option linter.unusedVariables false
set_option maxRecDepth 100000

set_option maxHeartbeats 6400000 in
theorem drawBA_any (A : Option Addr) (n c : Nat) (bs : Nat → Int) (w : World) (hb : Bytes w w.heap.size A n bs) (hn : n ≤ c) (hc : c ≤ maxLen) :
    Calls Try.prog 15 #[.slice A n c] w fun e w' => ∃ l m r t x, e = .returned (.tuple #[.agg #[.int .i64 l, .int .i64 m, .int .i64 r, .int .i64 t], .int .i64 x]) ∧ rngK l m r t ∧ (-2 ≤ x ∧ x ≤ 2000) ∧ Below w.heap.size w w' := by
  have HBY := hide (hb.next (.cells #[.int .i64 0, .int .i64 0, .int .i64 0, .int .i64 0] 24))
  clear hb
  go_enter Try.func15, Try.ntmps15
  go_wp2_with fail
  refine (open_any A n c bs _ HBY.out hn hc).mono ?_
  rintro e w1 ⟨rfl, hr1, hb1⟩
  have HK1 := hide (DK.start _ _ hr1 hb1)
  have hR : (w.alloc (.cells #[.int .i64 0, .int .i64 0, .int .i64 0, .int .i64 0] 24)).heap.size = w.heap.size + 1 := by simp
  clear hr1 hb1 HBY
  go_wp2_with fail
  try rw [hR]
  refine (bucket93_any _ 0 _ HK1.out.rd (by omega)).mono ?_
  rintro e w2 ⟨l, m, r, t, p2, rfl, hrng, hp0, hp1, hr2, hg2⟩
  obtain ⟨g, hg⟩ : ∃ g, w2.heap.size = g := ⟨_, rfl⟩
  have HK2 := hide ((HK1.out.pick hr2 hg2).pushN g hg 24 #[.int .i64 l, .int .i64 m, .int .i64 r, .int .i64 t])
  have HRG := hide hrng
  have hgN : w.heap.size < g := by rw [← hg]; have := (HK1.out.pick hr2 hg2).hd.lt; omega
  have ht0 : -1 ≤ t ∧ t ≤ 1000 := hrng.2.2.2
  clear hr2 hg2 HK1 hrng
  go_wp2_with fail
  refine (pick_any _ _ 12 _ HK2.out.rd (by omega) (by omega)).mono ?_
  rintro e w3 ⟨u, rfl, hu0, hu1, hr3, hg3⟩
  have HK3 := hide (HK2.out.pick hr3 hg3)
  have HKD := hide HK3.out.drew
  have hN3 : w.heap.size < w3.heap.size := HK3.out.tl.hd.lt
  obtain ⟨⟨q0, q1, q2, q3⟩, -⟩ := HK3.out.cells4
  clear hr3 hg3 HK2 hg hR
  by_cases h0 : u = 0
  · subst h0
    have wt : IntKind.i64.wrap (t - 1) = t - 1 := IntWalk.i64_in _ (by omega)
    have HKA := hide ((HK3.out.pushN w3.heap.size rfl 3 #[.int .i64 (t - 1), .int .i64 999, .int .i64 1000]).drew)
    obtain ⟨⟨c0, c1, c2, c3⟩, -⟩ := (HK3.out.pushN w3.heap.size rfl 3 #[.int .i64 (t - 1), .int .i64 999, .int .i64 1000]).tl.cells4
    go_upto_region 4 with fail
    go_region_with ((first
      | (go_at_call 30; (with_reducible refine (pick_any _ _ 3 _ HKA.out.rd (by omega) (by omega)).mono ?_); rintro e w8 ⟨x, rfl, hx0, hx1, hr8, hg8⟩; have HK8 := hide (HKA.out.pick hr8 hg8); have hc := thr_cell HK8.out.hd hx0 hx1; have hc2 := HK8.out.far4 (.int .i64 l) (.int .i64 m) (.int .i64 r) (.int .i64 t) hx0 hx1 (by omega); have hl1 := thr_get (a := (t - 1)) (b := 999) (c := 1000) hx0 hx1 (by simp; omega); have hy := thr_rng (a := (t - 1)) (b := 999) (c := 1000) (v := x) (lo := (-2)) (hi := 1000) (by omega) (by omega) (by omega) hx0 hx1; generalize hyy : thr (t - 1) 999 1000 x = y at hc hc2 hy hl1; clear hyy; obtain ⟨⟨s0, s1, s2, s3⟩, -⟩ := HK8.out.tl.cells4; obtain ⟨⟨k0, k1, k2, k3⟩, f0, f1, f2, f3⟩ := HK8.out.tl.tl.cells4; obtain ⟨⟨z0, z1, z2, z3⟩, hbz⟩ := HK8.out.tl.tl.fin (.int .i64 l) (.int .i64 m) (.int .i64 r) (.int .i64 t); have HBZ := hide hbz; clear hbz hr8 hg8)
      | (go_at_call 30; (with_reducible refine (pick_any _ _ 3 _ HKD.out.rd (by omega) (by omega)).mono ?_); rintro e w8 ⟨x, rfl, hx0, hx1, hr8, hg8⟩; have HK8 := hide (HKD.out.pick hr8 hg8); obtain ⟨⟨s0, s1, s2, s3⟩, -⟩ := HK8.out.cells4; obtain ⟨G, hG⟩ : ∃ G, w8.heap.size = G := ⟨_, rfl⟩; have HK9p := HK8.out.pushN G hG 3 #[.int .i64 (t - 1), .int .i64 999, .int .i64 1000]; have hN8 := HK8.out.tl.hd.lt; rw [hG] at hN8; obtain ⟨w9, hw9⟩ : ∃ w9, w8.alloc (.cells #[.int .i64 (t - 1), .int .i64 999, .int .i64 1000] 3) = w9 := ⟨_, rfl⟩; rw [hw9] at HK9p; have HK9 := hide HK9p; clear HK9p; obtain ⟨⟨m0, m1, m2, m3⟩, n0, n1, n2, n3⟩ := HK8.out.tl.cells4; obtain ⟨ws, hws⟩ : ∃ ws, (((w8.setCell ⟨w.heap.size, 0, none⟩ (.int .i64 l)).setCell ⟨w.heap.size, 1, none⟩ (.int .i64 m)).setCell ⟨w.heap.size, 2, none⟩ (.int .i64 r)).setCell ⟨w.heap.size, 3, none⟩ (.int .i64 t) = ws := ⟨_, rfl⟩; obtain ⟨w10, hw10⟩ : ∃ w10, ws.alloc (.cells #[.int .i64 (t - 1), .int .i64 999, .int .i64 1000] 3) = w10 := ⟨_, rfl⟩; obtain ⟨⟨x0, x1, x2, x3⟩, -, ⟨y0, y1, y2, y3⟩, hszs, hbl10, hbe10⟩ := HK8.out.late (.int .i64 l) (.int .i64 m) (.int .i64 r) (.int .i64 t) (by omega) ws w10 hws hw10; have HBE := hide hbe10; rw [hG] at hszs hbl10; have hc10 := thr_cell hbl10 hx0 hx1; clear hbe10 hbl10; have hc := thr_cell HK9.out.hd hx0 hx1; have hc2 := HK9.out.far4 (.int .i64 l) (.int .i64 m) (.int .i64 r) (.int .i64 t) hx0 hx1 (by omega); have hl1 := thr_get (a := (t - 1)) (b := 999) (c := 1000) hx0 hx1 (by simp; omega); have hy := thr_rng (a := (t - 1)) (b := 999) (c := 1000) (v := x) (lo := (-2)) (hi := 1000) (by omega) (by omega) (by omega) hx0 hx1; generalize hyy : thr (t - 1) 999 1000 x = y at hc hc2 hy hl1 hc10; clear hyy; obtain ⟨⟨a0, a1, a2, a3⟩, -⟩ := HK9.out.tl.cells4; obtain ⟨⟨k0, k1, k2, k3⟩, f0, f1, f2, f3⟩ := HK9.out.tl.tl.cells4; obtain ⟨⟨z0, z1, z2, z3⟩, hbz⟩ := HK9.out.tl.tl.fin (.int .i64 l) (.int .i64 m) (.int .i64 r) (.int .i64 t); have HBZ := hide hbz; clear hbz hr8 hg8)))
    all_goals
      go_wp2
      first
        | exact bodyPost_ret (v := .tuple #[.agg #[.int .i64 l, .int .i64 m, .int .i64 r, .int .i64 t], .int .i64 y]) (by simp [results, Try.results15, go_sem, z0, z1, z2, z3]) rfl ⟨_, _, _, _, _, rfl, HRG.out, by omega, HBZ.out⟩
        | exact bodyPost_ret (v := .tuple #[.agg #[.int .i64 l, .int .i64 m, .int .i64 r, .int .i64 t], .int .i64 y]) (by simp [results, Try.results15, go_sem, y0, y1, y2, y3]) rfl ⟨_, _, _, _, _, rfl, HRG.out, by omega, HBE.out⟩

  · have h0' : (u == 0) = false := by simpa using h0
    go_upto_region 5 with fail
    go_region_held3 (fun W => W.cell? ⟨g, 0, none⟩ = some (.int .i64 l) ∧ W.cell? ⟨g, 1, none⟩ = some (.int .i64 m) ∧ W.cell? ⟨g, 2, none⟩ = some (.int .i64 r) ∧ W.cell? ⟨g, 3, none⟩ = some (.int .i64 t))
      (first | (exact HSF.out) | (exact HS8.out) | (exact HKD.out.cells4.1))
      ((first
        | (go_at_call 30; (with_reducible refine (pick_any _ _ 12 _ HKD.out.rd (by omega) (by omega)).mono ?_); rintro e w8 ⟨x, rfl, hx0, hx1, hr8, hg8⟩; have wx : IntKind.i64.wrap (t + x) = t + x := IntWalk.i64_in _ (by omega); have HK8 := hide (HKD.out.pick hr8 hg8); have HS8 := hide HK8.out.cells4.1; obtain ⟨⟨k0, k1, k2, k3⟩, f0, f1, f2, f3⟩ := HK8.out.tl.cells4; obtain ⟨⟨z0, z1, z2, z3⟩, hbz⟩ := HK8.out.tl.fin (.int .i64 l) (.int .i64 m) (.int .i64 r) (.int .i64 t); have HBZ := hide hbz; have HSF := hide (HK8.out.keep4 (.int .i64 l) (.int .i64 m) (.int .i64 r) (.int .i64 t)); clear hbz hr8 hg8)))
    all_goals
      go_wp2
      exact bodyPost_ret (v := .tuple #[.agg #[.int .i64 l, .int .i64 m, .int .i64 r, .int .i64 t], .int .i64 (t + x)]) (by simp [results, Try.results15, go_sem, z0, z1, z2, z3]) rfl ⟨_, _, _, _, _, rfl, HRG.out, by omega, HBZ.out⟩
end Go.Proofs.Ytcekikblgbdcoaa
