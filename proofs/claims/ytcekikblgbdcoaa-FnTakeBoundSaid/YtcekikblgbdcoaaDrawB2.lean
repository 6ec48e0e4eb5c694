/-
  Drawn buckets and times: DrawBucketAt, DrawBucketTake, DrawBucketWait.
-/
import Derived.Test.YtcekikblgbdcoaaDrawB1
import Derived.RegionTactic
import Derived.Deep.RegionHeld3
namespace Go.Proofs.Ytcekikblgbdcoaa
open Go.RowKit
set_option linter.unusedVariables false
set_option maxRecDepth 100000

/-- a drawing's reader and blocks, all of the call's own -/
structure DK (w W : World) (R : Nat) (p : Int) (L : List (Nat × TypeId × Array Value)) : Prop where
  rd : Rd W R p
  hR : w.heap.size ≤ R
  below : Below w.heap.size w W
  blk : ∀ q ∈ L, Blk W q.1 q.2.1 q.2.2 ∧ w.heap.size ≤ q.1 ∧ q.1 ≠ R
section
variable {w W W' : World} {R g : Nat} {p p' : Int} {t : TypeId} {cs : Array Value} {L : List (Nat × TypeId × Array Value)}
theorem DK.start (t : TypeId) (cs : Array Value) (hr : Rd W (w.alloc (.cells cs t)).heap.size 0) (hb : Below (w.alloc (.cells cs t)).heap.size (w.alloc (.cells cs t)) W) : DK w W (w.heap.size + 1) 0 [(w.heap.size, t, cs)] := by
  have hs : (w.alloc (.cells cs t)).heap.size = w.heap.size + 1 := by simp
  have h0 : Below w.heap.size w (w.alloc (.cells cs t)) := (Below.refl w.heap.size w).alloc (Nat.le_refl _) _
  refine ⟨by rw [hs] at hr; exact hr, by omega, h0.trans (hb.mono (by omega)), fun q hq => ?_⟩
  simp only [List.mem_singleton] at hq
  subst hq
  exact ⟨(Blk.new w t cs).below hb (by omega), Nat.le_refl _, by simp only; omega⟩
theorem DK.pick (h : DK w W R p L) (hr : Rd W' R p') (hg : W.grownBy W' (some R)) : DK w W' R p' L :=
  ⟨hr, h.hR, h.below.grown hg h.below.size (fun k hk => by injection hk with hk; have := h.hR; omega), fun q hq => ⟨(h.blk q hq).1.grown hg (by intro e; injection e with e; exact (h.blk q hq).2.2 e), (h.blk q hq).2⟩⟩
theorem DK.pushN (h : DK w W R p L) (g : Nat) (hg : W.heap.size = g) (t : TypeId) (cs : Array Value) : DK w (W.alloc (.cells cs t)) R p ((g, t, cs) :: L) := by
  subst hg
  refine ⟨h.rd.alloc _, h.hR, h.below.alloc h.below.size _, fun q hq => ?_⟩
  rcases List.mem_cons.1 hq with rfl | hq
  · exact ⟨Blk.new W t cs, h.below.size, by have := h.rd.lt; simp only; omega⟩
  · exact ⟨(h.blk q hq).1.alloc _, (h.blk q hq).2⟩
theorem DK.drew (h : DK w W R p L) : DK w W.drew R p L := ⟨h.rd, h.hR, below_drewN h.below 1, h.blk⟩
theorem DK.hd (h : DK w W R p ((g, t, cs) :: L)) : Blk W g t cs := (h.blk _ (List.mem_cons_self ..)).1
theorem DK.tl (h : DK w W R p ((g, t, cs) :: L)) : DK w W R p L := ⟨h.rd, h.hR, h.below, fun q hq => h.blk q (List.mem_cons_of_mem _ hq)⟩
theorem DK.cells4 {a b c d : Int} (h : DK w W R p ((g, t, #[.int .i64 a, .int .i64 b, .int .i64 c, .int .i64 d]) :: L)) :
    (W.cell? ⟨g, 0, none⟩ = some (.int .i64 a) ∧ W.cell? ⟨g, 1, none⟩ = some (.int .i64 b) ∧ W.cell? ⟨g, 2, none⟩ = some (.int .i64 c) ∧ W.cell? ⟨g, 3, none⟩ = some (.int .i64 d)) ∧
      W.frozen? ⟨g, 0, none⟩ = false ∧ W.frozen? ⟨g, 1, none⟩ = false ∧ W.frozen? ⟨g, 2, none⟩ = false ∧ W.frozen? ⟨g, 3, none⟩ = false :=
  ⟨⟨by rw [h.hd.cell]; rfl, by rw [h.hd.cell]; rfl, by rw [h.hd.cell]; rfl, by rw [h.hd.cell]; rfl⟩, h.hd.frozen 0, h.hd.frozen 1, h.hd.frozen 2, h.hd.frozen 3⟩
/-- the result's block is written at last -/
theorem DK.fin {v0 v1 v2 v3 : Value} (h : DK w W R p ((g, t, #[v0, v1, v2, v3]) :: L)) (u0 u1 u2 u3 : Value) :
    (((W.setCell ⟨g, 0, none⟩ u0).cell? ⟨g, 0, none⟩ = some u0 ∧ ((W.setCell ⟨g, 0, none⟩ u0).setCell ⟨g, 1, none⟩ u1).cell? ⟨g, 1, none⟩ = some u1 ∧ (((W.setCell ⟨g, 0, none⟩ u0).setCell ⟨g, 1, none⟩ u1).setCell ⟨g, 2, none⟩ u2).cell? ⟨g, 2, none⟩ = some u2 ∧
      ((((W.setCell ⟨g, 0, none⟩ u0).setCell ⟨g, 1, none⟩ u1).setCell ⟨g, 2, none⟩ u2).setCell ⟨g, 3, none⟩ u3).cell? ⟨g, 3, none⟩ = some u3)) ∧
    Below w.heap.size w ((((W.setCell ⟨g, 0, none⟩ u0).setCell ⟨g, 1, none⟩ u1).setCell ⟨g, 2, none⟩ u2).setCell ⟨g, 3, none⟩ u3) := by
  have hg := (h.blk _ (List.mem_cons_self ..)).2.1
  have hgr : ∀ (X : World) (j : Nat) (v : Value), X.grownBy (X.setCell ⟨g, j, none⟩ v) (some g) := fun X j v => ⟨rfl, rfl, rfl, by simp [World.setCell], fun i hi hne => Below.heap_setCell X ⟨g, j, none⟩ _ i (by rintro rfl; exact hne rfl)⟩
  have h4 := grown_trans' (grown_trans' (grown_trans' (hgr W 0 u0) (hgr _ 1 u1)) (hgr _ 2 u2)) (hgr _ 3 u3)
  have y0 := h.hd.set_ 0 u0
  have y1 := y0.set_ 1 u1
  have y2 := y1.set_ 2 u2
  have y3 := y2.set_ 3 u3
  exact ⟨⟨by rw [y0.cell]; rfl, by rw [y1.cell]; rfl, by rw [y2.cell]; rfl, by rw [y3.cell]; rfl⟩, h.below.grown h4 h.below.size (fun k hk => by injection hk with hk; simp only at hg; omega)⟩
theorem DK.swap {x y : Nat × TypeId × Array Value} (h : DK w W R p (x :: y :: L)) : DK w W R p (y :: x :: L) := ⟨h.rd, h.hR, h.below, fun q hq => h.blk q (by simp only [List.mem_cons] at hq ⊢; rcases hq with h | h | h <;> simp [h])⟩
end
theorem Bytes.next {w : World} {A : Option Addr} {n : Nat} {bs : Nat → Int} (hb : Bytes w w.heap.size A n bs) (o : Obj) : Bytes (w.alloc o) (w.alloc o).heap.size A n bs := fun h => by
  obtain ⟨ad, e, hlt, hcell⟩ := hb h
  exact ⟨ad, e, by simp; omega, fun j hj => ⟨(hcell j hj).1, (hcell j hj).2.1, (World.cell?_alloc_lt w _ _ (by rw [block_of_add]; exact hlt)).trans (hcell j hj).2.2⟩⟩

set_option maxHeartbeats 6400000 in
theorem drawBW_any (A : Option Addr) (n c : Nat) (bs : Nat → Int) (w : World) (hb : Bytes w w.heap.size A n bs) (hn : n ≤ c) (hc : c ≤ maxLen) :
    Calls Try.prog 22 #[.slice A n c] w fun e w' => ∃ l m r t x, e = .returned (.tuple #[.agg #[.int .i64 l, .int .i64 m, .int .i64 r, .int .i64 t], .int .i64 x]) ∧ rngK l m r t ∧ (-1 ≤ x ∧ x ≤ 40) ∧ Below w.heap.size w w' := by
  have HBY := hide (hb.next (.cells #[.int .i64 0, .int .i64 0, .int .i64 0, .int .i64 0] 24))
  clear hb
  go_enter Try.func22, Try.ntmps22
  go_wp2_with fail
  refine (open_any A n c bs _ HBY.out hn hc).mono ?_
  rintro e w1 ⟨rfl, hr1, hb1⟩
  have HK1 := hide (DK.start _ _ hr1 hb1)
  have hR : (w.alloc (.cells #[.int .i64 0, .int .i64 0, .int .i64 0, .int .i64 0] 24)).heap.size = w.heap.size + 1 := by simp
  clear hr1 hb1 HBY
  go_wp2_with fail
  try rw [hR]
  refine (bucket93_any _ 0 _ HK1.out.rd (by omega)).mono ?_
  rintro e w2 ⟨l, m, r, t, p2, rfl, hrng, hp0, hp1, hr2, hg2⟩
  obtain ⟨g, hg⟩ : ∃ g, w2.heap.size = g := ⟨_, rfl⟩
  have HK2 := hide ((HK1.out.pick hr2 hg2).pushN g hg 24 #[.int .i64 l, .int .i64 m, .int .i64 r, .int .i64 t])
  have HKD := hide HK2.out.drew
  have HRG := hide hrng
  obtain ⟨⟨q0, q1, q2, q3⟩, -⟩ := HK2.out.cells4
  clear hr2 hg2 HK1 hrng
  go_wp2_with fail
  clear hg hR
  generalize w2.alloc (.cells #[.int .i64 l, .int .i64 m, .int .i64 r, .int .i64 t] 24) = W3 at *
  go_region_with ((first
    | (go_at_call 30; refine (pick_any _ _ 34 _ HKD.out.rd (by omega) (by omega)).mono ?_; rintro e w4 ⟨x, rfl, hx0, hx1, hr4, hg4⟩; have wx : IntKind.i64.wrap (x - 1) = x - 1 := IntWalk.i64_in _ (by omega); have HK4 := hide (HKD.out.pick hr4 hg4); obtain ⟨⟨s0, s1, s2, s3⟩, -⟩ := HK4.out.cells4; obtain ⟨⟨k0, k1, k2, k3⟩, f0, f1, f2, f3⟩ := HK4.out.tl.cells4; obtain ⟨⟨z0, z1, z2, z3⟩, hbz⟩ := HK4.out.tl.fin (.int .i64 l) (.int .i64 m) (.int .i64 r) (.int .i64 t); have HBZ := hide hbz; clear hbz hr4 hg4)))
  all_goals
    go_wp2
    exact bodyPost_ret (v := .tuple #[.agg #[.int .i64 l, .int .i64 m, .int .i64 r, .int .i64 t], .int .i64 (x - 1)]) (by simp [results, Try.results22, go_sem, z0, z1, z2, z3]) rfl ⟨_, _, _, _, _, rfl, HRG.out, by omega, HBZ.out⟩
end Go.Proofs.Ytcekikblgbdcoaa
