/-
  Drawn models, events and values: DrawModelDo.
-/
import Derived.Test.YtiopbgenkalfaaaDrawR4
import Derived.Deep.RegionHeld3
namespace Go.Proofs.Ytiopbgenkalfaaa
open Go.RowKit
set_option linter.unusedVariables false
set_option maxRecDepth 100000

/-- behind a step of the drawn model: the result in its block -/
def Mid8 (w wx : World) (R : Nat) (p : Int) (b0 gm : Nat) (q : Mq) (x k : Value) : Prop :=
  ∃ (gx : Nat) (q5 : Mq) (ok : Bool), x = .pointer (some ⟨gx, 0, none⟩) ∧ k = .bool ok ∧ DS w wx R p b0 gm q ∧ Blk wx gx 27 #[.slice q5.A q5.n q5.c, .slice q5.P q5.m q5.d] ∧ OwnM wx b0 q5 ∧ q5.n ≤ 12 ∧ q5.m ≤ 61 ∧ ∀ l ∈ vsN q5.qs, l.length ≤ 12
theorem blk2 {W : World} {g : Nat} {t : TypeId} {u v : Value} (h : Blk W g t #[u, v]) : (W.cell? ⟨g, 0, none⟩ = some u ∧ W.cell? ⟨g, 1, none⟩ = some v) ∧ W.frozen? ⟨g, 0, none⟩ = false ∧ W.frozen? ⟨g, 1, none⟩ = false :=
  ⟨⟨by rw [h.cell]; rfl, by rw [h.cell]; rfl⟩, h.frozen 0, h.frozen 1⟩
theorem blk3 {W : World} {g : Nat} {t : TypeId} {u v x : Value} (h : Blk W g t #[u, v, x]) : (W.cell? ⟨g, 0, none⟩ = some u ∧ W.cell? ⟨g, 1, none⟩ = some v ∧ W.cell? ⟨g, 2, none⟩ = some x) ∧ W.frozen? ⟨g, 0, none⟩ = false ∧ W.frozen? ⟨g, 1, none⟩ = false ∧ W.frozen? ⟨g, 2, none⟩ = false :=
  ⟨⟨by rw [h.cell]; rfl, by rw [h.cell]; rfl, by rw [h.cell]; rfl⟩, h.frozen 0, h.frozen 1, h.frozen 2⟩
/-- .. stored into a block that was there, or is new -/
theorem mid8_put {w w9 : World} {R b0 gm gx : Nat} {p : Int} {q q5 : Mq} {ok : Bool} {u v : Value} (hs : DS w w9 R p b0 gm q) (hx : Blk w9 gx 27 #[u, v]) (hm : OwnM w9 b0 q5) (hn : q5.n ≤ 12 ∧ q5.m ≤ 61 ∧ ∀ l ∈ vsN q5.qs, l.length ≤ 12) (hgx : b0 ≤ gx) (hne : gx ≠ gm) :
    Mid8 w ((w9.setCell ⟨gx, 0, none⟩ (.slice q5.A q5.n q5.c)).setCell ⟨gx, 1, none⟩ (.slice q5.P q5.m q5.d)) R p b0 gm q (.pointer (some ⟨gx, 0, none⟩)) (.bool ok) := by
  have hg := grown2 w9 gx (.slice q5.A q5.n q5.c) (.slice q5.P q5.m q5.d)
  have h1 := hs.rb
  have h2 := hs.r2
  have ne : ∀ {q : Nat}, some gx = some q → gx = q := fun e => by injection e
  have own : ∀ {r : Mq}, OwnM w9 b0 r → OwnM ((w9.setCell ⟨gx, 0, none⟩ (.slice q5.A q5.n q5.c)).setCell ⟨gx, 1, none⟩ (.slice q5.P q5.m q5.d)) b0 r := fun {r} h => h.kept hg fun g e => by
    have e2 := ne e
    rw [← e2]
    exact ⟨row_ne_blk h.now.2 hx (by decide), row_ne_blk h.past.row hx (by decide), fun k r hr => row_ne_blk (h.past.own k r hr).2 hx (by decide)⟩
  refine ⟨gx, q5, ok, rfl, rfl, ?_, (hx.set_ 0 _).set_ 1 _, own hm, hn.1, hn.2.1, hn.2.2⟩
  exact { rd := hs.rd.grown hg (fun g e => by have := ne e; omega), rb := h1, r2 := h2, km := hs.km.grown hg (fun e => hne (ne e.symm)), gml := hs.gml, own := own hs.own,
          k2 := hs.k2.grown hg (fun e => by have := ne e.symm; omega), k3 := hs.k3.grown hg (fun e => by have := ne e.symm; omega), bw := Nat.le_trans hs.bw hg.size, below := hs.below.grown hg hs.below.size (fun g e => by have := ne e; omega), nq := hs.nq, mq := hs.mq, lq := hs.lq }
theorem mid8_new {w w9 : World} {R b0 gm : Nat} {p : Int} {q q5 : Mq} {ok : Bool} (hs : DS w w9 R p b0 gm q) (hm : OwnM w9 b0 q5) (hn : q5.n ≤ 12 ∧ q5.m ≤ 61 ∧ ∀ l ∈ vsN q5.qs, l.length ≤ 12) :
    Mid8 w (w9.alloc (.cells #[.slice q5.A q5.n q5.c, .slice q5.P q5.m q5.d] 27)) R p b0 gm q (.pointer (some ⟨w9.heap.size, 0, none⟩)) (.bool ok) :=
  ⟨w9.heap.size, q5, ok, rfl, rfl, hs.step (below_new w9 _), Blk.new w9 _ _, hm.alloc _, hn.1, hn.2.1, hn.2.2⟩
/-- what DrawModelDo hands back -/
def MDrawn (w : World) (e : Ending) (w' : World) : Prop :=
  ∃ (q : Mq) (kd : Int) (PA LA A3 : Option Addr) (pn pc ln lc n3 c3 : Nat) (ps ls af : List Int) (dn : Bool),
    e = .returned (.tuple #[.agg #[.slice q.A q.n q.c, .slice q.P q.m q.d], .agg #[.int .i64 kd, .slice PA pn pc, .slice LA ln lc], .bool dn, .slice A3 n3 c3]) ∧ MdI w' w'.heap.size q ∧ q.n ≤ 12 ∧ q.m ≤ 63 ∧
      Ints w' w'.heap.size PA (pn * 2) ps ∧ pn ≤ 20 ∧ Ints w' w'.heap.size A3 n3 af ∧ n3 ≤ 12 ∧ n3 ≤ c3 ∧ c3 ≤ maxLen ∧ (A3 = none → n3 = 0 ∧ c3 = 0) ∧ Below w.heap.size w w'

theorem grown3 (W : World) (g : Nat) (u v x : Value) : W.grownBy (((W.setCell ⟨g, 0, none⟩ u).setCell ⟨g, 1, none⟩ v).setCell ⟨g, 2, none⟩ x) (some g) := by
  have s : ∀ (w0 w1 : World) (i : Nat) (u : Value), w0.grownBy w1 (some g) → w0.grownBy (w1.setCell ⟨g, i, none⟩ u) (some g) := fun w0 w1 i u h =>
    ⟨h.os, h.tape, h.output, by simpa [World.setCell] using h.size, fun q hq hne => (Below.heap_setCell w1 ⟨g, i, none⟩ u q (fun e => hne (by rw [e]))).trans (h.block q hq hne)⟩
  exact s _ _ _ _ (s _ _ _ _ (s _ _ _ _ (grown_refl W _)))
structure Fn1 (w0 W : World) (b0 : Nat) (q : Mq) (PA : Option Addr) (pn pc : Nat) (ps : List Int) (A3 : Option Addr) (n3 c3 : Nat) (af : List Int) : Prop where
  k2 : Blk W w0.heap.size 27 #[.slice q.A q.n q.c, .slice q.P q.m q.d]
  k3 : Blk W (w0.heap.size + 1) 35 #[.int .i64 0, .slice none 0 0, .slice none 0 0]
  own : OwnM W b0 q
  pairs : OwnR W b0 42 2 PA pn pc ps
  aft : Own W b0 A3 n3 c3 af
  below : Below w0.heap.size w0 W
  r : w0.heap.size + 2 ≤ b0
theorem DE.fin1 {w0 W : World} {R b0 gm gE pn pc ln lc n3 c3 : Nat} {p kd : Int} {q : Mq} {PA LA A3 : Option Addr} {ps ls af : List Int} (h : DE w0 W R p b0 gm q gE kd PA pn pc ps LA ln lc ls A3 n3 c3 af) :
    Fn1 w0 ((W.setCell ⟨w0.heap.size, 0, none⟩ (.slice q.A q.n q.c)).setCell ⟨w0.heap.size, 1, none⟩ (.slice q.P q.m q.d)) b0 q PA pn pc ps A3 n3 c3 af := by
  have h1 := h.ds.rb
  have h2 := h.ds.r2
  have g1 := grown2 W w0.heap.size (.slice q.A q.n q.c) (.slice q.P q.m q.d)
  have ne1 : ∀ {g : Nat}, some w0.heap.size = some g → w0.heap.size = g := fun e => by injection e
  exact ⟨(h.ds.k2.set_ 0 _).set_ 1 _, h.ds.k3.grown g1 (fun e => by have := ne1 e.symm; omega), h.ds.own.old g1 (by omega), h.pairs.kept g1 (fun g e e2 => by have := ne1 e; have := (h.pairs.block _ e2).1; omega),
    h.aft.kept g1 (fun g e e2 => by have := ne1 e; have := (h.aft.block _ e2).1; omega), h.ds.below.grown g1 h.ds.below.size (fun g e => by have := ne1 e; omega), by omega⟩
theorem Fn1.fin2 {w0 W W2 : World} {b0 pn pc ln lc n3 c3 : Nat} {kd : Int} {q : Mq} {PA LA A3 : Option Addr} {ps af : List Int} (h : Fn1 w0 W b0 q PA pn pc ps A3 n3 c3 af)
    (hW : ((W.setCell ⟨w0.heap.size + 1, 0, none⟩ (.int .i64 kd)).setCell ⟨w0.heap.size + 1, 1, none⟩ (.slice PA pn pc)).setCell ⟨w0.heap.size + 1, 2, none⟩ (.slice LA ln lc) = W2) :
    ((W2.cell? ⟨w0.heap.size, 0, none⟩ = some (.slice q.A q.n q.c) ∧ W2.cell? ⟨w0.heap.size, 1, none⟩ = some (.slice q.P q.m q.d)) ∧
      W2.cell? ⟨w0.heap.size + 1, 0, none⟩ = some (.int .i64 kd) ∧ W2.cell? ⟨w0.heap.size + 1, 1, none⟩ = some (.slice PA pn pc) ∧ W2.cell? ⟨w0.heap.size + 1, 2, none⟩ = some (.slice LA ln lc)) ∧
    MdI W2.drew W2.drew.heap.size q ∧ Ints W2.drew W2.drew.heap.size PA (pn * 2) ps ∧ Ints W2.drew W2.drew.heap.size A3 n3 af ∧ Below w0.heap.size w0 W2.drew := by
  have g2 := grown3 W (w0.heap.size + 1) (.int .i64 kd) (.slice PA pn pc) (.slice LA ln lc)
  have b3 : Blk (((W.setCell ⟨w0.heap.size + 1, 0, none⟩ (.int .i64 kd)).setCell ⟨w0.heap.size + 1, 1, none⟩ (.slice PA pn pc)).setCell ⟨w0.heap.size + 1, 2, none⟩ (.slice LA ln lc)) (w0.heap.size + 1) 35 #[.int .i64 kd, .slice PA pn pc, .slice LA ln lc] :=
    ((h.k3.set_ 0 (.int .i64 kd)).set_ 1 (.slice PA pn pc)).set_ 2 (.slice LA ln lc)
  rw [hW] at g2 b3
  clear hW
  have h1 := h.r
  have ne2 : ∀ {g : Nat}, some (w0.heap.size + 1) = some g → w0.heap.size + 1 = g := fun e => by injection e
  have b2 := h.k2.grown g2 (fun e => by have := ne2 e.symm; omega)
  refine ⟨⟨⟨by rw [b2.cell]; rfl, by rw [b2.cell]; rfl⟩, by rw [b3.cell]; rfl, by rw [b3.cell]; rfl, by rw [b3.cell]; rfl⟩, ?_, ?_, ?_, ?_⟩
  · exact ((h.own.old g2 (by omega)).drewN 1).mdi
  · exact ((h.pairs.kept g2 (fun g e e2 => by have := ne2 e; have := (h.pairs.block _ e2).1; omega)).drewN 1).ints
  · exact ((h.aft.kept g2 (fun g e e2 => by have := ne2 e; have := (h.aft.block _ e2).1; omega)).drewN 1).ints
  · exact below_drewN (h.below.grown g2 h.below.size (fun g e => by have := ne2 e; omega)) 1
set_option maxHeartbeats 12800000 in
theorem drawDo_any (A : Option Addr) (n c : Nat) (bs : Nat → Int) (w : World) (hb : Bytes w w.heap.size A n bs) (hn : n ≤ c) (hc : c ≤ maxLen) :
    Calls Try.prog 15 #[.slice A n c] w (MDrawn w) := by
  obtain ⟨W, hW⟩ : ∃ W, (w.alloc (.cells #[.slice none 0 0, .slice none 0 0] 27)).alloc (.cells #[.int .i64 0, .slice none 0 0, .slice none 0 0] 35) = W := ⟨_, rfl⟩
  have HK : Hid (Kp w W [(w.heap.size + 1, 35, #[.int .i64 0, .slice none 0 0, .slice none 0 0]), (w.heap.size, 27, #[.slice none 0 0, .slice none 0 0])]) := by
    rw [← hW]
    exact ((Kp.refl w).push _ _).pushN _ (by simp) _ _
  have hsz : W.heap.size = w.heap.size + 2 := by rw [← hW]; simp
  have HBY := hide (show Bytes W W.heap.size A n bs from fun h0 => by
    obtain ⟨ad, e, hb1, hc1⟩ := hb h0
    refine ⟨ad, e, by omega, fun j hj => ⟨(hc1 j hj).1, (hc1 j hj).2.1, ?_⟩⟩
    exact (HK.out.below.cell (p := ad.add j) (by rw [block_of_add]; exact hb1)).trans (hc1 j hj).2.2)
  clear hb
  go_enter Try.func15, Try.ntmps15
  go_upto_region 1 with (fail)
  clear hW
  go_wp2_with fail
  refine (open_any A n c bs W HBY.out hn hc).mono ?_
  rintro e w1 ⟨rfl, hr1, hb1⟩
  obtain ⟨R, hR⟩ : ∃ R, W.heap.size = R := ⟨_, rfl⟩
  have hR2 : R = w.heap.size + 2 := by omega
  have HK1 := hide (HK.out.step hb1)
  rw [hR] at hr1 ⊢
  have hrlt := hr1.lt
  have HR1 := hide hr1
  have HR2 := hide hR2
  clear hr1 hb1 HK HBY hR hR2 hsz
  go_wp2_with fail
  refine (now92_any R 0 w1 HR1.out (by omega)).mono ?_
  rintro e w2 ⟨A2, n2, c2, xs2, rfl, ho2, hn2, hg2, p2, hp20, hp21, hr2⟩
  have HO2 := hide ho2
  have HK2 := hide (show Kp w w2 _ from ⟨fun q hq => ⟨(HK1.out.blk q hq).1.grown hg2 (fun e => by
      injection e with e
      have h2 := HR2.out
      simp only [List.mem_cons, List.not_mem_nil, or_false] at hq
      rcases hq with rfl | rfl <;> simp only at e <;> omega), (HK1.out.blk q hq).2⟩, HK1.out.below.grown hg2 HK1.out.below.size (fun g e => by injection e with e; have := HR2.out; omega)⟩)
  have hs2 := hg2.size
  have HRD2 := hide hr2
  clear ho2 hg2 hr2 HK1 HR1
  go_wp2_with fail
  refine (specModel A2 n2 c2 w2.heap.size xs2 w2 HO2.out.ints (Nat.le_refl _) (by omega)).mono ?_
  rintro e w3 ⟨q, rfl, hm3, hx3, hq3, hb3⟩
  have hs3 := hb3.size
  have hlq : ∀ l ∈ vsN q.qs, l.length ≤ 12 := by
    rw [hq3]
    intro l hl
    simp only [List.mem_singleton] at hl
    rw [hl, HO2.out.1]
    exact hn2
  have hlen : q.n ≤ 12 ∧ q.m ≤ 62 := by
    have h1 := hm3.now.1
    have h2 := hm3.past.len
    rw [← vsN_length, hq3] at h2
    rw [hx3, HO2.out.1] at h1
    simp at h2
    omega
  obtain ⟨w4, hw4⟩ : ∃ w4, w3.alloc (.cells #[.slice q.A q.n q.c, .slice q.P q.m q.d] 27) = w4 := ⟨_, rfl⟩
  have HS0 := hide (show DS w w4 R p2 w1.heap.size w3.heap.size q from by
    rw [← hw4]
    have hk3 := HK2.out.step hb3
    exact { rd := (HRD2.out.below hb3).alloc _, rb := hrlt, r2 := by (have := HR2.out; omega), km := Blk.new w3 _ _, gml := by omega, own := (hm3.mono hs2).alloc _,
            k2 := (hk3.blk (w.heap.size, 27, #[.slice none 0 0, .slice none 0 0]) (by simp)).1.alloc _, k3 := hk3.hd.alloc _, bw := by (simp; omega), below := hk3.below.alloc hk3.below.size _, nq := hlen.1, mq := by (have := hlen.2; omega), lq := hlq })
  obtain ⟨gm, hgm⟩ : ∃ gm, w3.heap.size = gm := ⟨_, rfl⟩
  obtain ⟨b0, hb0⟩ : ∃ b0, w1.heap.size = b0 := ⟨_, rfl⟩
  rw [hgm, hb0] at HS0
  have hqm : q.m ≤ 62 := hlen.2
  unfold Mq.val
  clear hm3 hx3 hq3 hb3 HK2 HO2 HRD2 hlen hlq hs2 hs3 hrlt
  go_upto_region 3 with (fail)
  clear hgm hb0 hw4
  go_wp2_with fail
  refine (pick_any R p2 5 w4 HS0.out.rd (by omega) (by omega)).mono ?_
  rintro e w5 ⟨v, rfl, hv0, hv1, hr5, hg5⟩
  have HS5 := hide (HS0.out.pick hr5 hg5)
  obtain ⟨N, rfl⟩ := Int.eq_ofNat_of_zero_le hv0
  have hN : N ≤ 4 := by omega
  clear hr5 hg5 HS0 hv0 hv1
  go_wp2_with fail
  go_loopw [9] (fun i wr => ∃ (k : Nat) (q : Mq) (p' : Int), k ≤ N ∧ i = .int .i64 k ∧ p' ≤ 50 + 110 * k ∧ Hid (DS w wr R p' b0 gm q) ∧ q.m ≤ 62) (fun i _ => N - (intOf i).toNat)
  case atStart => exact ⟨0, q, p2 + 1, Nat.zero_le _, rfl, by omega, HS5, hqm⟩
  case round =>
    clear HS5
    obtain ⟨k, q, p3, hk, rfl, hp3, HS, hmq⟩ := hrel
    by_cases hlt : k < N
    · go_wp2_with fail
      refine (draw91P_any R p3 wr HS.out.rd (by omega)).mono ?_
      rintro e w6 ⟨PA, pn, pc, ps, p4, rfl, ho6, hpn, _, hp40, hp41, hr6, hg6⟩
      have hbw := HS.out.bw
      have HP6 := hide (ho6.alloc (.cells #[.int .i64 1, .slice PA pn pc, .slice none 0 0] 35))
      have HS6 := hide ((HS.out.pick hr6 hg6).step (below_new w6 (.cells #[.int .i64 1, .slice PA pn pc, .slice none 0 0] 35)))
      have HKE := hide (Blk.new w6 35 #[.int .i64 1, .slice PA pn pc, .slice none 0 0])
      have HG6 := hide hg6.size
      clear ho6 hr6 hg6 HS
      go_upto_region 8 with (fail)
      generalize w6.alloc (.cells #[.int .i64 1, .slice PA pn pc, .slice none 0 0] 35) = w7 at HP6 HS6 HKE ⊢
      have HGE := hide (show b0 ≤ w6.heap.size from by have := HG6.out; omega)
      generalize w6.heap.size = ge at HKE HGE ⊢
      have hge0 : b0 ≤ ge := by have := HGE.out; omega
      have HB1 := hide (below_drewN (Below.refl w7.heap.size w7) 1)
      have HB2 := hide ((below_drewN (Below.refl w7.heap.size w7) 1).alloc (Nat.le_refl _) (.cells #[.slice none 0 0, .slice none 0 0] 27))
      have HNX := hide fun (W' : World) (hb : Below w7.heap.size w7 W') => specNext q W'.heap.size W' PA none pn pc 0 0 ps 1 true (HS6.out.step hb).own.mdi (Nat.le_refl _) ((HP6.out.below hb).ints) (by omega) (by have := HS6.out.nq; omega)
      have HDO := hide fun (W' : World) (hb : Below w7.heap.size w7 W') (A8 : Option Addr) (c8 : Nat) (nx : List Int) (ha : Ints W' W'.heap.size A8 q.n nx) => specDo q W'.heap.size W' PA none A8 pn pc 0 0 q.n c8 ps nx 1 true (HS6.out.step hb).own.mdi (Nat.le_refl _) ((HP6.out.below hb).ints) ha (by omega) (by have := HS6.out.nq; omega) (by have := HS6.out.nq; omega)
      have HC := hide fun (W' : World) (hb : Below w7.heap.size w7 W') => (show W'.cell? ⟨gm, 0, none⟩ = some (.slice q.A q.n q.c) ∧ W'.cell? ⟨gm, 1, none⟩ = some (.slice q.P q.m q.d) ∧ W'.cell? ⟨ge, 0, none⟩ = some (.int .i64 1) ∧ W'.cell? ⟨ge, 1, none⟩ = some (.slice PA pn pc) ∧ W'.cell? ⟨ge, 2, none⟩ = some (.slice none 0 0) from by
        obtain ⟨a, b, _, _⟩ := (HS6.out.step hb).cells
        have hk := HKE.out.below hb HKE.out.lt
        exact ⟨a, b, by rw [hk.cell]; rfl, by rw [hk.cell]; rfl, by rw [hk.cell]; rfl⟩)
      obtain ⟨y0, y1, y2, y3, y4⟩ := HC.out w7 (Below.refl _ _)
      go_cut [11, 12] from 23 to 41 (fun x k wx => Hid (Mid8 w wx R p4 b0 gm q x k))
      case first =>
        go_region_held3 (fun W => W.cell? ⟨gm, 0, none⟩ = some (.slice q.A q.n q.c) ∧ W.cell? ⟨gm, 1, none⟩ = some (.slice q.P q.m q.d) ∧ W.cell? ⟨ge, 0, none⟩ = some (.int .i64 1) ∧ W.cell? ⟨ge, 1, none⟩ = some (.slice PA pn pc) ∧ W.cell? ⟨ge, 2, none⟩ = some (.slice none 0 0))
          (first
            | (with_reducible exact HK9.out)
            | (with_reducible exact HK8.out)
            | (exact HC.out _ (HW9.out.alloc HW9.out.size _))
            | (exact HC.out _ (HW9.out.grown (grown2 w9 w7.heap.size _ _) HW9.out.size (fun g e => by injection e with e; omega)))
            | (exact HC.out _ (HW9.out.grown (grown2 w9 w8.heap.size _ _) HW9.out.size (fun g e => by injection e with e; have := HW8.out.size; omega)))
            | go_keep)
          ((first
            | (go_at_call 39; refine (HNX.out (w7.drewN 1) HB1.out).mono ?_; rintro e w8 ⟨A8, c8, rfl, ho8, hb8⟩
               have HW8 := hide (HB1.out.trans hb8)
               have HK8 := hide (HC.out w8 HW8.out)
               have HO8 := hide ho8
               have HX8 := hide True.intro
               clear ho8 hb8)
            | (go_at_call 39; refine (HNX.out _ HB2.out).mono ?_; rintro e w8 ⟨A8, c8, rfl, ho8, hb8⟩
               have HW8 := hide (HB2.out.trans (hb8.mono (by simp)))
               have HK8 := hide (HC.out w8 HW8.out)
               have HO8 := hide ho8
               have HX8 := hide (show Blk w8 w7.heap.size 27 #[.slice none 0 0, .slice none 0 0] from (Blk.new (w7.drewN 1) 27 #[.slice none 0 0, .slice none 0 0]).below hb8 (by simp))
               clear ho8 hb8)
            | (go_at_call 17; refine (HDO.out w8 HW8.out A8 c8 _ HO8.out.ints).mono ?_; rintro e w9 ⟨q5, rfl, hm5, hx5, hq5, hb5⟩
               have HXB := hide (HX8.out.below hb5 HX8.out.lt)
               have HW9 := hide ((HW8.out).trans (hb5.mono (HW8.out).size))
               have HK9 := hide (HC.out w9 HW9.out)
               have HN5 := hide (MPost_len hm5 hx5 hq5)
               have HM5 := hide hm5
               obtain ⟨⟨t0, t1⟩, g0, g1⟩ := blk2 HXB.out
               clear hm5 hx5 hq5 hb5
               unfold Mq.val)
            | (go_at_call 17; refine (HDO.out w8 HW8.out A8 c8 _ HO8.out.ints).mono ?_; rintro e w9 ⟨q5, rfl, hm5, hx5, hq5, hb5⟩
               have HXB := hide (True.intro)
               obtain ⟨⟨t0, t1⟩, g0, g1⟩ := blk2 (Blk.new w9 27 #[.slice none 0 0, .slice none 0 0])
               have HW9 := hide ((HW8.out).trans (hb5.mono (HW8.out).size))
               have HK9 := hide (HC.out w9 HW9.out)
               have HN5 := hide (MPost_len hm5 hx5 hq5)
               have HM5 := hide hm5
               clear hm5 hx5 hq5 hb5
               unfold Mq.val)
            | (go_at_call 17; refine (HDO.out _ (HW8.out.alloc HW8.out.size (.cells #[.slice none 0 0, .slice none 0 0] 27)) A8 c8 _ (HO8.out.ints.alloc (Nat.le_refl _) _ |>.more (by simp))).mono ?_; rintro e w9 ⟨q5, rfl, hm5, hx5, hq5, hb5⟩
               have HXB := hide ((Blk.new w8 27 #[.slice none 0 0, .slice none 0 0]).below hb5 (by simp))
               have HW9 := hide (((HW8.out.alloc HW8.out.size (.cells #[.slice none 0 0, .slice none 0 0] 27))).trans (hb5.mono ((HW8.out.alloc HW8.out.size (.cells #[.slice none 0 0, .slice none 0 0] 27))).size))
               have HK9 := hide (HC.out w9 HW9.out)
               have HN5 := hide (MPost_len hm5 hx5 hq5)
               have HM5 := hide hm5
               obtain ⟨⟨t0, t1⟩, g0, g1⟩ := blk2 HXB.out
               clear hm5 hx5 hq5 hb5
               unfold Mq.val)))
        all_goals
          have hgm7 : gm < w7.heap.size := HS6.out.km.lt
          have hb07 : b0 ≤ w7.heap.size := HS6.out.bw
          have hw78 : w7.heap.size ≤ w8.heap.size := HW8.out.size
          have HS9 := hide (HS6.out.step HW9.out)
          go_wp2
          go_meet
          first
            | exact mid8_new HS9.out (HM5.out.mono (by omega)) HN5.out
            | exact mid8_put HS9.out HXB.out (HM5.out.mono (by simp; omega)) HN5.out (by omega) (by omega)
            | exact mid8_put HS9.out HXB.out (HM5.out.mono (by omega)) HN5.out (by omega) (by omega)
      case rest =>
        clear HB1 HB2 HNX HDO HC y0 y1 y2 y3 y4 HS6 HP6 HKE
        obtain ⟨gx, q5, ok, rfl, rfl, hds, hbk, hm5, hn5, hm52, hl52⟩ := hcut.out
        have HSX := hide hds
        obtain ⟨⟨t0, t1⟩, _, _⟩ := blk2 hbk
        obtain ⟨m0, m1, g0, g1⟩ := hds.cells
        have HST := hide (hds.setm hm5 hn5 (by omega) hl52)
        clear hds hbk hm5 hcut
        rcases ok with _ | _
        · go_wp2
          go_roundw
          case rel => exact ⟨k + 1, q, p4, by omega, by go_num, by omega, HSX, hmq⟩
          case measure => simp [intOf]; omega
        · go_wp2
          go_roundw
          case rel => exact ⟨k + 1, q5, p4, by omega, by go_num, by omega, HST, by omega⟩
          case measure => simp [intOf]; omega
    · obtain rfl : k = N := by omega
      go_wp2_with fail
      refine (new21_any wr).mono ?_
      rintro e w6 ⟨dA, sA, mA, hA, dc, mc, rfl, hm6, hb6⟩
      have HS6 := hide (HS.out.step hb6)
      have HM6 := hide hm6
      have hRr : R < wr.heap.size := by have h1 := HS.out.rb; have h2 := HS.out.bw; omega
      have hb0r : b0 ≤ wr.heap.size := HS.out.bw
      have hs6 := hb6.size
      clear hm6 hb6 HS
      go_wp2_with fail
      refine (event92_any R p3 dA sA mA hA dc 0 mc 12 wr.heap.size 1 0 w6 HS6.out.rd (by omega) HM6.out hRr).mono ?_
      rintro e w7 ⟨kd, PA, LA, pn, pc, ln, lc, ps, ls, p4, rfl, ho7, hpn, hl7, hln, hp40, hp41, hr7, hg7⟩
      have hs7 := hg7.size
      have HS7 := hide (HS6.out.pick hr7 hg7)
      have HE8 := hide (show DE w (w7.alloc (.cells #[.int .i64 kd, .slice PA pn pc, .slice LA ln lc] 35)) R p4 b0 gm q w7.heap.size kd PA pn pc ps LA ln lc ls none 0 0 [] from
        { ds := HS7.out.step (below_new w7 _), ke := Blk.new w7 _ _, gel := by omega, gne := by (have := HS7.out.km.lt; omega), pairs := (ho7.mono (by omega)).alloc _, list := (hl7.mono (by omega)).alloc _, aft := Own.nil_ _ _ })
      clear ho7 hl7 hr7 hg7 HS7 HS6 HM6
      go_upto_region 12 with (fail)
      generalize w7.alloc (.cells #[.int .i64 kd, .slice PA pn pc, .slice LA ln lc] 35) = w8 at HE8 ⊢
      generalize w7.heap.size = gE at HE8 ⊢
      go_wp2_with fail
      refine (pick_any R p4 4 w8 HE8.out.ds.rd (by omega) (by omega)).mono ?_
      rintro e w9 ⟨u, rfl, hu0, hu1, hr9, hg9⟩
      have HE9 := hide (HE8.out.pick hr9 hg9)
      clear hr9 hg9 HE8
      go_upto_region 13 with (fail)
      generalize decide (0 < u) = dn
      obtain ⟨m0, m1, _, _⟩ := HE9.out.ds.cells
      obtain ⟨e0, e1, e2⟩ := HE9.out.cellsE
      go_wp2_with fail
      refine (specNext q w9.heap.size w9 PA LA pn pc ln lc ps kd dn HE9.out.ds.own.mdi (Nat.le_refl _) HE9.out.pairs.ints (by omega) (by have := HE9.out.ds.nq; omega)).mono ?_
      rintro e w10 ⟨A10, c10, rfl, ho10, hb10⟩
      have hb09 : b0 ≤ w9.heap.size := HE9.out.ds.bw
      have HEA := hide ((HE9.out.step hb10).after (ho10.mono hb09))
      clear ho10 hb10 HE9 m0 m1 e0 e1 e2
      have hn312 : q.n ≤ 12 := HEA.out.ds.nq
      generalize nextV q.xs kd pn ps dn = af at HEA
      have hp54 : p4 + 1 ≤ 700 := by omega
      generalize p4 + 1 = p5 at HEA hp54
      clear hp40 hp41 hu0 hu1 hb09 hb0r hRr hp3 hN hs6 hs7 hk hlt
      go_upto_region 14 with (fail)
      go_cut [60] from 52 to 60 (fun c wx => wx = w10 ∧ c = .bool (decide (kd = 10 ∧ 0 < q.m)))
      case first =>
        obtain ⟨m0, m1, _, _⟩ := HEA.out.ds.cells
        obtain ⟨e0, e1, e2⟩ := HEA.out.cellsE
        by_cases hkd : kd = 10
        · have hkd' : (kd == 10) = true := by simpa using hkd
          by_cases hm0 : 0 < q.m
          · have HKD := hide (show decide (kd = 10 ∧ 0 < q.m) = true from decide_eq_true ⟨hkd, hm0⟩)
            have hm0' : decide ((0 : Int) < (q.m : Int)) = true := decide_eq_true (by omega)
            have hm0i : (0 : Int) < (q.m : Int) := by omega
            clear hkd
            go_wp2_with fail
            go_meet
            exact ⟨rfl, by rw [HKD.out]⟩
          · have HKD := hide (show decide (kd = 10 ∧ 0 < q.m) = false from decide_eq_false (fun h => hm0 h.2))
            have hm0' : decide ((0 : Int) < (q.m : Int)) = false := decide_eq_false (by omega)
            have hm0i : ¬ (0 : Int) < (q.m : Int) := by omega
            clear hkd
            go_wp2_with fail
            go_meet
            exact ⟨rfl, by rw [HKD.out]⟩
        · have hkd' : (kd == 10) = false := by simpa using hkd
          have HKD := hide (show decide (kd = 10 ∧ 0 < q.m) = false from decide_eq_false (fun h => hkd h.1))
          clear hkd
          go_wp2_with fail
          go_meet
          exact ⟨rfl, by rw [HKD.out]⟩
      case rest =>
        obtain ⟨hwx, hcc⟩ := hcut
        rw [hwx, hcc]
        clear hwx hcc
        go_upto_if 60 with (fail)
        go_cut [15] from 60 (fun x wx => ∃ (A3 : Option Addr) (n3 c3 : Nat) (af : List Int) (p' : Int), x = .slice A3 n3 c3 ∧ Hid (DE w wx R p' b0 gm q gE kd PA pn pc ps LA ln lc ls A3 n3 c3 af) ∧ n3 ≤ 12 ∧ p' ≤ 710)
        case first =>
          by_cases hc14 : kd = 10 ∧ 0 < q.m
          · rw [decide_eq_true hc14]
            have hm0 := hc14.2
            clear hc14
            obtain ⟨ad, hP, hadb, _⟩ := HEA.out.ds.own.past.nyi.2.1 hm0
            have hRb := HEA.out.ds.rb
            have hbw := HEA.out.ds.bw
            have HD1 := hide (HEA.out.step (W' := w10.alloc (.cells #[] 3)) (below_new w10 _))
            have HP := hide hP
            obtain ⟨m0, m1, _, _⟩ := HEA.out.ds.cells
            obtain ⟨n0, n1, _, _⟩ := HD1.out.ds.cells
            rw [hP] at m1 n1
            have HLT := hide (Own.lit0 w10 w10.heap.size (Nat.le_refl _))
            have HRD1 := hide (HEA.out.ds.rd.drewN 1)
            have HRD2 := hide (HD1.out.ds.rd.drewN 1)
            have HLI := hide fun (w11 : World) (p6 : Int) (hr : Rd w11 R p6) (hg : w10.grownBy w11 (some R)) (J : Nat) (hJ : J < q.m) => show ∃ (p : Nq), Ints w11 w11.heap.size p.addr p.ps.length p.ps ∧ p.ps.length ≤ 12 ∧ w11.cell? (ad.add J) = some (.slice p.addr p.ps.length p.cap) ∧ (w11.alloc (.cells #[] 3)).cell? (ad.add J) = some (.slice p.addr p.ps.length p.cap) ∧ w11.cell? ⟨gm, 1, none⟩ = some (.slice (some ad) q.m q.d) ∧ (w11.alloc (.cells #[] 3)).cell? ⟨gm, 1, none⟩ = some (.slice (some ad) q.m q.d) from by
              have hx := (HEA.out.pick hr hg).ds
              have hx2 := hx.step (W' := w11.alloc (.cells #[] 3)) (below_new w11 _)
              obtain ⟨p, hp⟩ : ∃ x, q.qs[J]? = some x := ⟨_, List.getElem?_eq_getElem (by rw [hx.own.past.len]; exact hJ)⟩
              obtain ⟨ad1, h1, _, h2⟩ := hx.own.past.nyi.at_ hp
              obtain ⟨ad2, h3, _, h4⟩ := hx2.own.past.nyi.at_ hp
              rw [HP.out] at h1 h3
              injection h1 with h1
              injection h3 with h3
              subst h1
              subst h3
              have c1 := hx.cells.2.1
              have c2 := hx2.cells.2.1
              rw [HP.out] at c1 c2
              exact ⟨p, (hx.own.past.nyi.row_ hp).1, hx.lq p.ps (List.mem_of_getElem? (vsN_get hp)), h2, h4, c1, c2⟩
            clear hP hadb
            go_wp2_with fail
            go_region_law (first
              | (go_simp; go_at_call 37; refine (pick_any R p5 q.m (w10.drewN 1) HRD1.out (by omega) (by omega)).mono ?_; rintro e w11 ⟨x, rfl, hx0, hx1, hr11, hg11⟩
                 have HG := hide (grown_trans' (grown_drewN (grown_refl w10 (some R)) 1) hg11)
                 have HR := hide hr11
                 obtain ⟨J, rfl⟩ := Int.eq_ofNat_of_zero_le hx0
                 have hJm : J < q.m := by omega
                 obtain ⟨pq, hi, hl, h2, h4, c1, c2⟩ := HLI.out w11 _ hr11 HG.out J hJm
                 have HI := hide (hi.alloc (Nat.le_refl _) (.cells #[] 3))
                 have HO := hide (Own.lit0 w11 w11.heap.size (Nat.le_refl _))
                 have hnm : 0 + pq.ps.length ≤ 17592186044416 := by omega
                 have hbs : w11.heap.size ≤ (w11.alloc (.cells #[] 3)).heap.size := by simp
                 clear hi hr11 hg11)
              | (go_simp; go_at_call 37; refine (pick_any R p5 q.m ((w10.alloc (.cells #[] 3)).drewN 1) HRD2.out (by omega) (by omega)).mono ?_; rintro e w11 ⟨x, rfl, hx0, hx1, hr11, hg11⟩
                 have HG := hide (grown_trans' (grown_drewN (grown_alloc (grown_refl w10 (some R)) (.cells #[] 3)) 1) hg11)
                 have HR := hide hr11
                 obtain ⟨J, rfl⟩ := Int.eq_ofNat_of_zero_le hx0
                 have hJm : J < q.m := by omega
                 obtain ⟨pq, hi, hl, h2, h4, c1, c2⟩ := HLI.out w11 _ hr11 HG.out J hJm
                 have HI := hide hi
                 have HO := hide ((HLT.out.drewN 1).kept hg11 (by intro g hg e; injection hg with hg; have := (HLT.out.block g e).1; omega))
                 have hnm : 0 + pq.ps.length ≤ 17592186044416 := by omega
                 have hbs : w10.heap.size ≤ w11.heap.size := HG.out.size
                 clear hi hr11 hg11)
              | (refine step_append_ints ?_ (.tmp 61) (.tmp 70) ?_ w11.heap.size 0 0 w11.heap.size pq.ps.length pq.cap (some ⟨w11.heap.size, 0, none⟩) pq.addr [] pq.ps ?_ ?_ ?_ ?_ ?_ ?_ ?_; rfl; rfl; rfl; exact HO.out; rfl; exact HI.out; exact hnm; exact hbs; intro A12 c12 w12 ho12 hg12 hat12
                 simp only [Nat.zero_add, List.nil_append] at ho12 ⊢
                 have HG12 := hide (grown_own HG.out (grown_of_below (below_app0 (Below.refl w11.heap.size w11) (Nat.le_refl _) hg12) none) (by simp))
                 have HR12 := hide (HR.out.below (below_app0 (Below.refl w11.heap.size w11) (Nat.le_refl _) hg12))
                 have HE12 := hide ((HEA.out.pick HR12.out HG12.out).after (ho12.mono (by have := HG.out.size; omega)))
                 clear ho12 hg12 hat12)
              | (refine step_append_ints ?_ (.tmp 61) (.tmp 70) ?_ w10.heap.size 0 0 w11.heap.size pq.ps.length pq.cap (some ⟨w10.heap.size, 0, none⟩) pq.addr [] pq.ps ?_ ?_ ?_ ?_ ?_ ?_ ?_; rfl; rfl; rfl; exact HO.out; rfl; exact HI.out; exact hnm; exact hbs; intro A12 c12 w12 ho12 hg12 hat12
                 simp only [Nat.zero_add, List.nil_append] at ho12 ⊢
                 have HG12 := hide (grown_own HG.out hg12 (by intro g e; have := (HLT.out.block g e).1; omega))
                 have HR12 := hide (HR.out.grown hg12 (by intro g e; have := (HLT.out.block g e).1; omega))
                 have HE12 := hide ((HEA.out.pick HR12.out HG12.out).after (ho12.mono hbw))
                 clear ho12 hg12 hat12))
            all_goals
              go_wp2
              go_meet
              exact ⟨_, _, _, _, _, rfl, HE12, hl, by omega⟩
          · rw [decide_eq_false hc14]
            clear hc14
            go_wp2
            go_meet
            exact ⟨_, _, _, _, _, rfl, HEA, hn312, by omega⟩
        case rest =>
          clear HEA hn312 hp54
          obtain ⟨A3, n3, c3, af, p6, rfl, HE, hn3, hp6⟩ := hcut
          go_upto_block 2 with (go_at_call 37; refine (pick_any R p6 12 _ HE.out.ds.rd (by omega) (by omega)).mono ?_; rintro e w13 ⟨v, rfl, hv0, hv1, hr13, hg13⟩; have HE13 := hide (HE.out.pick hr13 hg13); clear hr13 hg13)
          clear HE
          go_cut [15] from 74 (fun x wx => ∃ (q : Mq) (A3 : Option Addr) (n3 c3 : Nat) (af : List Int) (p' : Int), x = .slice A3 n3 c3 ∧ Hid (DE w wx R p' b0 gm q gE kd PA pn pc ps LA ln lc ls A3 n3 c3 af) ∧ n3 ≤ 12)
          case first =>
            obtain ⟨m0, m1, g0, g1⟩ := HE13.out.ds.cells
            have hb13 := HE13.out.ds.bw
            have HW13 := hide HE13.out.ds.own
            by_cases h0 : v = 0
            · subst h0
              clear m0 m1 g0 g1
              go_wp2_with fail
              refine (now92_any R (p6 + 1) w13 HE13.out.ds.rd (by omega)).mono ?_
              rintro e w14 ⟨A14, n14, c14, xs14, rfl, ho14, hn14, hg14, p14, hp140, hp141, hr14⟩
              have HE14 := hide ((HE13.out.pick hr14 hg14).after (ho14.mono hb13))
              clear ho14 hg14 hr14
              go_wp2
              go_meet
              exact ⟨_, _, _, _, _, _, rfl, HE14, hn14⟩
            · have h0' : (v == 0) = false := by simpa using h0
              by_cases h1 : v = 1
              · subst h1
                clear m0 m1 g0 g1
                go_wp2_with fail
                refine (now92_any R (p6 + 1) w13 HE13.out.ds.rd (by omega)).mono ?_
                rintro e w14 ⟨A14, n14, c14, xs14, rfl, ho14, hn14, hg14, p14, hp140, hp141, hr14⟩
                have HX := hide (HE13.out.pick hr14 hg14)
                have HE14 := hide (HX.out.now ho14 HW13.out hb13 hn14)
                obtain ⟨m0, m1, g0, g1⟩ := HX.out.ds.cells
                clear ho14 hg14 hr14
                go_wp2
                go_meet
                exact ⟨_, _, _, _, _, _, rfl, HE14, hn3⟩
              · have h1' : (v == 1) = false := by simpa using h1
                by_cases h2 : v = 2
                · subst h2
                  have HNO := hide (now92_any R (p6 + 1) (w13.drewN 1) (HE13.out.ds.rd.drewN 1) (by omega))
                  go_wp2_with fail
                  go_region_law (first
                    | (go_simp; go_at_call 31; refine HNO.out.mono ?_; rintro e w14 ⟨A14, n14, c14, xs14, rfl, ho14, hn14, hg14, p14, hp140, hp141, hr14⟩
                       have HG14 := hide (grown_trans' (grown_drewN (grown_refl w13 (some R)) 1) hg14)
                       have HX := hide (HE13.out.pick hr14 HG14.out)
                       have HO14 := hide ho14
                       obtain ⟨_, m2, _, _⟩ := HX.out.ds.cells
                       have m3 := (HX.out.ds.step (W' := w14.alloc (.cells #[.slice A14 n14 c14] 23)) (below_new w14 _)).cells.2.1
                       have HNW := hide (NewN.lone HX.out.ds.own.past (ho14.mono hb13) (HW13.out.past.fresh' (w' := w14) ho14))
                       have hm62 : q.m + 1 ≤ 100000000000 := by omega
                       have hbs : b0 ≤ (w14.alloc (.cells #[.slice A14 n14 c14] 23)).heap.size := by (have := HX.out.ds.bw; simp; omega)
                       clear ho14 hg14 hr14)
                    | (refine step_append_nts ?_ (.tmp 86) (.tmp 89) ?_ b0 q.m q.d 1 1 q.P (some ⟨w14.heap.size, 0, none⟩) q.qs [⟨xs14, A14, c14⟩] ?_ ?_ ?_ ?_ ?_ ?_; rfl; rfl; rfl; rfl; exact HNW.out; exact hm62; exact hbs; intro A15 c15 w15 ho15 hg15 hat15
                       obtain ⟨⟨s1, s2⟩, hde⟩ := HX.out.app (w1 := w13.drewN 1) HO14.out (HW13.out.drewN 1) hb13 hn14 hmq ho15 hg15
                       have HE15 := hide hde
                       clear hde ho15 hg15 hat15))
                  all_goals
                    go_wp2
                    go_meet
                    exact ⟨_, _, _, _, _, _, rfl, HE15, hn3⟩
                · have h2' : (v == 2) = false := by simpa using h2
                  clear h0 h1 h2
                  go_wp2
                  go_meet
                  exact ⟨_, _, _, _, _, _, rfl, HE13, hn3⟩
          case rest =>
            clear HE13 hv0 hv1 hp6 hn3
            obtain ⟨q, A3, n3, c3, af, p9, rfl, HE, hn3⟩ := hcut
            obtain ⟨m0, m1, g0, g1⟩ := HE.out.ds.cells
            obtain ⟨e0, e1, e2⟩ := HE.out.cellsE
            obtain ⟨⟨y0, y1⟩, y2, y3⟩ := blk2 HE.out.ds.k2
            obtain ⟨⟨k0, k1, k2⟩, k3, k4, k5⟩ := blk3 HE.out.ds.k3
            have HA := hide HE.out
            have a1 := HE.out.ds.r2
            have a2 := HE.out.ds.rb
            have a3 := HE.out.ds.gml
            have a4 := HE.out.gel
            have d1 : ¬ w.heap.size = gE := by omega
            have d2 : ¬ gE = w.heap.size := by omega
            have d3 : ¬ w.heap.size + 1 = gE := by omega
            have d4 : ¬ gE = w.heap.size + 1 := by omega
            have d5 : ¬ w.heap.size = gm := by omega
            have d6 : ¬ gm = w.heap.size := by omega
            have d7 : ¬ w.heap.size + 1 = gm := by omega
            have d8 : ¬ gm = w.heap.size + 1 := by omega
            clear HE a1 a2 a3 a4
            go_wp2_with fail
            go_region
            all_goals
              go_wp2
              obtain ⟨⟨⟨q0, q1⟩, q2, q3, q4⟩, hmd, hps, haf, hbe⟩ := HA.out.fin1.fin2 (kd := kd) (LA := LA) (ln := ln) (lc := lc) rfl
              have hcap := HA.out.aft.cap
              have hnil := own_nilc HA.out.aft
              have hl3 := HA.out.aft.1
              exact bodyPost_ret (v := .tuple #[.agg #[.slice q.A q.n q.c, .slice q.P q.m q.d], .agg #[.int .i64 kd, .slice PA pn pc, .slice LA ln lc], .bool dn, .slice A3 n3 c3]) (by simp [results, Try.results15, go_sem, q0, q1, q2, q3, q4]) rfl
                ⟨q, kd, PA, LA, A3, pn, pc, ln, lc, n3, c3, ps, ls, af, dn, rfl, hmd, HA.out.ds.nq, HA.out.ds.mq, hps, hpn, haf, hn3, hcap.1, hcap.2, fun e => by (have := hnil e; omega), hbe⟩
end Go.Proofs.Ytiopbgenkalfaaa
