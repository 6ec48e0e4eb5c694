/-
  The exact laws' helpers on events: eqEvent, markEvent; what the walk of FnExactModelDo keeps.
-/
import Derived.Test.YtiopbgenkalfaaaExR4
import Derived.Test.YtiopbgenkalfaaaExR6
namespace Go.Proofs.Ytiopbgenkalfaaa
open Go.RowKit
set_option linter.unusedVariables false
set_option maxRecDepth 100000

set_option maxHeartbeats 1600000 in
theorem eqEvent_yes (K : Int) (PA LA PB LB : Option Addr) (pn pc ln lc pd ld B B' : Nat) (ps ls : List Int) (w : World) (hp : Ints w B PA (pn * 2) ps) (hl : Ints w B LA ln ls) (hp' : Ints w B' PB (pn * 2) ps) (hl' : Ints w B' LB ln ls)
    (hB : B ≤ w.heap.size) (hB' : B' ≤ w.heap.size) (hpn : pn ≤ 1048576) (hln : ln ≤ 1048576) :
    Calls Try.prog 29 #[.agg #[.int .i64 K, .slice PA pn pc, .slice LA ln lc], .agg #[.int .i64 K, .slice PB pn pd, .slice LB ln ld]] w fun e w' => e = .returned (.bool true) ∧ Below w.heap.size w w' := by
  obtain ⟨W, hW⟩ : ∃ W, (w.alloc (.cells #[.int .i64 K, .slice PA pn pc, .slice LA ln lc] 35)).alloc (.cells #[.int .i64 K, .slice PB pn pd, .slice LB ln ld] 35) = W := ⟨_, rfl⟩
  have HK : Hid (Kp w W [(w.heap.size + 1, 35, #[.int .i64 K, .slice PB pn pd, .slice LB ln ld]), (w.heap.size, 35, #[.int .i64 K, .slice PA pn pc, .slice LA ln lc])]) := by
    rw [← hW]
    exact ((Kp.refl w).push _ _).pushN _ (by simp) _ _
  have hs := HK.out.below.size
  have HP := hide (hp.below HK.out.below hB)
  have HP' := hide (hp'.below HK.out.below hB')
  have HL := hide (hl.below HK.out.below hB)
  have HL' := hide (hl'.below HK.out.below hB')
  clear hp hp' hl hl'
  obtain ⟨⟨c0, c1, c2⟩, _, _, _⟩ := HK.out.cells3
  obtain ⟨⟨d0, d1, d2⟩, _, _, _⟩ := HK.out.tl.cells3
  go_enter Try.func29, Try.ntmps29
  go_upto_region 1 with (fail)
  clear hW
  go_wp2_with fail
  refine (eqPairS_yes PA PB pn pc pd B B' ps W HP.out (by omega) HP'.out (by omega) (by omega)).mono ?_
  rintro e w1 ⟨rfl, hb1⟩
  have HK1 := hide (HK.out.step hb1)
  have HL1 := hide (HL.out.below hb1 (by omega))
  have HL1' := hide (HL'.out.below hb1 (by omega))
  clear hb1 HK HP HP' HL HL' c0 c1 c2 d0 d1 d2
  obtain ⟨⟨c0, c1, c2⟩, _, _, _⟩ := HK1.out.cells3
  obtain ⟨⟨d0, d1, d2⟩, _, _, _⟩ := HK1.out.tl.cells3
  go_wp2_with fail
  refine (eqIntS_yes LA LB ln lc ln ld B B' ls ls w1 HL1.out HL1'.out (by unfold maxLen; omega) (by unfold maxLen; omega) rfl).mono ?_
  rintro e w2 ⟨rfl, z, rfl⟩
  go_wp2
  go_ret
  exact ⟨rfl, below_drewN HK1.out.below z⟩

theorem ChgN.box {lo hi : Nat} (w : World) (h : lo ≤ w.heap.size) (o : Obj) : ChgN lo hi w (w.alloc o) := ⟨(below_new w o).mono h, fun b _ h2 => (below_new w o).block b h2⟩

set_option maxHeartbeats 1600000 in
theorem markEvent_any (K : Int) (PA LA : Option Addr) (pn pc ln lc base hi : Nat) (k : Int) (ps ls : List Int) (w : World) (hp : OwnR w base 42 2 PA pn pc ps) (hl : Own w base LA ln lc ls)
    (hlp : ∀ g, (Value.slice PA pn pc).ownBlock = some g → g < hi) (hll : ∀ g, (Value.slice LA ln lc).ownBlock = some g → g < hi) (hb : base ≤ w.heap.size) (hk0 : 0 ≤ k) (hk : k ≤ 100000000) (hpn : pn ≤ 1048576) (hln : ln ≤ 1048576) :
    Calls Try.prog 30 #[.agg #[.int .i64 K, .slice PA pn pc, .slice LA ln lc], .int .i64 k] w fun e w' => e = .returned (.int .i64 (k + ((pn * 2 : Nat) : Int) + (ln : Int))) ∧ ChgN base hi w w' ∧ Kt w w' := by
  have HK := hide (Blk.new w 35 #[.int .i64 K, .slice PA pn pc, .slice LA ln lc])
  have HP := hide (hp.alloc (.cells #[.int .i64 K, .slice PA pn pc, .slice LA ln lc] 35))
  have HL := hide (hl.alloc (.cells #[.int .i64 K, .slice PA pn pc, .slice LA ln lc] 35))
  have HC := hide (ChgN.box (hi := hi) w hb (.cells #[.int .i64 K, .slice PA pn pc, .slice LA ln lc] 35))
  have HT := hide (Kt.below (below_new w (.cells #[.int .i64 K, .slice PA pn pc, .slice LA ln lc] 35)))
  have hbw : base ≤ (w.alloc (.cells #[.int .i64 K, .slice PA pn pc, .slice LA ln lc] 35)).heap.size := by simp; omega
  have HLP := hide hlp
  have HLL := hide hll
  clear hp hl hlp hll
  go_enter Try.func30, Try.ntmps30
  go_upto_region 1 with (fail)
  generalize w.alloc (.cells #[.int .i64 K, .slice PA pn pc, .slice LA ln lc] 35) = W at HK HP HL HC HT hbw ⊢
  obtain ⟨z0, z1, z2⟩ : W.cell? ⟨w.heap.size, 0, none⟩ = some (.int .i64 K) ∧ W.cell? ⟨w.heap.size, 1, none⟩ = some (.slice PA pn pc) ∧ W.cell? ⟨w.heap.size, 2, none⟩ = some (.slice LA ln lc) := ⟨by rw [HK.out.cell]; rfl, by rw [HK.out.cell]; rfl, by rw [HK.out.cell]; rfl⟩
  go_wp2_with fail
  refine (markPairS_any PA pn pc base k ps W HP.out hk0 (by omega) (by omega)).mono ?_
  rintro e w1 ⟨rfl, ho1, hg1⟩
  have HC1 := hide (HC.out.grown hg1 hbw (fun g e => ⟨(HP.out.block g e).1, HLP.out g e⟩))
  have HT1 := hide (row_kt HP.out.2 hg1 (by decide) (by decide))
  have HL1 := hide (HL.out.kept hg1 (fun g e => rows_neN HP.out.2 HL.out.2 (by decide) e))
  have HK1 := hide ((HT1.out w.heap.size _).2 HK.out)
  have hs1 := hg1.size
  clear z0 z1 z2 ho1 hg1 HP HL
  obtain ⟨z0, z1, z2⟩ : w1.cell? ⟨w.heap.size, 0, none⟩ = some (.int .i64 K) ∧ w1.cell? ⟨w.heap.size, 1, none⟩ = some (.slice PA pn pc) ∧ w1.cell? ⟨w.heap.size, 2, none⟩ = some (.slice LA ln lc) := ⟨by rw [HK1.out.cell]; rfl, by rw [HK1.out.cell]; rfl, by rw [HK1.out.cell]; rfl⟩
  obtain ⟨k2, hk2⟩ : ∃ k2, k + ((pn * 2 : Nat) : Int) = k2 := ⟨_, rfl⟩
  have hk20 : 0 ≤ k2 := by omega
  have hk21 : k2 ≤ 1000000000 := by omega
  rw [hk2]
  have HKK := hide hk2
  clear hk2
  go_wp2_with fail
  refine (mark_any LA ln lc base k2 ls w1 HL1.out hk20 (by omega) (by omega)).mono ?_
  rintro e w2 ⟨rfl, ho2, hg2⟩
  have HC2 := hide (HC1.out.grown hg2 (by omega) (fun g e => ⟨(HL1.out.block g e).1, HLL.out g e⟩))
  have HT2 := hide (HT.out.trans (HT1.out.trans (row_kt HL1.out.2 hg2 (by decide) (by decide))))
  clear ho2 hg2
  go_wp2
  go_ret
  exact ⟨ret_int (by rw [← HKK.out]), HC2.out, HT2.out⟩

theorem row_lows {w w' : World} {base t s n : Nat} {v : Value} {xs : List Value} (hr : w.ownsRow base t s v n xs) (hk : ∀ g, base ≤ g → g < w.heap.size → w'.heap[g]? = w.heap[g]?) : w'.ownsRow base t s v n xs := by
  refine ⟨hr.1, ?_⟩
  rcases hr.2 with h0 | ⟨g, cap, cur, hv, hb, hh, r⟩
  · exact .inl h0
  · exact .inr ⟨g, cap, cur, hv, hb, by rw [hk g hb (Array.getElem?_eq_some_iff.1 hh).1]; exact hh, r⟩

/-- what came in: the model and the event in their boxes, the values; the specification's result in its box -/
structure EA (w W : World) (q : Mq) (K : Int) (PA LA A3 : Option Addr) (pn pc ln lc n3 : Nat) (ps ls af : List Int) : Prop where
  m : MdI W w.heap.size q
  p : Ints W w.heap.size PA (pn * 2) ps
  l : Ints W w.heap.size LA ln ls
  a : Ints W w.heap.size A3 n3 af
  k4 : Blk W w.heap.size 47 #[.slice q.A q.n q.c, .slice q.P q.m q.d]
  k5 : Blk W (w.heap.size + 1) 50 #[.int .i64 K, .slice PA pn pc, .slice LA ln lc]
  b : Below w.heap.size w W
  sz : w.heap.size + 2 ≤ W.heap.size
section
variable {w W W' : World} {q : Mq} {K : Int} {PA LA A3 : Option Addr} {pn pc ln lc n3 : Nat} {ps ls af : List Int}
theorem EA.step (h : EA w W q K PA LA A3 pn pc ln lc n3 ps ls af) {B : Nat} (hb : Below B W W') (hB : w.heap.size + 2 ≤ B) : EA w W' q K PA LA A3 pn pc ln lc n3 ps ls af :=
  { m := h.m.below hb (by omega), p := h.p.below hb (by omega), l := h.l.below hb (by omega), a := h.a.below hb (by omega), k4 := h.k4.below hb (by omega), k5 := h.k5.below hb (by omega), b := h.b.trans (hb.mono (by omega)), sz := Nat.le_trans h.sz hb.size }
theorem EA.next (h : EA w W q K PA LA A3 pn pc ln lc n3 ps ls af) (hb : Below W.heap.size W W') : EA w W' q K PA LA A3 pn pc ln lc n3 ps ls af := h.step hb h.sz
theorem EA.cells (h : EA w W q K PA LA A3 pn pc ln lc n3 ps ls af) : W.cell? ⟨w.heap.size, 0, none⟩ = some (.slice q.A q.n q.c) ∧ W.cell? ⟨w.heap.size, 1, none⟩ = some (.slice q.P q.m q.d) ∧ W.cell? ⟨w.heap.size + 1, 0, none⟩ = some (.int .i64 K) ∧ W.cell? ⟨w.heap.size + 1, 1, none⟩ = some (.slice PA pn pc) ∧ W.cell? ⟨w.heap.size + 1, 2, none⟩ = some (.slice LA ln lc) :=
  ⟨by rw [h.k4.cell]; rfl, by rw [h.k4.cell]; rfl, by rw [h.k5.cell]; rfl, by rw [h.k5.cell]; rfl, by rw [h.k5.cell]; rfl⟩
end

/-- a model to be read, in its box -/
structure EQ (W : World) (B g : Nat) (q : Mq) : Prop where
  m : MdI W B q
  k : Blk W g 27 #[.slice q.A q.n q.c, .slice q.P q.m q.d]
  le : B ≤ W.heap.size
theorem EQ.step {W W' : World} {B B2 g : Nat} {q : Mq} (h : EQ W B g q) (hb : Below B2 W W') (hB : B ≤ B2) (hg : g < B2) : EQ W' B g q := ⟨h.m.below hb hB, h.k.below hb hg, Nat.le_trans h.le hb.size⟩
theorem EQ.next {W W' : World} {B g : Nat} {q : Mq} (h : EQ W B g q) (hb : Below W.heap.size W W') : EQ W' B g q := h.step hb h.le h.k.lt
theorem EQ.cells {W : World} {B g : Nat} {q : Mq} (h : EQ W B g q) : W.cell? ⟨g, 0, none⟩ = some (.slice q.A q.n q.c) ∧ W.cell? ⟨g, 1, none⟩ = some (.slice q.P q.m q.d) := ⟨by rw [h.k.cell]; rfl, by rw [h.k.cell]; rfl⟩

/-- a model of its own in rows from base to below hi, in its box -/
structure EO (W : World) (base hi g : Nat) (q : Mq) : Prop where
  o : OwnM W base q
  k : Blk W g 27 #[.slice q.A q.n q.c, .slice q.P q.m q.d]
  l : LimM q hi
  le : hi ≤ W.heap.size
  bh : base ≤ hi
theorem EO.next {W W' : World} {base hi g : Nat} {q : Mq} (h : EO W base hi g q) (hb : Below W.heap.size W W') : EO W' base hi g q := ⟨h.o.below hb, h.k.below hb h.k.lt, h.l, Nat.le_trans h.le hb.size, h.bh⟩
theorem EO.chg {W W' : World} {base hi g lo2 hi2 : Nat} {q : Mq} (h : EO W base hi g q) (hc : ChgN lo2 hi2 W W') (hk : Kt W W') (hh : hi2 ≤ base) : EO W' base hi g q :=
  ⟨h.o.lows fun b h1 h2 => hc.above b (by omega) h2, (hk _ _).1 h.k, h.l, Nat.le_trans h.le hc.below.size, h.bh⟩
theorem EO.cells {W : World} {base hi g : Nat} {q : Mq} (h : EO W base hi g q) : W.cell? ⟨g, 0, none⟩ = some (.slice q.A q.n q.c) ∧ W.cell? ⟨g, 1, none⟩ = some (.slice q.P q.m q.d) := ⟨by rw [h.k.cell]; rfl, by rw [h.k.cell]; rfl⟩

/-- an event of its own -/
structure EE (W : World) (base hi g : Nat) (K : Int) (PA LA : Option Addr) (pn pc ln lc : Nat) (ps ls : List Int) : Prop where
  p : OwnR W base 42 2 PA pn pc ps
  o : Own W base LA ln lc ls
  k : Blk W g 35 #[.int .i64 K, .slice PA pn pc, .slice LA ln lc]
  lp : ∀ g, (Value.slice PA pn pc).ownBlock = some g → g < hi
  ll : ∀ g, (Value.slice LA ln lc).ownBlock = some g → g < hi
  le : hi ≤ W.heap.size
  bh : base ≤ hi
section
variable {W W' : World} {base hi g pn pc ln lc : Nat} {K : Int} {PA LA : Option Addr} {ps ls : List Int}
theorem EE.next (h : EE W base hi g K PA LA pn pc ln lc ps ls) (hb : Below W.heap.size W W') : EE W' base hi g K PA LA pn pc ln lc ps ls := ⟨h.p.below hb, h.o.below hb, h.k.below hb h.k.lt, h.lp, h.ll, Nat.le_trans h.le hb.size, h.bh⟩
theorem EE.chg {lo2 hi2 : Nat} (h : EE W base hi g K PA LA pn pc ln lc ps ls) (hc : ChgN lo2 hi2 W W') (hk : Kt W W') (hh : hi2 ≤ base) : EE W' base hi g K PA LA pn pc ln lc ps ls :=
  ⟨⟨h.p.1, row_lows h.p.2 fun b h1 h2 => hc.above b (by omega) h2⟩, ⟨h.o.1, row_lows h.o.2 fun b h1 h2 => hc.above b (by omega) h2⟩, (hk _ _).2 h.k, h.lp, h.ll, Nat.le_trans h.le hc.below.size, h.bh⟩
theorem EE.cells (h : EE W base hi g K PA LA pn pc ln lc ps ls) : W.cell? ⟨g, 0, none⟩ = some (.int .i64 K) ∧ W.cell? ⟨g, 1, none⟩ = some (.slice PA pn pc) ∧ W.cell? ⟨g, 2, none⟩ = some (.slice LA ln lc) := ⟨by rw [h.k.cell]; rfl, by rw [h.k.cell]; rfl, by rw [h.k.cell]; rfl⟩
end
/-- values of their own -/
structure EV (W : World) (base hi : Nat) (A : Option Addr) (n c : Nat) (xs : List Int) : Prop where
  o : Own W base A n c xs
  l : ∀ g, (Value.slice A n c).ownBlock = some g → g < hi
  le : hi ≤ W.heap.size
  bh : base ≤ hi
theorem EV.next {W W' : World} {base hi n c : Nat} {A : Option Addr} {xs : List Int} (h : EV W base hi A n c xs) (hb : Below W.heap.size W W') : EV W' base hi A n c xs := ⟨h.o.below hb, h.l, Nat.le_trans h.le hb.size, h.bh⟩
theorem EV.chg {W W' : World} {base hi n c lo2 hi2 : Nat} {A : Option Addr} {xs : List Int} (h : EV W base hi A n c xs) (hc : ChgN lo2 hi2 W W') (hh : hi2 ≤ base) : EV W' base hi A n c xs :=
  ⟨⟨h.o.1, row_lows h.o.2 fun b h1 h2 => hc.above b (by omega) h2⟩, h.l, Nat.le_trans h.le hc.below.size, h.bh⟩
end Go.Proofs.Ytiopbgenkalfaaa
