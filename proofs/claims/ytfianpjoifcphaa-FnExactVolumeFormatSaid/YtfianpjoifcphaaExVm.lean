/-
  The exact laws' marks on a volume without objects, whose parts lie one behind the other: markVolume, heldVolume.
-/
import Derived.Test.YtfianpjoifcphaaExVq
import Derived.Test.YtfianpjoifcphaaExMZ
import Derived.Test.YtfianpjoifcphaaExMO
namespace Go.Proofs.Ytfianpjoifcphaa
open Go.RowKit
set_option linter.unusedVariables false
set_option maxRecDepth 100000

theorem row_same_ExVm {w w' : World} {base s n : Nat} {t : TypeId} {v : Value} {xs : List Value} (h : w.ownsRow base t s v n xs) (hs : ∀ b, v.ownBlock = some b → w'.heap[b]? = w.heap[b]?) : w'.ownsRow base t s v n xs :=
  ⟨h.1, by
    rcases h.2 with h0 | ⟨g, cap, cur, hv, hb, hh, r⟩
    · exact .inl h0
    · exact .inr ⟨g, cap, cur, hv, hb, (hs g (by rw [hv]; rfl)).trans hh, r⟩⟩
/-- a volume's rows: the device in blocks from base on, below g1, the map and the heat from g1 on -/
structure SV (w : World) (base g1 : Nat) (dA : Option Addr) (dn dc : Nat) (gs : List Zq) (mA : Option Addr) (mn mc : Nat) (xs : List Int) (hA : Option Addr) (hn hc : Nat) (hs : List Int) : Prop where
  dev : OwnZ w base dA dn dc gs
  dl : Lim dA dn dc gs g1
  map : OwnR w base 72 5 mA mn mc xs
  ml : ∀ b, (Value.slice mA mn mc).ownBlock = some b → g1 ≤ b
  heat : Own w base hA hn hc hs
  hl : ∀ b, (Value.slice hA hn hc).ownBlock = some b → g1 ≤ b
  le0 : base ≤ g1
  le2 : g1 ≤ w.heap.size
section
variable {w w' : World} {base g1 : Nat} {dA mA hA : Option Addr} {dn dc mn mc hn hc : Nat} {gs gs' : List Zq} {xs xs' hs hs' : List Int}
theorem SV.below (h : SV w base g1 dA dn dc gs mA mn mc xs hA hn hc hs) (hb : Below w.heap.size w w') : SV w' base g1 dA dn dc gs mA mn mc xs hA hn hc hs :=
  ⟨h.dev.below hb, h.dl, h.map.below hb, h.ml, h.heat.below hb, h.hl, h.le0, Nat.le_trans h.le2 hb.size⟩
theorem SV.alloc (h : SV w base g1 dA dn dc gs mA mn mc xs hA hn hc hs) (o : Obj) : SV (w.alloc o) base g1 dA dn dc gs mA mn mc xs hA hn hc hs := h.below (below_box w o)
/-- blocks ahead of it are turned -/
theorem SV.above {lo hi : Nat} (h : SV w base g1 dA dn dc gs mA mn mc xs hA hn hc hs) (hc2 : Chg lo hi w w') (hb : hi ≤ base) : SV w' base g1 dA dn dc gs mA mn mc xs hA hn hc hs := by
  have keep : ∀ b, base ≤ b → b < w.heap.size → w'.heap[b]? = w.heap[b]? := fun b h1 h2 => hc2.above b (by omega) h2
  refine ⟨⟨h.dev.len, row_same_ExVm h.dev.row fun b e => keep b (h.dev.block b e).1 (h.dev.block b e).2,
    fun k q hk => ⟨(h.dev.own k q hk).1, row_same_ExVm (h.dev.own k q hk).2 fun b e => keep b (h.dev.wblock hk b e).1 (h.dev.wblock hk b e).2⟩, h.dev.sep⟩, h.dl,
    ⟨h.map.1, row_same_ExVm h.map.2 fun b e => keep b (h.map.2.lt b e).1 (h.map.2.lt b e).2⟩, h.ml, ⟨h.heat.1, row_same_ExVm h.heat.2 fun b e => keep b (h.heat.2.lt b e).1 (h.heat.2.lt b e).2⟩, h.hl, h.le0, Nat.le_trans h.le2 hc2.below.size⟩
theorem SV.mark1 (h : SV w base g1 dA dn dc gs mA mn mc xs hA hn hc hs) (ho : OwnZ w' base dA dn dc gs') (hl : Lim dA dn dc gs' g1) (hc2 : Chg base g1 w w') : SV w' base g1 dA dn dc gs' mA mn mc xs hA hn hc hs :=
  ⟨ho, hl, ⟨h.map.1, row_same_ExVm h.map.2 fun b e => hc2.above b (h.ml b e) (h.map.2.lt b e).2⟩, h.ml,
    ⟨h.heat.1, row_same_ExVm h.heat.2 fun b e => hc2.above b (h.hl b e) (h.heat.2.lt b e).2⟩, h.hl, h.le0, Nat.le_trans h.le2 hc2.below.size⟩
theorem SV.mark3 (h : SV w base g1 dA dn dc gs mA mn mc xs hA hn hc hs) (ho : OwnR w' base 72 5 mA mn mc xs') (hg : w.grownBy w' (Value.slice mA mn mc).ownBlock) : SV w' base g1 dA dn dc gs mA mn mc xs' hA hn hc hs :=
  ⟨h.dev.kept hg fun g e => ⟨fun e2 => by have := h.dl.row g e2; have := h.ml g e; omega, fun k q hk e2 => by have := h.dl.words q (List.mem_of_getElem? hk) g e2; have := h.ml g e; omega⟩, h.dl, ho, h.ml,
    h.heat.kept hg (fun g e => rows_ne h.map.2 h.heat.2 (by decide) e), h.hl, h.le0, Nat.le_trans h.le2 hg.size⟩
theorem SV.mark4 (h : SV w base g1 dA dn dc gs mA mn mc xs hA hn hc hs) (ho : Own w' base hA hn hc hs') (hg : w.grownBy w' (Value.slice hA hn hc).ownBlock) : SV w' base g1 dA dn dc gs mA mn mc xs hA hn hc hs' :=
  ⟨h.dev.kept hg fun g e => ⟨fun e2 => by have := h.dl.row g e2; have := h.hl g e; omega, fun k q hk e2 => by have := h.dl.words q (List.mem_of_getElem? hk) g e2; have := h.hl g e; omega⟩, h.dl,
    h.map.kept hg (fun g e => rows_ne h.heat.2 h.map.2 (by decide) e), h.ml, ho, h.hl, h.le0, Nat.le_trans h.le2 hg.size⟩
end
theorem lim_mark {A : Option Addr} {n c hi : Nat} {qs : List Zq} (h : Lim A n c qs hi) (k : Int) : Lim A n c (markZ k qs) hi := by
  refine ⟨h.row, fun q hq b e => ?_⟩
  obtain ⟨j, hj⟩ := List.getElem?_of_mem hq
  have hl : j < qs.length := by have := (List.getElem?_eq_some_iff.1 hj).1; rwa [markZ_length] at this
  have h0 := List.getElem?_eq_getElem hl
  rw [markZ_get h0] at hj
  injection hj with hj
  subst hj
  refine h.words _ (List.mem_of_getElem? h0) b ?_
  have own : ∀ (A : Option Addr) (n m c : Nat), (Value.slice A n c).ownBlock = (Value.slice A m c).ownBlock := fun A n m c => by rcases A with _ | a <;> rfl
  exact (own _ _ _ _).trans e

theorem mvZ_nil (v : Int) (qs : List Zq) (h : ∀ q ∈ qs, q.words = []) : mvZ v qs = v + (qs.length : Int) * 2 := by
  induction qs generalizing v with
  | nil => simp [mvZ]
  | cons q qs ih =>
    have h1 := ih (v + (q.words.length : Int) + 1 + 1) fun r hr => h r (by simp [hr])
    have h2 : q.words.length = 0 := by rw [h q (by simp)]; rfl
    simp only [mvZ, List.length_cons]
    rw [h1, h2]
    omega
/-- a block of one type is no row of another one -/
theorem rows_blk_ExVm {w : World} {base s n g : Nat} {t t' : TypeId} {v : Value} {xs : List Value} {cs : Array Value} (h : w.ownsRow base t s v n xs) (hb : Blk w g t' cs) (ht : t ≠ t') : v.ownBlock ≠ some g := by
  intro e
  rcases h.2 with ⟨rfl, _⟩ | ⟨g2, cap, cur, rfl, _, hh, _⟩
  · simp [Value.ownBlock] at e
  · simp [Value.ownBlock] at e
    subst e
    have hb' : w.heap[g2]? = some (.cells cs t') := hb
    rw [hh] at hb'
    simp at hb'
    exact ht hb'.2
/-- the value -/
def svVal (dA : Option Addr) (dn dc : Nat) (mA : Option Addr) (mn mc : Nat) (hA : Option Addr) (hn hc : Nat) (seq zone : Int) : Value :=
  .agg #[.slice dA dn dc, .slice none 0 0, .slice mA mn mc, .slice hA hn hc, .int .i64 seq, .int .i64 zone]

/-- where a fresh volume's parts lie -/
structure FV where
  dA : Option Addr
  dn : Nat
  dc : Nat
  mA : Option Addr
  mn : Nat
  mc : Nat
  hA : Option Addr
  hn : Nat
  hc : Nat
  seq : Int
  zone : Int
  g1 : Nat
def FV.val (f : FV) : Value := svVal f.dA f.dn f.dc f.mA f.mn f.mc f.hA f.hn f.hc f.seq f.zone
def FV.vq (f : FV) (gs : List Zq) (ms : List Wh) (hs : List Int) : Vq := ⟨gs, f.dA, f.dn, f.dc, [], none, 0, 0, ms, f.mA, f.mn, f.mc, hs, f.hA, f.hn, f.hc, f.seq, f.zone⟩
def FV.SV (f : FV) (w : World) (base : Nat) (gs : List Zq) (xs hs : List Int) : Prop := Go.Proofs.Ytfianpjoifcphaa.SV w base f.g1 f.dA f.dn f.dc gs f.mA f.mn f.mc xs f.hA f.hn f.hc hs
structure FVok (f : FV) (gs : List Zq) (ms : List Wh) : Prop where
  d4 : f.dn ≤ 4
  m12 : f.mn ≤ 12
  h12 : f.hn ≤ 12
  words : ∀ q ∈ gs, q.words = []
  map : ms.length = f.mn
theorem FV.vq_val (f : FV) (gs : List Zq) (ms : List Wh) (hs : List Int) : (f.vq gs ms hs).val = f.val := rfl
theorem FV.voli {f : FV} {w : World} {base : Nat} {gs : List Zq} {ms : List Wh} {hs : List Int} (h : f.SV w base gs (fl5 ms) hs) (hm : ms.length = f.mn) : VolI w w.heap.size (f.vq gs ms hs) :=
  ⟨h.dev.zns, (OwnO.nil_ w 0).objs, ⟨hm, h.map.ints⟩, h.heat.ints, h.dev.cap, ⟨Nat.le_refl _, Nat.zero_le _⟩, h.map.cap, h.heat.cap⟩
/-- what VolumeFormat returns -/
def fmtV (v : Bool) : Vol := if v then newV else vol0
def fmtC (v : Bool) : Int := if v then 0 else 3
def FmtPost (w : World) (V : Vol) (cd : Int) (e : Ending) (w' : World) : Prop :=
  ∃ f gs ms hs, e = .returned (.tuple #[FV.val f, .int .i64 cd]) ∧ FVok f gs ms ∧ f.SV w' w.heap.size gs (fl5 ms) hs ∧ (f.vq gs ms hs).vol = V ∧ Below w.heap.size w w'

set_option maxHeartbeats 3200000 in
theorem markVolume_any (base g1 : Nat) (dA : Option Addr) (dn dc : Nat) (gs : List Zq) (mA : Option Addr) (mn mc : Nat) (xs : List Int) (hA : Option Addr) (hn hc : Nat) (hs : List Int) (seq zone : Int) (w : World)
    (h : SV w base g1 dA dn dc gs mA mn mc xs hA hn hc hs) (h1 : dn ≤ 4) (h2 : mn ≤ 12) (h3 : hn ≤ 12) (hz : ∀ q ∈ gs, q.words = []) (hd : dc ≤ maxLen ∧ mc ≤ maxLen ∧ hc ≤ maxLen) :
    Calls Try.prog 11 #[svVal dA dn dc mA mn mc hA hn hc seq zone, .int .i64 1] w fun e w' => e = .returned (.int .i64 (mvZ 1 gs + (mn * 5 : Nat) + hn)) ∧
      SV w' base g1 dA dn dc (markZ 1 gs) mA mn mc (marks (mvZ 1 gs) (mn * 5)) hA hn hc (marks (mvZ 1 gs + (mn * 5 : Nat)) hn) ∧ Below base w w' ∧ (∀ (b : Nat) (cs : Array Value), g1 ≤ b → Blk w b 29 cs → Blk w' b 29 cs) := by
  have hl : ∀ q ∈ gs, q.words.length ≤ 1048576 := fun q hq => by rw [hz q hq]; exact Nat.zero_le _
  have HL := hide hl
  have hk := mvZ_nil 1 gs hz
  have hgl : gs.length = dn := h.dev.len
  have HM := hide (lim_mark h.dl 1)
  obtain ⟨K, hK⟩ : ∃ K, mvZ 1 gs = K := ⟨_, rfl⟩
  have HK := hide hK
  rw [hK] at hk ⊢
  have hk0 : 0 ≤ K := by omega
  have hk1 : K ≤ 9 := by omega
  have HS := hide (h.alloc (.cells #[.slice dA dn dc, .slice none 0 0, .slice mA mn mc, .slice hA hn hc, .int .i64 seq, .int .i64 zone] 29))
  have HB := hide ((below_box w (.cells #[.slice dA dn dc, .slice none 0 0, .slice mA mn mc, .slice hA hn hc, .int .i64 seq, .int .i64 zone] 29)).mono (Nat.le_trans h.le0 h.le2))
  have hsz := h.le2
  have hle0 := h.le0
  have HX := hide (Blk.new w 29 #[.slice dA dn dc, .slice none 0 0, .slice mA mn mc, .slice hA hn hc, .int .i64 seq, .int .i64 zone])
  have HKP := hide fun (b : Nat) (cs : Array Value) (hb : Blk w b 29 cs) => hb.alloc (.cells #[.slice dA dn dc, .slice none 0 0, .slice mA mn mc, .slice hA hn hc, .int .i64 seq, .int .i64 zone] 29)
  clear h hl hK hk hgl
  unfold svVal
  go_enter Try.func11, Try.ntmps11
  go_wp2_with fail
  refine (markZoneS_any dA dn dc base g1 1 gs _ HS.out.dev HS.out.dl (by simp; omega) (by decide) (by decide) (by omega) HL.out).mono ?_
  rw [HK.out]
  rintro e w1 ⟨rfl, ho1, hc1⟩
  have HS1 := hide (HS.out.mark1 ho1 HM.out hc1)
  have HB1 := hide (HB.out.trans hc1.below)
  have HX1 := hide (show Blk w1 w.heap.size 29 #[.slice dA dn dc, .slice none 0 0, .slice mA mn mc, .slice hA hn hc, .int .i64 seq, .int .i64 zone] from (hc1.above w.heap.size (by omega) (by simp)).trans HX.out)
  have hs1 := HB1.out.size
  have hx1 := HX1.out.lt
  have HKP1 := hide fun (b : Nat) (cs : Array Value) (hg : g1 ≤ b) (hb : Blk w b 29 cs) => (show Blk w1 b 29 cs from (hc1.above b hg (HKP.out b cs hb).lt).trans (HKP.out b cs hb))
  clear ho1 hc1 HS HX HKP
  have c0 := HX1.out.cell 1
  have c2 := HX1.out.cell 2
  have c3 := HX1.out.cell 3
  simp at c0 c2 c3
  go_wp2_with fail
  refine (markObjectS_any none 0 0 w1.heap.size w1.heap.size K [] _ (OwnO.nil_ _ _) ⟨by simp [Value.ownBlock], by simp⟩ (Nat.le_refl _) hk0 (by omega) (by decide) (by simp)).mono ?_
  rintro e w2 ⟨rfl, -, hc2⟩
  have HS2 := hide (HS1.out.below hc2.below)
  have HB2 := hide (HB1.out.trans (hc2.below.mono (by have := HS1.out.le2; omega)))
  have HX2 := hide (HX1.out.below hc2.below hx1)
  have HKP2 := hide fun (b : Nat) (cs : Array Value) (hg : g1 ≤ b) (hb : Blk w b 29 cs) => (HKP1.out b cs hg hb).below hc2.below (HKP1.out b cs hg hb).lt
  clear hc2 HS1 HX1 HKP1 c0 c2 c3
  have c2 := HX2.out.cell 2
  have c3 := HX2.out.cell 3
  simp at c2 c3
  go_wp2_with fail
  refine (markWhereS_any mA mn mc base K xs _ HS2.out.map hk0 (by omega) (by omega)).mono ?_
  rintro e w3 ⟨rfl, ho3, hg3⟩
  have HS3 := hide (HS2.out.mark3 ho3 hg3)
  have HB3 := hide (HB2.out.grown hg3 (by have := HS2.out.le2; omega) (fun b hb => (HS2.out.map.2.lt b hb).1))
  have HX3 := hide (HX2.out.grown hg3 (fun e => rows_blk_ExVm HS2.out.map.2 HX2.out (by decide) e.symm))
  have HKP3 := hide fun (b : Nat) (cs : Array Value) (hg : g1 ≤ b) (hb : Blk w b 29 cs) => (HKP2.out b cs hg hb).grown hg3 (fun e => rows_blk_ExVm HS2.out.map.2 (HKP2.out b cs hg hb) (by decide) e.symm)
  clear ho3 hg3 HS2 HX2 HKP2 c2 c3
  have c3 := HX3.out.cell 3
  simp at c3
  go_wp2_with fail
  refine (mark_any hA hn hc base (K + (mn * 5 : Nat)) hs _ HS3.out.heat (by omega) (by omega) (by omega)).mono ?_
  rintro e w4 ⟨rfl, ho4, hg4⟩
  have HS4 := hide (HS3.out.mark4 ho4 hg4)
  have HB4 := hide (HB3.out.grown hg4 (by have := HS3.out.le2; omega) (fun b hb => (HS3.out.heat.2.lt b hb).1))
  have HKP4 := hide fun (b : Nat) (cs : Array Value) (hg : g1 ≤ b) (hb : Blk w b 29 cs) => (HKP3.out b cs hg hb).grown hg4 (fun e => rows_blk_ExVm HS3.out.heat.2 (HKP3.out b cs hg hb) (by decide) e.symm)
  clear ho4 hg4 HS3 HX3 HKP3
  go_wp2
  go_ret
  exact ⟨by simp, HS4.out, HB4.out, HKP4.out⟩

set_option maxHeartbeats 3200000 in
theorem heldVolume_any (B : Nat) (dA : Option Addr) (dn dc : Nat) (gs : List Zq) (mA : Option Addr) (mn mc : Nat) (hA : Option Addr) (hn hc : Nat) (seq zone : Int) (w : World) (hB : B ≤ w.heap.size)
    (r1 : Zns w B dA dn (markZ 1 gs)) (r3 : Ints w B mA (mn * 5) (marks (mvZ 1 gs) (mn * 5))) (r4 : Ints w B hA hn (marks (mvZ 1 gs + (mn * 5 : Nat)) hn)) (h1 : dn ≤ 4) (h2 : mn ≤ 12) (h3 : hn ≤ 12) (hz : ∀ q ∈ gs, q.words = []) (hgl : gs.length = dn) :
    Calls Try.prog 12 #[svVal dA dn dc mA mn mc hA hn hc seq zone, .int .i64 1] w fun e w' => e = .returned (.int .i64 (mvZ 1 gs + (mn * 5 : Nat) + hn)) ∧ Below w.heap.size w w' := by
  have hl : ∀ q ∈ gs, q.words.length ≤ 1048576 := fun q hq => by rw [hz q hq]; exact Nat.zero_le _
  have HL := hide hl
  have hk := mvZ_nil 1 gs hz
  obtain ⟨K, hK⟩ : ∃ K, mvZ 1 gs = K := ⟨_, rfl⟩
  have HK := hide hK
  rw [hK] at hk r3 r4 ⊢
  have hk0 : 0 ≤ K := by omega
  have hk1 : K ≤ 9 := by omega
  have HB := hide (below_box w (.cells #[.slice dA dn dc, .slice none 0 0, .slice mA mn mc, .slice hA hn hc, .int .i64 seq, .int .i64 zone] 29))
  have HX := hide (Blk.new w 29 #[.slice dA dn dc, .slice none 0 0, .slice mA mn mc, .slice hA hn hc, .int .i64 seq, .int .i64 zone])
  have R1 := hide (r1.alloc hB (.cells #[.slice dA dn dc, .slice none 0 0, .slice mA mn mc, .slice hA hn hc, .int .i64 seq, .int .i64 zone] 29))
  have R3 := hide (r3.alloc hB (.cells #[.slice dA dn dc, .slice none 0 0, .slice mA mn mc, .slice hA hn hc, .int .i64 seq, .int .i64 zone] 29))
  have R4 := hide (r4.alloc hB (.cells #[.slice dA dn dc, .slice none 0 0, .slice mA mn mc, .slice hA hn hc, .int .i64 seq, .int .i64 zone] 29))
  have R2 := hide fun (W : World) => (OwnO.nil_ W 0).objs
  clear r1 r3 r4 hl hK hk
  have n0 : ¬ K < 0 := by omega
  have n1 : ¬ K + ((mn * 5 : Nat) : Int) < 0 := by omega
  have n2 : ¬ K + ((mn * 5 : Nat) : Int) + (hn : Int) < 0 := by omega
  unfold svVal
  go_enter Try.func12, Try.ntmps12
  go_wp2_with fail
  refine (heldZoneS_any dA dn dc B 1 gs _ R1.out (by decide) (by decide) (by omega) HL.out).mono ?_
  rw [HK.out]
  rintro e w1 ⟨rfl, rfl⟩
  go_wp2_with fail
  refine (heldObjectS_any none 0 0 _ K [] _ (R2.out _) hk0 (by omega) (by decide) (by simp)).mono ?_
  rintro e w2 ⟨rfl, rfl⟩
  simp only [mvO]
  go_wp2_with fail
  refine (heldWhereS_any mA mn mc B K _ R3.out hk0 (by omega) (by omega)).mono ?_
  rintro e w3 ⟨rfl, rfl⟩
  go_wp2_with fail
  refine (held_any hA hn hc B (K + (mn * 5 : Nat)) _ R4.out (by omega) (by omega) (by omega)).mono ?_
  rintro e w4 ⟨rfl, rfl⟩
  go_wp2
  go_ret
  exact ⟨by simp, HB.out⟩
end Go.Proofs.Ytfianpjoifcphaa
