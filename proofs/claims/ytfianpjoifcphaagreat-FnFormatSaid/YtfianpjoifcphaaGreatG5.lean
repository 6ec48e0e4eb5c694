/-
  Texts in one: SameV, DrawZ4, DrawVF, ExVq, ExIO, ExMO, ExVm, SpecVF, FrameM, ScnM, ScnA, FrameU, SpecN1, ImpN1, ImpN2, ImpO3, ImpO4, ImpO5, HeapM, Mrg. Plain.
-/
import Derived.Test.YtfianpjoifcphaaGreatG1
import Derived.Test.YtfianpjoifcphaaGreatSameZ
import Derived.Test.YtfianpjoifcphaaGreatG4
import Derived.Test.YtfianpjoifcphaaGreatG3
import Derived.Test.YtfianpjoifcphaaGreatDrawZ3
import Derived.Test.YtfianpjoifcphaaGreatExHZ
import Derived.Test.YtfianpjoifcphaaGreatExHO
import Derived.Test.YtfianpjoifcphaaGreatExHM
import Derived.Test.YtfianpjoifcphaaGreatG2
import Derived.Test.YtfianpjoifcphaaGreatSpecZ2
import Derived.Test.YtfianpjoifcphaaGreatFrameS
import Derived.Test.YtfianpjoifcphaaGreatFnd
import Derived.Test.YtfianpjoifcphaaGreatSpecZ1
import Derived.Test.YtfianpjoifcphaaGreatImpO2
import Derived.Test.YtfianpjoifcphaaGreatKeys
import Derived.Test.YtfianpjoifcphaaGreatCmpI
/- SameV -/
namespace Go.Proofs.YtfianpjoifcphaaGreat
open Go.RowKit
set_option linter.unusedVariables false
set_option maxRecDepth 100000

set_option maxHeartbeats 3200000 in
theorem sameVol_yes (q r : Vq) (B B' : Nat) (w : World) (hq : VolI w B q) (hB : B ≤ w.heap.size) (hr : VolI w B' r) (hB' : B' ≤ w.heap.size) (h : q.vol = r.vol) (n1 : q.dn ≤ maxLen) (n2 : q.sn ≤ maxLen) (n3 : q.mn ≤ 1000000000) (n4 : q.hn ≤ maxLen) :
    Calls Tryz.prog 12 #[q.val, r.val] w fun e w' => e = .returned (.bool true) ∧ Below w.heap.size w w' := by
  obtain ⟨dev, dA, dn, dc, sto, sA, sn, sc, map, mA, mn, mc, heat, hA, hn, hc, seq, zone⟩ := q
  obtain ⟨dev', dA', dn', dc', sto', sA', sn', sc', map', mA', mn', mc', heat', hA', hn', hc', seq', zone'⟩ := r
  simp only [Vq.vol, Vol.mk.injEq] at h
  obtain ⟨h1, h2, rfl, rfl, rfl, rfl⟩ := h
  obtain rfl : dn = dn' := by
    have a := hq.dev.1
    have b := hr.dev.1
    have c : (zns dev).length = (zns dev').length := by rw [h1]
    unfold zns at c
    simp only [List.length_map] at c
    simp only at a b
    omega
  obtain rfl : sn = sn' := by
    have a := hq.sto.1
    have b := hr.sto.1
    have c : (obs sto).length = (obs sto').length := by rw [h2]
    unfold obs at c
    simp only [List.length_map] at c
    simp only at a b
    omega
  obtain rfl : mn = mn' := hq.map.1.symm.trans hr.map.1
  obtain rfl : hn = hn' := hq.heat.1.symm.trans hr.heat.1
  have HQ := hide fun (o o' : Obj) => (hq.alloc hB o).alloc (by simp; omega) o'
  have HR := hide fun (o o' : Obj) => (hr.alloc hB' o).alloc (by simp; omega) o'
  have HB := hide fun (o o' : Obj) => ((below_box w o).alloc (by simp) o' : Below w.heap.size w ((w.alloc o).alloc o'))
  have XA := hide ((Blk.new w 29 #[.slice dA dn dc, .slice sA sn sc, .slice mA mn mc, .slice hA hn hc, .int .i64 seq, .int .i64 zone]).alloc (.cells #[.slice dA' dn dc', .slice sA' sn sc', .slice mA' mn mc', .slice hA' hn hc', .int .i64 seq, .int .i64 zone] 29))
  have XB := hide (Blk.new (w.alloc (.cells #[.slice dA dn dc, .slice sA sn sc, .slice mA mn mc, .slice hA hn hc, .int .i64 seq, .int .i64 zone] 29)) 29 #[.slice dA' dn dc', .slice sA' sn sc', .slice mA' mn mc', .slice hA' hn hc', .int .i64 seq, .int .i64 zone])
  have H1 := hide h1
  have H2 := hide h2
  simp only at n1 n2 n3 n4
  clear hq hr h1 h2
  unfold Vq.val
  simp only
  have a0 := XA.out.cell 0
  have a1 := XA.out.cell 1
  have a2 := XA.out.cell 2
  have a3 := XA.out.cell 3
  have a4 := XA.out.cell 4
  have a5 := XA.out.cell 5
  simp at a0 a1 a2 a3 a4 a5
  have b0 := XB.out.cell 0
  have b1 := XB.out.cell 1
  have b2 := XB.out.cell 2
  have b3 := XB.out.cell 3
  have b4 := XB.out.cell 4
  have b5 := XB.out.cell 5
  simp at b0 b1 b2 b3 b4 b5
  go_enter Tryz.func12, Tryz.ntmps12
  go_wp2_with fail
  refine (sameDev_yes dA dA' dn dc dc' B B' dev dev' _ (HQ.out _ _).dev (HR.out _ _).dev (by simp; omega) (by simp; omega) n1 H1.out).mono ?_
  rintro e w1 ⟨rfl, hb1⟩
  have HB1 := hide ((HB.out _ _).trans (hb1.mono (by simp; omega)))
  have HQ1 := hide ((HQ.out _ _).below hb1 (by simp; omega))
  have HR1 := hide ((HR.out _ _).below hb1 (by simp; omega))
  have hs1 := hb1.size
  simp at hs1
  have XA1 := hide (XA.out.below hb1 XA.out.lt)
  have XB1 := hide (XB.out.below hb1 XB.out.lt)
  clear hb1 HQ HR HB a0 a1 a2 a3 a4 a5 b0 b1 b2 b3 b4 b5
  have a1 := XA1.out.cell 1
  have b1 := XB1.out.cell 1
  simp at a1 b1
  go_wp2_with fail
  refine (sameSto_yes sA sA' sn sc sc' B B' sto sto' _ HQ1.out.sto HR1.out.sto n2 H2.out).mono ?_
  rintro e w2 ⟨rfl, z2, hw2⟩
  have HB2 := hide (show Below w.heap.size w w2 by rw [hw2]; exact below_drewN HB1.out z2)
  have HQ2 := hide (show VolI w2 B _ by rw [hw2]; exact HQ1.out.drewN z2)
  have HR2 := hide (show VolI w2 B' _ by rw [hw2]; exact HR1.out.drewN z2)
  have XA2 := hide (show Blk w2 _ _ _ by rw [hw2]; exact XA1.out.drewN z2)
  have XB2 := hide (show Blk w2 _ _ _ by rw [hw2]; exact XB1.out.drewN z2)
  clear hw2 HQ1 HR1 HB1 XA1 XB1 a1 b1
  have a2 := XA2.out.cell 2
  have b2 := XB2.out.cell 2
  simp at a2 b2
  go_wp2_with fail
  refine (sameMap_yes mA mA' mn mc mc' B B' _ _ HQ2.out.map HR2.out.map n3).mono ?_
  rintro e w3 ⟨rfl, z3, hw3⟩
  have HB3 := hide (show Below w.heap.size w w3 by rw [hw3]; exact below_drewN HB2.out z3)
  have HQ3 := hide (show VolI w3 B _ by rw [hw3]; exact HQ2.out.drewN z3)
  have HR3 := hide (show VolI w3 B' _ by rw [hw3]; exact HR2.out.drewN z3)
  have XA3 := hide (show Blk w3 _ _ _ by rw [hw3]; exact XA2.out.drewN z3)
  have XB3 := hide (show Blk w3 _ _ _ by rw [hw3]; exact XB2.out.drewN z3)
  clear hw3 HQ2 HR2 HB2 XA2 XB2 a2 b2
  have a3 := XA3.out.cell 3
  have b3 := XB3.out.cell 3
  simp at a3 b3
  go_wp2_with fail
  refine (sameInts_yes hA hA' hn hc hn hc' B B' heat heat _ HQ3.out.heat HR3.out.heat n4 n4 rfl).mono ?_
  rintro e w4 ⟨rfl, nq, rfl⟩
  go_wp2
  go_ret
  exact ⟨rfl, below_drewN HB3.out nq⟩
end Go.Proofs.YtfianpjoifcphaaGreat

/- DrawZ4 -/
namespace Go.Proofs.YtfianpjoifcphaaGreat
open Go.RowKit
set_option linter.unusedVariables false
set_option maxRecDepth 100000

/-- a drawn device -/
def DevDrawn (w0 w' : World) (A : Option Addr) (n c : Nat) (qs : List Zq) : Prop :=
  Zns w' w'.heap.size A n qs ∧ n ≤ 4 ∧ n ≤ c ∧ c ≤ maxLen ∧ (∀ q ∈ qs, q.words.length ≤ 70) ∧ Below w0.heap.size w0 w'

theorem grown_after {w w1 w2 : World} (hb : Below w.heap.size w w1) (hg : w1.grownBy w2 (some w.heap.size)) : Below w.heap.size w w2 :=
  hb.trans (below_of_grown' hg hb.size (by intro q hq; injection hq with hq; omega))

theorem results_tmp3 {fn : Func} {t u v : Tmp} (h : fn.results = #[.tmp t, .tmp u, .tmp v]) (tmps : Array Value) (P : Program) (w : World) :
    (results fn tmps).run P w = .ok (.tuple #[tmps.getD t undef, tmps.getD u undef, tmps.getD v undef]) w := by
  simp [results, h]







end Go.Proofs.YtfianpjoifcphaaGreat

/- DrawVF -/
namespace Go.Proofs.YtfianpjoifcphaaGreat
open Go.RowKit
set_option linter.unusedVariables false
set_option maxRecDepth 100000

set_option maxHeartbeats 800000 in
theorem drawVFormat_any (A : Option Addr) (n c : Nat) (bs : Nat → Int) (w : World) (hb : Bytes w w.heap.size A n bs) (hn : n ≤ c) (hc : c ≤ maxLen) :
    Calls Tryz.prog 9 #[.slice A n c] w fun e w' => ∃ A2 m c2 qs, e = .returned (.slice A2 m c2) ∧ DevDrawn w w' A2 m c2 qs := by
  go_enter Tryz.func9, Tryz.ntmps9
  go_wp2_with fail
  refine (open_any A n c bs _ hb hn hc).mono ?_
  rintro e w1 ⟨rfl, hr, hB⟩
  have HB1 := hide hB
  clear hB hb
  go_wp2_with fail
  refine (device91_any _ 0 _ hr (by omega)).mono ?_
  rintro e w2 ⟨A2, m, c2, qs, p', rfl, hz, hm, hmc, hcm, hl, _, _, hr2, hg⟩
  have HZ := hide (hz w2 (grown_refl _ _))
  have HB2 := hide (grown_after HB1.out hg)
  have HL := hide hl
  clear hz hg hr hr2 hl
  go_wp2
  go_ret
  exact ⟨_, _, _, _, rfl, HZ.out, hm, hmc, hcm, HL.out, HB2.out⟩
end Go.Proofs.YtfianpjoifcphaaGreat

/- ExVq -/
namespace Go.Proofs.YtfianpjoifcphaaGreat
open Go.RowKit
set_option linter.unusedVariables false
set_option maxRecDepth 100000

set_option maxHeartbeats 3200000 in
theorem eqVolume_yes (q r : Vq) (B B' : Nat) (w : World) (hq : VolI w B q) (hB : B ≤ w.heap.size) (hr : VolI w B' r) (hB' : B' ≤ w.heap.size) (h : q.vol = r.vol) (n1 : q.dn ≤ maxLen) (n2 : q.sn ≤ maxLen) (n3 : q.mn ≤ 1000000000) (n4 : q.hn ≤ maxLen) :
    Calls Tryz.prog 21 #[q.val, r.val] w fun e w' => e = .returned (.bool true) ∧ Below w.heap.size w w' := by
  obtain ⟨dev, dA, dn, dc, sto, sA, sn, sc, map, mA, mn, mc, heat, hA, hn, hc, seq, zone⟩ := q
  obtain ⟨dev', dA', dn', dc', sto', sA', sn', sc', map', mA', mn', mc', heat', hA', hn', hc', seq', zone'⟩ := r
  simp only [Vq.vol, Vol.mk.injEq] at h
  obtain ⟨h1, h2, rfl, rfl, rfl, rfl⟩ := h
  obtain rfl : dn = dn' := by
    have a := hq.dev.1
    have b := hr.dev.1
    have c : (zns dev).length = (zns dev').length := by rw [h1]
    unfold zns at c
    simp only [List.length_map] at c
    simp only at a b
    omega
  obtain rfl : sn = sn' := by
    have a := hq.sto.1
    have b := hr.sto.1
    have c : (obs sto).length = (obs sto').length := by rw [h2]
    unfold obs at c
    simp only [List.length_map] at c
    simp only at a b
    omega
  obtain rfl : mn = mn' := hq.map.1.symm.trans hr.map.1
  obtain rfl : hn = hn' := hq.heat.1.symm.trans hr.heat.1
  have HQ := hide fun (o o' : Obj) => (hq.alloc hB o).alloc (by simp; omega) o'
  have HR := hide fun (o o' : Obj) => (hr.alloc hB' o).alloc (by simp; omega) o'
  have HB := hide fun (o o' : Obj) => ((below_box w o).alloc (by simp) o' : Below w.heap.size w ((w.alloc o).alloc o'))
  have XA := hide ((Blk.new w 29 #[.slice dA dn dc, .slice sA sn sc, .slice mA mn mc, .slice hA hn hc, .int .i64 seq, .int .i64 zone]).alloc (.cells #[.slice dA' dn dc', .slice sA' sn sc', .slice mA' mn mc', .slice hA' hn hc', .int .i64 seq, .int .i64 zone] 29))
  have XB := hide (Blk.new (w.alloc (.cells #[.slice dA dn dc, .slice sA sn sc, .slice mA mn mc, .slice hA hn hc, .int .i64 seq, .int .i64 zone] 29)) 29 #[.slice dA' dn dc', .slice sA' sn sc', .slice mA' mn mc', .slice hA' hn hc', .int .i64 seq, .int .i64 zone])
  have H1 := hide h1
  have H2 := hide h2
  simp only at n1 n2 n3 n4
  clear hq hr h1 h2
  unfold Vq.val
  simp only
  go_enter Tryz.func21, Tryz.ntmps21
  go_wp2_with fail
  refine (eqZoneS_yes dA dA' dn dc dc' B B' dev dev' _ (HQ.out _ _).dev (HR.out _ _).dev (by simp; omega) (by simp; omega) n1 H1.out).mono ?_
  rintro e w1 ⟨rfl, hb1⟩
  have HB1 := hide ((HB.out _ _).trans (hb1.mono (by simp; omega)))
  have HQ1 := hide ((HQ.out _ _).below hb1 (by simp; omega))
  have HR1 := hide ((HR.out _ _).below hb1 (by simp; omega))
  have hs1 := hb1.size
  simp at hs1
  have XA1 := hide (XA.out.below hb1 XA.out.lt)
  have XB1 := hide (XB.out.below hb1 XB.out.lt)
  have a1 := XA1.out.cell 1
  have b1 := XB1.out.cell 1
  simp at a1 b1
  clear hb1 HQ HR HB
  go_wp2_with fail
  refine (eqObjectS_yes sA sA' sn sc sc' B B' sto sto' _ HQ1.out.sto HR1.out.sto (by omega) (by omega) n2 H2.out).mono ?_
  rintro e w2 ⟨rfl, hb2⟩
  have HB2 := hide (HB1.out.trans (hb2.mono HB1.out.size))
  have HQ2 := hide (HQ1.out.below hb2 (by omega))
  have HR2 := hide (HR1.out.below hb2 (by omega))
  have hs2 := hb2.size
  have XA2 := hide (XA1.out.below hb2 XA1.out.lt)
  have XB2 := hide (XB1.out.below hb2 XB1.out.lt)
  have a2 := XA2.out.cell 2
  have b2 := XB2.out.cell 2
  simp at a2 b2
  clear hb2 a1 b1 HQ1 HR1 HB1
  go_wp2_with fail
  refine (eqWhereS_yes mA mA' mn mc mc' B B' _ _ HQ2.out.map.2 (by omega) HR2.out.map.2 (by omega) n3).mono ?_
  rintro e w3 ⟨rfl, hb3⟩
  have HB3 := hide (HB2.out.trans (hb3.mono HB2.out.size))
  have HQ3 := hide (HQ2.out.below hb3 (by omega))
  have HR3 := hide (HR2.out.below hb3 (by omega))
  have XA3 := hide (XA2.out.below hb3 XA2.out.lt)
  have XB3 := hide (XB2.out.below hb3 XB2.out.lt)
  have a3 := XA3.out.cell 3
  have b3 := XB3.out.cell 3
  have a4 := XA3.out.cell 4
  have b4 := XB3.out.cell 4
  have a5 := XA3.out.cell 5
  have b5 := XB3.out.cell 5
  simp at a4 b4 a5 b5
  simp at a3 b3
  clear hb3 a2 b2 HQ2 HR2 HB2
  go_wp2_with fail
  refine (eqIntS_yes hA hA' hn hc hn hc' B B' heat heat _ HQ3.out.heat HR3.out.heat n4 n4 rfl).mono ?_
  rintro e w4 ⟨rfl, nq, rfl⟩
  have a4' : (w3.drewN nq).cell? _ = _ := a4
  have b4' : (w3.drewN nq).cell? _ = _ := b4
  have a5' : (w3.drewN nq).cell? _ = _ := a5
  have b5' : (w3.drewN nq).cell? _ = _ := b5
  go_wp2
  go_ret
  exact ⟨rfl, below_drewN HB3.out nq⟩
end Go.Proofs.YtfianpjoifcphaaGreat

/- ExIO -/
namespace Go.Proofs.YtfianpjoifcphaaGreat
open Go.RowKit
set_option linter.unusedVariables false
set_option maxRecDepth 100000

def oqz : Oq := ⟨0, [], none, 0⟩
theorem madeO (n : Nat) : (madeCells (Value.agg #[.int .i64 0, .slice none 0 0]).cells (n * 2)).toList = flatO (List.replicate n oqz) := by
  apply List.ext_getElem?
  intro i
  by_cases h : i < n * 2
  · have hk : (List.replicate n oqz)[i / 2]? = some oqz := by rw [List.getElem?_replicate, if_pos (by omega)]
    have hj := flatO_get hk (i % 2) (Nat.mod_lt _ (by decide))
    rw [show i / 2 * 2 + i % 2 = i by omega] at hj
    rw [hj]
    have h3 : i % 2 = 0 ∨ i % 2 = 1 := by omega
    simp only [madeCells, Array.toList_map, List.getElem?_map]
    rw [Array.getElem?_toList, Array.getElem?_range, if_pos h]
    show some _ = _
    rcases h3 with e | e <;> simp [Value.cells, e, oqz, Oq.cells, Oq.sl]
  · rw [List.getElem?_eq_none (by simp [madeCells]; omega), List.getElem?_eq_none (by rw [flatO_length, List.length_replicate]; omega)]

theorem OwnO.made {w' : World} {base n c : Nat} {A : Option Addr} (h : w'.ownsRow base 139 2 (.slice A n c) n (flatO (List.replicate n oqz))) : OwnO w' base A n c (List.replicate n oqz) := by
  have get : ∀ {k q}, (List.replicate n oqz)[k]? = some q → q = oqz := fun h => (List.mem_replicate.1 (List.mem_of_getElem? h)).2
  refine ⟨by simp, h, fun k q hk => ?_, fun i j q r hi hj hij g hg => ?_⟩
  · rw [get hk]; exact Own.nil_ _ _
  · rw [get hi] at hg
    simp [oqz, Oq.sl, Value.ownBlock] at hg

set_option maxHeartbeats 6400000 in
theorem toObjectS_any (A : Option Addr) (n c B : Nat) (qs : List Oq) (w : World) (hr : Objs w B A n qs) (hB : B ≤ w.heap.size) (hn : n ≤ 1000000000) (hl : ∀ q ∈ qs, q.vals.length ≤ 1048576) :
    Calls Tryz.prog 64 #[.slice A n c] w fun e w' => ∃ A2 c2 qs2, e = .returned (.slice A2 n c2) ∧ OwnO w' w.heap.size A2 n c2 qs2 ∧ obs qs2 = obs qs ∧ Below w.heap.size w w' := by
  obtain ⟨i0, hi, hz0, hz1, hz2⟩ := info_parts objT.info
  have HR := hide hr
  have HL := hide hl
  clear hr hl
  go_enter Tryz.func64, Tryz.ntmps64
  go_wp2_with (at_make; refine wpList_make_full _ rfl _ _ 25 rfl w.heap.size 139 i0 (Value.agg #[.int .i64 0, .slice none 0 0]) 2 Tryz.underlying25 hi hz0 hz1 .i64 .i64 _ _ n rfl rfl rfl rfl (by rw [hz2]; omega) (by unfold maxLen; omega) (Nat.le_refl _) ?_; intro w1 hown hgrow; rw [madeO] at hown)
  have HO0 := hide (OwnO.made hown)
  have HB0 := hide (below_of_grown hgrow)
  clear hown hgrow hi hz0 hz1 hz2
  go_loopw [4] (fun i wr => ∃ (k : Nat) (rs : List Oq), k ≤ n ∧ i = .int .i64 k ∧ Hid (OwnO wr w.heap.size (some ⟨w.heap.size, 0, none⟩) n n rs) ∧ Hid (∀ j, j < k → (obs rs)[j]? = (obs qs)[j]?) ∧ Hid (Below w.heap.size w wr)) (fun i _ => n - (intOf i).toNat)
  case atStart => exact ⟨0, _, Nat.zero_le _, rfl, HO0.out, (fun j hj => absurd hj (by omega)), HB0.out⟩
  case round =>
    obtain ⟨k, rs, hk, rfl, HO, HD, HB⟩ := hrel
    have hs := HB.out.size
    by_cases hlt : k < n
    · obtain ⟨q, hq⟩ : ∃ q, qs[k]? = some q := ⟨_, List.getElem?_eq_getElem (by rw [HR.out.1]; exact hlt)⟩
      have hqz : (obs qs)[k]? = some q.ob := obs_get hq
      have HQZ := hide hqz
      have hR := HR.out.below HB.out hB
      obtain ⟨ad, p, rfl, hp, hb, hc0, hc1⟩ := hR.at_ hq
      obtain ⟨hiw, hle, hcm, hnl⟩ := hR.words hq
      have hql := HL.out q (List.mem_of_getElem? hq)
      obtain ⟨r, hr⟩ : ∃ r, rs[k]? = some r := ⟨_, List.getElem?_eq_getElem (by rw [HO.out.len]; exact hlt)⟩
      clear hq hR hqz hnl
      obtain ⟨id, ws, qa, qc⟩ := q
      simp only [Oq.sl] at hc0 hc1 hiw hle hcm hql
      obtain ⟨m, hm⟩ : ∃ m, ws.length = m := ⟨_, rfl⟩
      rw [hm] at hc1 hiw hle hql
      have HM := hide hm
      have HTZ := hide (toObject_any qa m qc B id ws wr hiw (by omega) (by omega))
      have HAN := hide fun (w3 : World) (c3 : Nat) (A3 : Option Addr) hg ho hat => HO.out.anew (w3 := w3) (c3 := c3) (A3 := A3) (ws3 := ws) (row := none) hr hg (by simp) ho hat id
      have HRR := hide hr
      have k0 : (0 : Int) ≤ (k : Int) := by omega
      have k1 : (k : Int) < (n : Int) := by omega
      clear hiw hle hcm hm hr
      go_wp2_with fail
      refine HTZ.out.mono ?_
      rintro e w2 ⟨A2, c2, rfl, ho2, hb2⟩
      have hg2 : wr.grownBy w2 none := grown_of_below hb2 none
      have hO2 := HO.out.below hb2
      have HE := hide (HAN.out w2 c2 A2 hg2 (by rw [HM.out]; exact ho2.mono hs) (fun b hb => by rw [HM.out] at hb; exact (ho2.block b hb).1))
      rw [HM.out] at HE
      obtain ⟨hm0, hm1⟩ := hO2.at_ HRR.out
      have hf0 := hO2.free (j := k * 2)
      have hf1 := hO2.free (j := k * 2 + 1)
      have hsz2 := hb2.size
      have HB2 := hide ((HB.out.trans (hb2.mono hs)).grown HE.out.2 (by omega) (fun b hb => by injection hb with hb; omega))
      have hrl : (obs rs).length = n := by unfold obs; rw [List.length_map]; exact HO.out.len
      have HD2 : Hid (∀ j, j < k + 1 → (obs (rs.set k ⟨id, ws, A2, c2⟩))[j]? = (obs qs)[j]?) := by
        intro j hj
        rw [obs_set, List.getElem?_set]
        by_cases e : k = j
        · subst e
          rw [if_pos rfl, if_pos (by omega), HQZ.out]
          rfl
        · rw [if_neg e]
          exact HD.out j (by omega)
      clear hg2 hO2 ho2 hb2 hrl hc0 hc1 HAN HTZ
      go_wp2
      go_roundw
      case rel => exact ⟨k + 1, _, by omega, by go_num, HE.out.1, HD2.out, HB2.out⟩
      case measure => simp [intOf]; omega
    · obtain rfl : k = n := by omega
      go_wp2
      go_ret
      refine ⟨_, _, _, rfl, HO.out, ?_, HB.out⟩
      apply List.ext_getElem?
      intro j
      by_cases hj : j < k
      · exact HD.out j hj
      · rw [List.getElem?_eq_none (by unfold obs; rw [List.length_map, HO.out.len]; omega), List.getElem?_eq_none (by unfold obs; rw [List.length_map, HR.out.1]; omega)]
end Go.Proofs.YtfianpjoifcphaaGreat

/- ExMO -/
namespace Go.Proofs.YtfianpjoifcphaaGreat
open Go.RowKit
set_option linter.unusedVariables false
set_option maxRecDepth 100000

/-- an object marked from v on -/
def mko (v : Int) (q : Oq) : Oq := ⟨v, marks (v + 1) q.vals.length, q.addr, q.cap⟩
def markO : Int → List Oq → List Oq
  | _, [] => []
  | v, q :: qs => mko v q :: markO (v + 1 + (q.vals.length : Int)) qs
def mvO : Int → List Oq → Int
  | v, [] => v
  | v, q :: qs => mvO (v + 1 + (q.vals.length : Int)) qs
theorem markO_length (v : Int) (qs : List Oq) : (markO v qs).length = qs.length := by
  induction qs generalizing v with
  | nil => rfl
  | cons q qs ih => simp only [markO, List.length_cons, ih]
theorem markO_append (v : Int) (qs rs : List Oq) : markO v (qs ++ rs) = markO v qs ++ markO (mvO v qs) rs := by
  induction qs generalizing v with
  | nil => rfl
  | cons q qs ih => simp only [List.cons_append, markO, mvO, ih]
theorem mvO_append (v : Int) (qs rs : List Oq) : mvO v (qs ++ rs) = mvO (mvO v qs) rs := by
  induction qs generalizing v with
  | nil => rfl
  | cons q qs ih => simp only [List.cons_append, mvO, ih]
theorem mvO_le (v : Int) (qs : List Oq) (h : ∀ q ∈ qs, q.vals.length ≤ 1048576) : v ≤ mvO v qs ∧ mvO v qs ≤ v + (qs.length : Int) * 1048578 := by
  induction qs generalizing v with
  | nil => simp [mvO]
  | cons q qs ih =>
    have h1 := ih (v + 1 + (q.vals.length : Int)) fun r hr => h r (by simp [hr])
    have h2 := h q (by simp)
    simp only [mvO, List.length_cons]
    omega
theorem take_nextO {qs : List Oq} {j : Nat} {q : Oq} (h : qs[j]? = some q) : qs.take (j + 1) = qs.take j ++ [q] := by rw [List.take_add_one, h]; rfl
def markOto (v : Int) (qs : List Oq) (j : Nat) : List Oq := markO v (qs.take j) ++ qs.drop j
theorem markOto_get {v : Int} {qs : List Oq} {j : Nat} {q : Oq} (h : qs[j]? = some q) : (markOto v qs j)[j]? = some q := by
  have hl : j < qs.length := (List.getElem?_eq_some_iff.1 h).1
  unfold markOto
  rw [List.getElem?_append_right (by rw [markO_length, List.length_take]; omega), markO_length, List.length_take, Nat.min_eq_left (by omega), Nat.sub_self, List.getElem?_drop, Nat.add_zero, h]
theorem markOto_set {v : Int} {qs : List Oq} {j : Nat} {q : Oq} (h : qs[j]? = some q) : (markOto v qs j).set j (mko (mvO v (qs.take j)) q) = markOto v qs (j + 1) := by
  have hl : j < qs.length := (List.getElem?_eq_some_iff.1 h).1
  have e : qs[j] = q := (List.getElem?_eq_some_iff.1 h).2
  have hlen : (markO v (qs.take j)).length = j := by rw [markO_length, List.length_take]; omega
  unfold markOto
  rw [List.set_append_right _ _ (by omega), hlen, Nat.sub_self, List.drop_eq_getElem_cons hl, e, List.set_cons_zero, take_nextO h, markO_append]
  simp [markO]
theorem markO_get {v : Int} {qs : List Oq} {j : Nat} {q : Oq} (h : qs[j]? = some q) : (markO v qs)[j]? = some (mko (mvO v (qs.take j)) q) := by
  have hl : j < qs.length := (List.getElem?_eq_some_iff.1 h).1
  have e : qs[j] = q := (List.getElem?_eq_some_iff.1 h).2
  have hlen : (markO v (qs.take j)).length = j := by rw [markO_length, List.length_take]; omega
  have : markO v qs = markO v (qs.take j) ++ mko (mvO v (qs.take j)) q :: markO (mvO v (qs.take j) + 1 + (q.vals.length : Int)) (qs.drop (j + 1)) := by
    conv => lhs; rw [← List.take_append_drop j qs, List.drop_eq_getElem_cons hl, e]
    rw [markO_append]
    rfl
  rw [this, List.getElem?_append_right (by omega), hlen, Nat.sub_self]
  rfl

/-- own rows lie below hi -/
structure Lim_ExMO (A : Option Addr) (n c : Nat) (qs : List Oq) (hi : Nat) : Prop where
  row : ∀ b, (Value.slice A n c).ownBlock = some b → b < hi
  words : ∀ q ∈ qs, ∀ b, q.sl.ownBlock = some b → b < hi
theorem OwnO.lim {w : World} {base n c : Nat} {A : Option Addr} {qs : List Oq} (h : OwnO w base A n c qs) : Lim_ExMO A n c qs w.heap.size :=
  ⟨fun b hb => (h.block b hb).2, fun q hq b hb => by obtain ⟨k, hk⟩ := List.getElem?_of_mem hq; exact (h.wblock hk b hb).2⟩
/-- only blocks from lo on, below hi, and new ones are turned -/
structure Chg_ExMO (lo hi : Nat) (w w' : World) : Prop where
  below : Below lo w w'
  above : ∀ b, hi ≤ b → b < w.heap.size → w'.heap[b]? = w.heap[b]?
theorem Chg_ExMO.refl (lo hi : Nat) (w : World) : Chg_ExMO lo hi w w := ⟨Below.refl _ _, fun _ _ _ => rfl⟩
theorem Chg_ExMO.grown {lo hi : Nat} {w0 w w' : World} {row : Option Nat} (h : Chg_ExMO lo hi w0 w) (hg : w.grownBy w' row) (hlo : lo ≤ w.heap.size) (hr : ∀ b, row = some b → lo ≤ b ∧ b < hi) : Chg_ExMO lo hi w0 w' :=
  ⟨h.below.grown hg hlo (fun b hb => (hr b hb).1), fun b h1 h2 => (hg.block b (Nat.lt_of_lt_of_le h2 h.below.size) (fun e => by have := (hr b e.symm).2; omega)).trans (h.above b h1 h2)⟩

set_option maxHeartbeats 3200000 in
theorem markObjectS_any (A : Option Addr) (n c base hi : Nat) (k : Int) (qs : List Oq) (w : World) (ho : OwnO w base A n c qs) (hlim : Lim_ExMO A n c qs hi) (hb : base ≤ w.heap.size) (hk0 : 0 ≤ k) (hk : k ≤ 1000) (hn : n ≤ 1000000000) (hl : ∀ q ∈ qs, q.vals.length ≤ 1048576) :
    Calls Tryz.prog 74 #[.slice A n c, .int .i64 k] w fun e w' => e = .returned (.int .i64 (mvO k qs)) ∧ OwnO w' base A n c (markO k qs) ∧ Chg_ExMO base hi w w' := by
  by_cases hn0 : n = 0
  · subst hn0
    have hx : qs = [] := List.eq_nil_of_length_eq_zero ho.len
    subst hx
    go_enter Tryz.func74, Tryz.ntmps74
    go_wp2
    refine wp_loop_rounds 1 ?_
    rw [rounds_succ]
    go_wp2
    go_ret
    exact ⟨rfl, ho, Chg_ExMO.refl _ _ _⟩
  · obtain ⟨g, rfl, hgb, hgl⟩ := ho.shape (by omega)
    have HLEN := hide ho.len
    have HL := hide hl
    have HLIM := hide hlim
    have HO0 := hide ho
    have hgh : g < hi := hlim.row g rfl
    clear hl hlim ho
    go_enter Tryz.func74, Tryz.ntmps74
    go_wp2
    go_loopw [1, 5] (fun kk i wr => ∃ (j : Nat) (v : Int), j ≤ n ∧ i = .int .i64 j ∧ kk = .int .i64 v ∧ 0 ≤ v ∧ v ≤ 2000000000000000 ∧ Hid (v = mvO k (qs.take j)) ∧ Hid (OwnO wr base (some ⟨g, 0, none⟩) n c (markOto k qs j)) ∧ Hid (Chg_ExMO base hi w wr)) (fun _ i _ => n - (intOf i).toNat)
    case atStart => exact ⟨0, k, Nat.zero_le _, rfl, rfl, hk0, by omega, rfl, by show OwnO _ _ _ _ _ _; unfold markOto; simpa [markO] using HO0.out, Chg_ExMO.refl _ _ _⟩
    case round =>
      obtain ⟨j, v, hj, rfl, rfl, hv0, hv1, HV, HO, HC⟩ := hrel
      by_cases hlt : j < n
      · obtain ⟨q, hq⟩ : ∃ q, qs[j]? = some q := ⟨_, List.getElem?_eq_getElem (by rw [HLEN.out]; exact hlt)⟩
        have hr := markOto_get (v := k) hq
        have hset := markOto_set (v := k) hq
        rw [← HV.out] at hset
        have hf0 := HO.out.free (j := j * 2)
        have hc0 := (HO.out.at_ hr).1
        have hql := HL.out q (List.mem_of_getElem? hq)
        have hwl := HLIM.out.words q (List.mem_of_getElem? hq)
        have hmv : Hid (mvO k (qs.take (j + 1)) = v + 1 + (q.vals.length : Int)) := by
          show _ = _
          rw [take_nextO hq, mvO_append, ← HV.out]
          rfl
        have hmb := mvO_le k (qs.take (j + 1)) (fun r hr => HL.out r (List.mem_of_mem_take hr))
        rw [hmv.out, List.length_take, Nat.min_eq_left (by have := HLEN.out; omega)] at hmb
        have hv2 : v + 1 + (q.vals.length : Int) ≤ 2000000000000000 := by omega
        have p1 := HO.out.put_in hr ⟨v, q.vals, q.addr, q.cap⟩ 0 (.int .i64 v) (by omega) rfl rfl rfl rfl
        have hj1 : ((markOto k qs j).set j (⟨v, q.vals, q.addr, q.cap⟩ : Oq))[j]? = some ⟨v, q.vals, q.addr, q.cap⟩ := by
          rw [List.getElem?_set, if_pos rfl, if_pos ((List.getElem?_eq_some_iff.1 hr).1)]
        rw [Nat.add_zero] at p1
        have hown := p1.1.own j _ hj1
        have hc1 := (p1.1.at_ hj1).2
        have hwb := p1.1.wblock hj1
        have hfar := p1.1.far hj1 (g := g) rfl
        have HSEP := hide (fun (i : Nat) (r : Oq) hi hij b hb => p1.1.sep i j r _ hi hj1 hij b hb)
        have HP1 := hide p1
        have HJ1 := hide hj1
        have HSET := hide hset
        clear hr hset hq hmb p1 hj1
        obtain ⟨id, ws, qa, qc⟩ := q
        simp only [Oq.sl] at hc1 hql hwl hwb hfar hv2 hown hmv
        obtain ⟨m, hm⟩ : ∃ m, ws.length = m := ⟨_, rfl⟩
        have HMM := hide hm
        simp only [hm] at hc1 hql hwl hwb hfar hv2 hown hmv
        have HM := hide (mark_any qa m qc base (v + 1) ws _ hown (by omega) (by omega) (by omega))
        have HWL := hide hwl
        have HWB := hide hwb
        have HFAR := hide hfar
        clear hown hm hwl hwb hfar
        have k0 : (0 : Int) ≤ (j : Int) := by omega
        have k1 : (j : Int) < (n : Int) := by omega
        go_wp2_with fail
        refine HM.out.mono ?_
        rintro e w2 ⟨rfl, ho2, hg2⟩
        have hsl : (Oq.sl ⟨v, ws, qa, qc⟩) = .slice qa m qc := by simp only [Oq.sl, HMM.out]
        have p2 := HP1.out.1.reval HJ1.out hg2 (fun b hb => ⟨fun e => HFAR.out (by rw [hb, e]), fun i r hi hij hrb => HSEP.out i r hi hij b hrb (by rw [hsl]; exact hb)⟩) (marks (v + 1) m) (by rw [marks_length]; exact HMM.out.symm) (by rw [HMM.out]; exact ho2)
        have hset := HSET.out
        unfold mko at hset
        simp only [HMM.out] at hset
        rw [List.set_set, hset] at p2
        have hbw : base ≤ wr.heap.size := Nat.le_trans hb HC.out.below.size
        have HP := hide p2
        have HC2 := hide ((HC.out.grown HP1.out.2 hbw (fun b hb => by injection hb with hb; subst hb; exact ⟨hgb, hgh⟩)).grown hg2 (Nat.le_trans hbw HP1.out.2.size) (fun b hb => ⟨(HWB.out b hb).1, HWL.out b hb⟩))
        have hm0 : (0 : Int) ≤ (m : Int) := by omega
        have hm1 : (m : Int) ≤ 1048576 := by omega
        generalize (m : Int) = mi at *
        clear p2 hset ho2 hg2 hc0 hc1 hf0 HM
        go_wp2
        go_roundw
        case rel => exact ⟨j + 1, _, by omega, by go_num, rfl, by omega, by omega, hmv.out.symm, HP.out, HC2.out⟩
        case measure => simp [intOf]; omega
      · obtain rfl : j = n := by omega
        have hj2 : qs.take j = qs := List.take_of_length_le (by rw [HLEN.out]; exact Nat.le_refl _)
        have h1 := HO.out
        have h2 := HV.out
        unfold markOto at h1
        rw [hj2, List.drop_of_length_le (by rw [HLEN.out]; exact Nat.le_refl _), List.append_nil] at h1
        rw [hj2] at h2
        have H1 := hide h1
        have H2 := hide h2
        clear h1 h2 hj2
        go_wp2
        go_ret
        exact ⟨ret_int H2.out, H1.out, HC.out⟩

set_option maxHeartbeats 3200000 in
theorem heldObjectS_any (A : Option Addr) (n c B : Nat) (k : Int) (qs : List Oq) (w : World) (hi : Objs w B A n (markO k qs)) (hk0 : 0 ≤ k) (hk : k ≤ 1000) (hn : n ≤ 1000000000) (hl : ∀ q ∈ qs, q.vals.length ≤ 1048576) :
    Calls Tryz.prog 77 #[.slice A n c, .int .i64 k] w fun e w' => e = .returned (.int .i64 (mvO k qs)) ∧ w = w' := by
  have HI := hide hi
  have hlen : qs.length = n := by have := hi.1; rwa [markO_length] at this
  have HLEN := hide hlen
  have HL := hide hl
  clear hi hl hlen
  go_enter Tryz.func77, Tryz.ntmps77
  go_wp2
  go_loop [1, 5] (fun kk i => ∃ (j : Nat) (v : Int), j ≤ n ∧ i = .int .i64 j ∧ kk = .int .i64 v ∧ 0 ≤ v ∧ v ≤ 2000000000000000 ∧ Hid (v = mvO k (qs.take j))) (fun _ i => n - (intOf i).toNat)
  case atStart => exact ⟨0, k, Nat.zero_le _, rfl, rfl, hk0, by omega, rfl⟩
  case round =>
    obtain ⟨j, v, hj, rfl, rfl, hv0, hv1, HV⟩ := hrel
    by_cases hlt : j < n
    · obtain ⟨q, hq⟩ : ∃ q, qs[j]? = some q := ⟨_, List.getElem?_eq_getElem (by rw [HLEN.out]; exact hlt)⟩
      have hg := markO_get (v := k) hq
      rw [← HV.out] at hg
      obtain ⟨ad, p, rfl, hp, hb, hc0, hc1⟩ := HI.out.at_ hg
      obtain ⟨hiw, hle, hcm, hnl⟩ := HI.out.words hg
      have hql := HL.out q (List.mem_of_getElem? hq)
      have hmv : Hid (mvO k (qs.take (j + 1)) = v + 1 + (q.vals.length : Int)) := by
        show _ = _
        rw [take_nextO hq, mvO_append, ← HV.out]
        rfl
      have hmb := mvO_le k (qs.take (j + 1)) (fun r hr => HL.out r (List.mem_of_mem_take hr))
      rw [hmv.out, List.length_take, Nat.min_eq_left (by have := HLEN.out; omega)] at hmb
      have hv2 : v + 1 + (q.vals.length : Int) ≤ 2000000000000000 := by omega
      simp only [mko, Oq.sl, marks_length] at hc0 hc1 hiw
      clear hg hq hmb hle hcm hnl
      generalize q.vals.length = m at hc1 hiw hql hv2 hmv
      have HHD := hide (held_any q.addr m q.cap B (v + 1) w hiw (by omega) (by omega) (by omega))
      have k0 : (0 : Int) ≤ (j : Int) := by omega
      have k1 : (j : Int) < (n : Int) := by omega
      clear hiw
      go_wp2_with fail
      refine HHD.out.mono ?_
      rintro e w2 ⟨rfl, rfl⟩
      have hm0 : (0 : Int) ≤ (m : Int) := by omega
      have hm1 : (m : Int) ≤ 1048576 := by omega
      have hneg : ¬ (v + 1 + (m : Int) < 0) := by omega
      clear HHD
      generalize (m : Int) = mi at *
      go_wp2
      go_round
      case rel => exact ⟨j + 1, _, by omega, by go_num, rfl, by omega, by omega, hmv.out.symm⟩
      case measure => simp [intOf]; omega
    · obtain rfl : j = n := by omega
      have hj2 : qs.take j = qs := List.take_of_length_le (by rw [HLEN.out]; exact Nat.le_refl _)
      have h2 := HV.out
      rw [hj2] at h2
      have H2 := hide h2
      clear h2 hj2
      go_wp2
      go_ret
      exact ⟨ret_int H2.out, rfl⟩
end Go.Proofs.YtfianpjoifcphaaGreat

/- ExVm -/
namespace Go.Proofs.YtfianpjoifcphaaGreat
open Go.RowKit
set_option linter.unusedVariables false
set_option maxRecDepth 100000

theorem row_same_ExVm {w w' : World} {base s n : Nat} {t : TypeId} {v : Value} {xs : List Value} (h : w.ownsRow base t s v n xs) (hs : ∀ b, v.ownBlock = some b → w'.heap[b]? = w.heap[b]?) : w'.ownsRow base t s v n xs :=
  ⟨h.1, by
    rcases h.2 with h0 | ⟨g, cap, cur, hv, hb, hh, r⟩
    · exact .inl h0
    · exact .inr ⟨g, cap, cur, hv, hb, (hs g (by rw [hv]; rfl)).trans hh, r⟩⟩
/-- a volume's rows: the device in blocks from base on, below g1, the map and the heat from g1 on -/
structure SV (w : World) (base g1 : Nat) (dA : Option Addr) (dn dc : Nat) (gs : List Zq) (mA : Option Addr) (mn mc : Nat) (xs : List Int) (hA : Option Addr) (hn hc : Nat) (hs : List Int) : Prop where
  dev : OwnZ w base dA dn dc gs
  dl : Lim dA dn dc gs g1
  map : OwnR w base 141 5 mA mn mc xs
  ml : ∀ b, (Value.slice mA mn mc).ownBlock = some b → g1 ≤ b
  heat : Own w base hA hn hc hs
  hl : ∀ b, (Value.slice hA hn hc).ownBlock = some b → g1 ≤ b
  le0 : base ≤ g1
  le2 : g1 ≤ w.heap.size
section
variable {w w' : World} {base g1 : Nat} {dA mA hA : Option Addr} {dn dc mn mc hn hc : Nat} {gs gs' : List Zq} {xs xs' hs hs' : List Int}
theorem SV.below (h : SV w base g1 dA dn dc gs mA mn mc xs hA hn hc hs) (hb : Below w.heap.size w w') : SV w' base g1 dA dn dc gs mA mn mc xs hA hn hc hs :=
  ⟨h.dev.below hb, h.dl, h.map.below hb, h.ml, h.heat.below hb, h.hl, h.le0, Nat.le_trans h.le2 hb.size⟩
theorem SV.alloc (h : SV w base g1 dA dn dc gs mA mn mc xs hA hn hc hs) (o : Obj) : SV (w.alloc o) base g1 dA dn dc gs mA mn mc xs hA hn hc hs := h.below (below_box w o)
/-- blocks ahead of it are turned -/
theorem SV.above {lo hi : Nat} (h : SV w base g1 dA dn dc gs mA mn mc xs hA hn hc hs) (hc2 : Chg lo hi w w') (hb : hi ≤ base) : SV w' base g1 dA dn dc gs mA mn mc xs hA hn hc hs := by
  have keep : ∀ b, base ≤ b → b < w.heap.size → w'.heap[b]? = w.heap[b]? := fun b h1 h2 => hc2.above b (by omega) h2
  refine ⟨⟨h.dev.len, row_same_ExVm h.dev.row fun b e => keep b (h.dev.block b e).1 (h.dev.block b e).2,
    fun k q hk => ⟨(h.dev.own k q hk).1, row_same_ExVm (h.dev.own k q hk).2 fun b e => keep b (h.dev.wblock hk b e).1 (h.dev.wblock hk b e).2⟩, h.dev.sep⟩, h.dl,
    ⟨h.map.1, row_same_ExVm h.map.2 fun b e => keep b (h.map.2.lt b e).1 (h.map.2.lt b e).2⟩, h.ml, ⟨h.heat.1, row_same_ExVm h.heat.2 fun b e => keep b (h.heat.2.lt b e).1 (h.heat.2.lt b e).2⟩, h.hl, h.le0, Nat.le_trans h.le2 hc2.below.size⟩
theorem SV.mark1 (h : SV w base g1 dA dn dc gs mA mn mc xs hA hn hc hs) (ho : OwnZ w' base dA dn dc gs') (hl : Lim dA dn dc gs' g1) (hc2 : Chg base g1 w w') : SV w' base g1 dA dn dc gs' mA mn mc xs hA hn hc hs :=
  ⟨ho, hl, ⟨h.map.1, row_same_ExVm h.map.2 fun b e => hc2.above b (h.ml b e) (h.map.2.lt b e).2⟩, h.ml,
    ⟨h.heat.1, row_same_ExVm h.heat.2 fun b e => hc2.above b (h.hl b e) (h.heat.2.lt b e).2⟩, h.hl, h.le0, Nat.le_trans h.le2 hc2.below.size⟩
theorem SV.mark3 (h : SV w base g1 dA dn dc gs mA mn mc xs hA hn hc hs) (ho : OwnR w' base 141 5 mA mn mc xs') (hg : w.grownBy w' (Value.slice mA mn mc).ownBlock) : SV w' base g1 dA dn dc gs mA mn mc xs' hA hn hc hs :=
  ⟨h.dev.kept hg fun g e => ⟨fun e2 => by have := h.dl.row g e2; have := h.ml g e; omega, fun k q hk e2 => by have := h.dl.words q (List.mem_of_getElem? hk) g e2; have := h.ml g e; omega⟩, h.dl, ho, h.ml,
    h.heat.kept hg (fun g e => rows_ne h.map.2 h.heat.2 (by decide) e), h.hl, h.le0, Nat.le_trans h.le2 hg.size⟩
theorem SV.mark4 (h : SV w base g1 dA dn dc gs mA mn mc xs hA hn hc hs) (ho : Own w' base hA hn hc hs') (hg : w.grownBy w' (Value.slice hA hn hc).ownBlock) : SV w' base g1 dA dn dc gs mA mn mc xs hA hn hc hs' :=
  ⟨h.dev.kept hg fun g e => ⟨fun e2 => by have := h.dl.row g e2; have := h.hl g e; omega, fun k q hk e2 => by have := h.dl.words q (List.mem_of_getElem? hk) g e2; have := h.hl g e; omega⟩, h.dl,
    h.map.kept hg (fun g e => rows_ne h.heat.2 h.map.2 (by decide) e), h.ml, ho, h.hl, h.le0, Nat.le_trans h.le2 hg.size⟩
end
theorem lim_mark {A : Option Addr} {n c hi : Nat} {qs : List Zq} (h : Lim A n c qs hi) (k : Int) : Lim A n c (markZ k qs) hi := by
  refine ⟨h.row, fun q hq b e => ?_⟩
  obtain ⟨j, hj⟩ := List.getElem?_of_mem hq
  have hl : j < qs.length := by have := (List.getElem?_eq_some_iff.1 hj).1; rwa [markZ_length] at this
  have h0 := List.getElem?_eq_getElem hl
  rw [markZ_get h0] at hj
  injection hj with hj
  subst hj
  refine h.words _ (List.mem_of_getElem? h0) b ?_
  have own : ∀ (A : Option Addr) (n m c : Nat), (Value.slice A n c).ownBlock = (Value.slice A m c).ownBlock := fun A n m c => by rcases A with _ | a <;> rfl
  exact (own _ _ _ _).trans e

theorem mvZ_nil (v : Int) (qs : List Zq) (h : ∀ q ∈ qs, q.words = []) : mvZ v qs = v + (qs.length : Int) * 2 := by
  induction qs generalizing v with
  | nil => simp [mvZ]
  | cons q qs ih =>
    have h1 := ih (v + (q.words.length : Int) + 1 + 1) fun r hr => h r (by simp [hr])
    have h2 : q.words.length = 0 := by rw [h q (by simp)]; rfl
    simp only [mvZ, List.length_cons]
    rw [h1, h2]
    omega
/-- a block of one type is no row of another one -/
theorem rows_blk_ExVm {w : World} {base s n g : Nat} {t t' : TypeId} {v : Value} {xs : List Value} {cs : Array Value} (h : w.ownsRow base t s v n xs) (hb : Blk w g t' cs) (ht : t ≠ t') : v.ownBlock ≠ some g := by
  intro e
  rcases h.2 with ⟨rfl, _⟩ | ⟨g2, cap, cur, rfl, _, hh, _⟩
  · simp [Value.ownBlock] at e
  · simp [Value.ownBlock] at e
    subst e
    have hb' : w.heap[g2]? = some (.cells cs t') := hb
    rw [hh] at hb'
    simp at hb'
    exact ht hb'.2
/-- the value -/
def svVal (dA : Option Addr) (dn dc : Nat) (mA : Option Addr) (mn mc : Nat) (hA : Option Addr) (hn hc : Nat) (seq zone : Int) : Value :=
  .agg #[.slice dA dn dc, .slice none 0 0, .slice mA mn mc, .slice hA hn hc, .int .i64 seq, .int .i64 zone]

/-- where a fresh volume's parts lie -/
structure FV where
  dA : Option Addr
  dn : Nat
  dc : Nat
  mA : Option Addr
  mn : Nat
  mc : Nat
  hA : Option Addr
  hn : Nat
  hc : Nat
  seq : Int
  zone : Int
  g1 : Nat
def FV.val (f : FV) : Value := svVal f.dA f.dn f.dc f.mA f.mn f.mc f.hA f.hn f.hc f.seq f.zone
def FV.vq (f : FV) (gs : List Zq) (ms : List Wh) (hs : List Int) : Vq := ⟨gs, f.dA, f.dn, f.dc, [], none, 0, 0, ms, f.mA, f.mn, f.mc, hs, f.hA, f.hn, f.hc, f.seq, f.zone⟩
def FV.SV (f : FV) (w : World) (base : Nat) (gs : List Zq) (xs hs : List Int) : Prop := Go.Proofs.YtfianpjoifcphaaGreat.SV w base f.g1 f.dA f.dn f.dc gs f.mA f.mn f.mc xs f.hA f.hn f.hc hs
structure FVok (f : FV) (gs : List Zq) (ms : List Wh) : Prop where
  d4 : f.dn ≤ 4
  m12 : f.mn ≤ 12
  h12 : f.hn ≤ 12
  words : ∀ q ∈ gs, q.words = []
  map : ms.length = f.mn
theorem FV.vq_val (f : FV) (gs : List Zq) (ms : List Wh) (hs : List Int) : (f.vq gs ms hs).val = f.val := rfl
theorem FV.voli {f : FV} {w : World} {base : Nat} {gs : List Zq} {ms : List Wh} {hs : List Int} (h : f.SV w base gs (fl5 ms) hs) (hm : ms.length = f.mn) : VolI w w.heap.size (f.vq gs ms hs) :=
  ⟨h.dev.zns, (OwnO.nil_ w 0).objs, ⟨hm, h.map.ints⟩, h.heat.ints, h.dev.cap, ⟨Nat.le_refl _, Nat.zero_le _⟩, h.map.cap, h.heat.cap⟩
/-- what VolumeFormat returns -/
def fmtV (v : Bool) : Vol := if v then newV else vol0
def fmtC (v : Bool) : Int := if v then 0 else 3
def FmtPost (w : World) (V : Vol) (cd : Int) (e : Ending) (w' : World) : Prop :=
  ∃ f gs ms hs, e = .returned (.tuple #[FV.val f, .int .i64 cd]) ∧ FVok f gs ms ∧ f.SV w' w.heap.size gs (fl5 ms) hs ∧ (f.vq gs ms hs).vol = V ∧ Below w.heap.size w w'

set_option maxHeartbeats 3200000 in
theorem markVolume_any (base g1 : Nat) (dA : Option Addr) (dn dc : Nat) (gs : List Zq) (mA : Option Addr) (mn mc : Nat) (xs : List Int) (hA : Option Addr) (hn hc : Nat) (hs : List Int) (seq zone : Int) (w : World)
    (h : SV w base g1 dA dn dc gs mA mn mc xs hA hn hc hs) (h1 : dn ≤ 4) (h2 : mn ≤ 12) (h3 : hn ≤ 12) (hz : ∀ q ∈ gs, q.words = []) (hd : dc ≤ maxLen ∧ mc ≤ maxLen ∧ hc ≤ maxLen) :
    Calls Tryz.prog 22 #[svVal dA dn dc mA mn mc hA hn hc seq zone, .int .i64 1] w fun e w' => e = .returned (.int .i64 (mvZ 1 gs + (mn * 5 : Nat) + hn)) ∧
      SV w' base g1 dA dn dc (markZ 1 gs) mA mn mc (marks (mvZ 1 gs) (mn * 5)) hA hn hc (marks (mvZ 1 gs + (mn * 5 : Nat)) hn) ∧ Below base w w' ∧ (∀ (b : Nat) (cs : Array Value), g1 ≤ b → Blk w b 29 cs → Blk w' b 29 cs) := by
  have hl : ∀ q ∈ gs, q.words.length ≤ 1048576 := fun q hq => by rw [hz q hq]; exact Nat.zero_le _
  have HL := hide hl
  have hk := mvZ_nil 1 gs hz
  have hgl : gs.length = dn := h.dev.len
  have HM := hide (lim_mark h.dl 1)
  obtain ⟨K, hK⟩ : ∃ K, mvZ 1 gs = K := ⟨_, rfl⟩
  have HK := hide hK
  rw [hK] at hk ⊢
  have hk0 : 0 ≤ K := by omega
  have hk1 : K ≤ 9 := by omega
  have HS := hide (h.alloc (.cells #[.slice dA dn dc, .slice none 0 0, .slice mA mn mc, .slice hA hn hc, .int .i64 seq, .int .i64 zone] 29))
  have HB := hide ((below_box w (.cells #[.slice dA dn dc, .slice none 0 0, .slice mA mn mc, .slice hA hn hc, .int .i64 seq, .int .i64 zone] 29)).mono (Nat.le_trans h.le0 h.le2))
  have hsz := h.le2
  have hle0 := h.le0
  have HX := hide (Blk.new w 29 #[.slice dA dn dc, .slice none 0 0, .slice mA mn mc, .slice hA hn hc, .int .i64 seq, .int .i64 zone])
  have HKP := hide fun (b : Nat) (cs : Array Value) (hb : Blk w b 29 cs) => hb.alloc (.cells #[.slice dA dn dc, .slice none 0 0, .slice mA mn mc, .slice hA hn hc, .int .i64 seq, .int .i64 zone] 29)
  clear h hl hK hk hgl
  unfold svVal
  go_enter Tryz.func22, Tryz.ntmps22
  go_wp2_with fail
  refine (markZoneS_any dA dn dc base g1 1 gs _ HS.out.dev HS.out.dl (by simp; omega) (by decide) (by decide) (by omega) HL.out).mono ?_
  rw [HK.out]
  rintro e w1 ⟨rfl, ho1, hc1⟩
  have HS1 := hide (HS.out.mark1 ho1 HM.out hc1)
  have HB1 := hide (HB.out.trans hc1.below)
  have HX1 := hide (show Blk w1 w.heap.size 29 #[.slice dA dn dc, .slice none 0 0, .slice mA mn mc, .slice hA hn hc, .int .i64 seq, .int .i64 zone] from (hc1.above w.heap.size (by omega) (by simp)).trans HX.out)
  have hs1 := HB1.out.size
  have hx1 := HX1.out.lt
  have HKP1 := hide fun (b : Nat) (cs : Array Value) (hg : g1 ≤ b) (hb : Blk w b 29 cs) => (show Blk w1 b 29 cs from (hc1.above b hg (HKP.out b cs hb).lt).trans (HKP.out b cs hb))
  clear ho1 hc1 HS HX HKP
  have c0 := HX1.out.cell 1
  have c2 := HX1.out.cell 2
  have c3 := HX1.out.cell 3
  simp at c0 c2 c3
  go_wp2_with fail
  refine (markObjectS_any none 0 0 w1.heap.size w1.heap.size K [] _ (OwnO.nil_ _ _) ⟨by simp [Value.ownBlock], by simp⟩ (Nat.le_refl _) hk0 (by omega) (by decide) (by simp)).mono ?_
  rintro e w2 ⟨rfl, -, hc2⟩
  have HS2 := hide (HS1.out.below hc2.below)
  have HB2 := hide (HB1.out.trans (hc2.below.mono (by have := HS1.out.le2; omega)))
  have HX2 := hide (HX1.out.below hc2.below hx1)
  have HKP2 := hide fun (b : Nat) (cs : Array Value) (hg : g1 ≤ b) (hb : Blk w b 29 cs) => (HKP1.out b cs hg hb).below hc2.below (HKP1.out b cs hg hb).lt
  clear hc2 HS1 HX1 HKP1 c0 c2 c3
  have c2 := HX2.out.cell 2
  have c3 := HX2.out.cell 3
  simp at c2 c3
  go_wp2_with fail
  refine (markWhereS_any mA mn mc base K xs _ HS2.out.map hk0 (by omega) (by omega)).mono ?_
  rintro e w3 ⟨rfl, ho3, hg3⟩
  have HS3 := hide (HS2.out.mark3 ho3 hg3)
  have HB3 := hide (HB2.out.grown hg3 (by have := HS2.out.le2; omega) (fun b hb => (HS2.out.map.2.lt b hb).1))
  have HX3 := hide (HX2.out.grown hg3 (fun e => rows_blk_ExVm HS2.out.map.2 HX2.out (by decide) e.symm))
  have HKP3 := hide fun (b : Nat) (cs : Array Value) (hg : g1 ≤ b) (hb : Blk w b 29 cs) => (HKP2.out b cs hg hb).grown hg3 (fun e => rows_blk_ExVm HS2.out.map.2 (HKP2.out b cs hg hb) (by decide) e.symm)
  clear ho3 hg3 HS2 HX2 HKP2 c2 c3
  have c3 := HX3.out.cell 3
  simp at c3
  go_wp2_with fail
  refine (mark_any hA hn hc base (K + (mn * 5 : Nat)) hs _ HS3.out.heat (by omega) (by omega) (by omega)).mono ?_
  rintro e w4 ⟨rfl, ho4, hg4⟩
  have HS4 := hide (HS3.out.mark4 ho4 hg4)
  have HB4 := hide (HB3.out.grown hg4 (by have := HS3.out.le2; omega) (fun b hb => (HS3.out.heat.2.lt b hb).1))
  have HKP4 := hide fun (b : Nat) (cs : Array Value) (hg : g1 ≤ b) (hb : Blk w b 29 cs) => (HKP3.out b cs hg hb).grown hg4 (fun e => rows_blk_ExVm HS3.out.heat.2 (HKP3.out b cs hg hb) (by decide) e.symm)
  clear ho4 hg4 HS3 HX3 HKP3
  go_wp2
  go_ret
  exact ⟨by simp, HS4.out, HB4.out, HKP4.out⟩

set_option maxHeartbeats 3200000 in
theorem heldVolume_any (B : Nat) (dA : Option Addr) (dn dc : Nat) (gs : List Zq) (mA : Option Addr) (mn mc : Nat) (hA : Option Addr) (hn hc : Nat) (seq zone : Int) (w : World) (hB : B ≤ w.heap.size)
    (r1 : Zns w B dA dn (markZ 1 gs)) (r3 : Ints w B mA (mn * 5) (marks (mvZ 1 gs) (mn * 5))) (r4 : Ints w B hA hn (marks (mvZ 1 gs + (mn * 5 : Nat)) hn)) (h1 : dn ≤ 4) (h2 : mn ≤ 12) (h3 : hn ≤ 12) (hz : ∀ q ∈ gs, q.words = []) (hgl : gs.length = dn) :
    Calls Tryz.prog 23 #[svVal dA dn dc mA mn mc hA hn hc seq zone, .int .i64 1] w fun e w' => e = .returned (.int .i64 (mvZ 1 gs + (mn * 5 : Nat) + hn)) ∧ Below w.heap.size w w' := by
  have hl : ∀ q ∈ gs, q.words.length ≤ 1048576 := fun q hq => by rw [hz q hq]; exact Nat.zero_le _
  have HL := hide hl
  have hk := mvZ_nil 1 gs hz
  obtain ⟨K, hK⟩ : ∃ K, mvZ 1 gs = K := ⟨_, rfl⟩
  have HK := hide hK
  rw [hK] at hk r3 r4 ⊢
  have hk0 : 0 ≤ K := by omega
  have hk1 : K ≤ 9 := by omega
  have HB := hide (below_box w (.cells #[.slice dA dn dc, .slice none 0 0, .slice mA mn mc, .slice hA hn hc, .int .i64 seq, .int .i64 zone] 29))
  have HX := hide (Blk.new w 29 #[.slice dA dn dc, .slice none 0 0, .slice mA mn mc, .slice hA hn hc, .int .i64 seq, .int .i64 zone])
  have R1 := hide (r1.alloc hB (.cells #[.slice dA dn dc, .slice none 0 0, .slice mA mn mc, .slice hA hn hc, .int .i64 seq, .int .i64 zone] 29))
  have R3 := hide (r3.alloc hB (.cells #[.slice dA dn dc, .slice none 0 0, .slice mA mn mc, .slice hA hn hc, .int .i64 seq, .int .i64 zone] 29))
  have R4 := hide (r4.alloc hB (.cells #[.slice dA dn dc, .slice none 0 0, .slice mA mn mc, .slice hA hn hc, .int .i64 seq, .int .i64 zone] 29))
  have R2 := hide fun (W : World) => (OwnO.nil_ W 0).objs
  clear r1 r3 r4 hl hK hk
  have n0 : ¬ K < 0 := by omega
  have n1 : ¬ K + ((mn * 5 : Nat) : Int) < 0 := by omega
  have n2 : ¬ K + ((mn * 5 : Nat) : Int) + (hn : Int) < 0 := by omega
  unfold svVal
  go_enter Tryz.func23, Tryz.ntmps23
  go_wp2_with fail
  refine (heldZoneS_any dA dn dc B 1 gs _ R1.out (by decide) (by decide) (by omega) HL.out).mono ?_
  rw [HK.out]
  rintro e w1 ⟨rfl, rfl⟩
  go_wp2_with fail
  refine (heldObjectS_any none 0 0 _ K [] _ (R2.out _) hk0 (by omega) (by decide) (by simp)).mono ?_
  rintro e w2 ⟨rfl, rfl⟩
  simp only [mvO]
  go_wp2_with fail
  refine (heldWhereS_any mA mn mc B K _ R3.out hk0 (by omega) (by omega)).mono ?_
  rintro e w3 ⟨rfl, rfl⟩
  go_wp2_with fail
  refine (held_any hA hn hc B (K + (mn * 5 : Nat)) _ R4.out (by omega) (by omega) (by omega)).mono ?_
  rintro e w4 ⟨rfl, rfl⟩
  go_wp2
  go_ret
  exact ⟨by simp, HB.out⟩
end Go.Proofs.YtfianpjoifcphaaGreat

/- SpecVF -/
namespace Go.Proofs.YtfianpjoifcphaaGreat
open Go.RowKit
set_option linter.unusedVariables false
set_option maxRecDepth 100000

set_option maxHeartbeats 3200000 in
theorem specNewV (w : World) : Calls Tryz.prog 40 #[] w (VPost1 w newV) := by
  have HB0 := hide (below_box w (.cells (boxV vq0) 29))
  have HX := hide (Blk.new w 29 (boxV vq0))
  have HN := hide (specNew (w.alloc (.cells (boxV vq0) 29)))
  unfold boxV vq0 at HN
  go_enter Tryz.func40, Tryz.ntmps40
  go_wp2_with fail
  refine HN.out.mono ?_
  rintro e w1 ⟨A1, c1, qs, rfl, ho1, hz1, hb1⟩
  have HO1 := hide ho1
  have HZ1 := hide hz1
  have HB1 := hide (HB0.out.trans (hb1.mono (by simp)))
  have HX1 := hide (HX.out.below hb1 HX.out.lt)
  have HBX1 := hide (show w.heap.size < w1.heap.size by have := hb1.size; simp at this; omega)
  have HS := hide (OwnO.lit0 w1 w1.heap.size (Nat.le_refl _))
  have HM := hide (l11New_any (w1.alloc (.cells #[] 139)))
  clear ho1 hz1 hb1 HN HB0 HX
  go_wp2_with fail
  refine HM.out.mono ?_
  rintro e w2 ⟨rfl, ho2, hb2⟩
  have HSZ := hide (show w1.heap.size + 1 ≤ w2.heap.size by have := hb2.size; simpa using this)
  have HBL2 := hide ((below_box w1 (.cells #[] 139)).trans (hb2.mono (by simp)))
  have HO2 := hide (HO1.out.below HBL2.out)
  have HS2 := hide (HS.out.below hb2)
  have HM2 := hide ho2
  have HB2 := hide (HB1.out.trans (HBL2.out.mono HB1.out.size))
  have HX2 := hide (HX1.out.below HBL2.out HX1.out.lt)
  have HH := hide (new13_any w2)
  clear ho2 hb2 HO1 HS HM HB1 HX1 HBL2
  go_wp2_with fail
  refine HH.out.mono ?_
  rintro e w3 ⟨rfl, ho3, hb3⟩
  have hx1 : w.heap.size < w1.heap.size := by exact HBX1.out
  have hs2 : w1.heap.size + 1 ≤ w2.heap.size := HSZ.out
  obtain ⟨p, hp⟩ : ∃ p : Vq, (⟨qs, A1, 4, c1, [], some ⟨w1.heap.size, 0, none⟩, 0, 0, new12, some ⟨w1.heap.size + 1, 0, none⟩, 12, 12, List.replicate 12 0, some ⟨w2.heap.size, 0, none⟩, 12, 12, 1, 0⟩ : Vq) = p := ⟨_, rfl⟩
  have ho : OwnV w3 (w.heap.size + 1) p := by
    rw [← hp]
    have h1 := (HO2.out.below hb3).mono (b' := w.heap.size + 1) (by simp)
    have h2 := (HS2.out.below hb3).mono (b' := w.heap.size + 1) (by omega)
    have h3 := (HM2.out.below hb3).mono (b' := w.heap.size + 1) (by simp; omega)
    have h4 := ho3.mono (b' := w.heap.size + 1) (by omega)
    rw [show (w1.alloc (.cells #[] 139)).heap.size = w1.heap.size + 1 by simp] at h3
    exact ⟨h1, h2, h3, h4⟩
  have hvol : p.vol = newV := by rw [← hp]; show (⟨zns qs, _, _, _, _, _⟩ : Vol) = _; rw [HZ1.out]; rfl
  have HX3 := HX2.out.below hb3 HX2.out.lt
  have fz := HX3.frozen
  obtain ⟨y0, y1, y2, y3, y4, y5⟩ := box_cells HX3
  simp only [vq0] at y0 y1 y2 y3 y4 y5
  have hblk := blk6 HX3 p
  have HOW := hide ((ho.put6 (p2 := p) (g := w.heap.size) (by omega)).mono (b' := w.heap.size) (by omega))
  have HBE := hide ((HB2.out.trans (hb3.mono HB2.out.size)).grown (grown6 w3 w.heap.size p) (HB2.out.trans (hb3.mono HB2.out.size)).size (fun k hk => by injection hk with hk; omega))
  have HVO := hide hvol
  unfold put6 at HOW HBE hblk
  obtain ⟨q0, q1, q2, q3, q4, q5⟩ := box_cells hblk
  clear hblk hb3 ho3 ho HO2 HS2 HM2 HX2 HX3 HB2 HSZ HBX1 hvol
  subst hp
  simp only at HOW HBE q0 q1 q2 q3 q4 q5
  go_wp2
  generalize (((((w3.setCell ⟨w.heap.size, 0, none⟩ (.slice A1 4 c1)).setCell ⟨w.heap.size, 1, none⟩ (.slice (some ⟨w1.heap.size, 0, none⟩) 0 0)).setCell ⟨w.heap.size, 2, none⟩ (.slice (some ⟨w1.heap.size + 1, 0, none⟩) 12 12)).setCell ⟨w.heap.size, 3, none⟩ (.slice (some ⟨w2.heap.size, 0, none⟩) 12 12)).setCell ⟨w.heap.size, 4, none⟩ (.int .i64 1)).setCell ⟨w.heap.size, 5, none⟩ (.int .i64 0) = W9 at HOW HBE q0 q1 q2 q3 q4 q5 ⊢
  refine bodyPost_ret (v := .agg #[.slice A1 4 c1, .slice (some ⟨w1.heap.size, 0, none⟩) 0 0, .slice (some ⟨w1.heap.size + 1, 0, none⟩) 12 12, .slice (some ⟨w2.heap.size, 0, none⟩) 12 12, .int .i64 1, .int .i64 0]) (by simp [results, Tryz.results40, go_sem, q0, q1, q2, q3, q4, q5]) rfl ?_
  exact ⟨_, rfl, HOW.out, HVO.out, HBE.out⟩

set_option maxHeartbeats 3200000 in
theorem specVFormat (A : Option Addr) (n c B : Nat) (qs : List Zq) (w : World) (hr : Zns w B A n qs) (hB : B ≤ w.heap.size) (hn : n ≤ 1000000000000) :
    Calls Tryz.prog 11 #[.slice A n c] w (VPost w (fmtV (devV (zns qs))) (fmtC (devV (zns qs)))) := by
  have HD := hide (specDV A n c B qs (w.alloc (.cells (boxV vq0) 29)) (hr.alloc hB _) (by simpa using hn))
  have HB0 := hide (below_box w (.cells (boxV vq0) 29))
  have HX := hide (Blk.new w 29 (boxV vq0))
  clear hr
  unfold boxV vq0 at HD
  rcases hv : devV (zns qs) with _ | _
  · rw [hv] at HD
    clear hv
    go_enter Tryz.func11, Tryz.ntmps11
    go_wp2_with fail
    refine HD.out.mono ?_
    rintro e w1 ⟨rfl, z, hw1⟩
    have HB1 := hide (show Below w.heap.size w w1 by rw [hw1]; exact below_drewN HB0.out z)
    have HX1 := (show Blk w1 w.heap.size 29 (boxV vq0) by rw [hw1]; exact HX.out)
    have fz := HX1.frozen
    obtain ⟨y0, y1, y2, y3, y4, y5⟩ := box_cells HX1
    have hblk := blk6 HX1 vq0
    have HOW := hide (OwnV.nil_ (put6 w1 w.heap.size vq0) w.heap.size)
    have HBE := hide (HB1.out.grown (grown6 w1 w.heap.size vq0) HB1.out.size (fun k hk => by injection hk with hk; omega))
    unfold put6 at HOW HBE hblk
    obtain ⟨q0, q1, q2, q3, q4, q5⟩ := box_cells hblk
    clear hblk HX1 HX HB0 HD hw1
    simp only [vq0] at y0 y1 y2 y3 y4 y5 q0 q1 q2 q3 q4 q5 HOW HBE
    go_wp2
    generalize (((((w1.setCell ⟨w.heap.size, 0, none⟩ (.slice none 0 0)).setCell ⟨w.heap.size, 1, none⟩ (.slice none 0 0)).setCell ⟨w.heap.size, 2, none⟩ (.slice none 0 0)).setCell ⟨w.heap.size, 3, none⟩ (.slice none 0 0)).setCell ⟨w.heap.size, 4, none⟩ (.int .i64 0)).setCell ⟨w.heap.size, 5, none⟩ (.int .i64 0) = W9 at HOW HBE q0 q1 q2 q3 q4 q5 ⊢
    refine bodyPost_ret (v := .tuple #[.agg #[.slice none 0 0, .slice none 0 0, .slice none 0 0, .slice none 0 0, .int .i64 0, .int .i64 0], .int .i64 3]) (by simp [results, Tryz.results11, go_sem, q0, q1, q2, q3, q4, q5]) rfl ?_
    exact ⟨_, rfl, HOW.out, vq0_vol, HBE.out⟩
  · rw [hv] at HD
    clear hv
    have HN := hide fun (W : World) => specNewV W
    go_enter Tryz.func11, Tryz.ntmps11
    go_wp2_with fail
    refine HD.out.mono ?_
    rintro e w1 ⟨rfl, z, hw1⟩
    have HB1 := hide (show Below w.heap.size w w1 by rw [hw1]; exact below_drewN HB0.out z)
    have HX1 := hide (show Blk w1 w.heap.size 29 (boxV vq0) by rw [hw1]; exact HX.out)
    clear HX HB0 HD hw1
    go_wp2_with fail
    refine (HN.out w1).mono ?_
    rintro e w2 ⟨p, rfl, ho2, hv2, hb2⟩
    have HVO := hide hv2
    have hx1 := HX1.out.lt
    have HX2 := HX1.out.below hb2 hx1
    have fz := HX2.frozen
    obtain ⟨y0, y1, y2, y3, y4, y5⟩ := box_cells HX2
    simp only [vq0] at y0 y1 y2 y3 y4 y5
    have hblk := blk6 HX2 p
    have hbb := HB1.out.trans (hb2.mono HB1.out.size)
    have HOW := hide ((ho2.put6 (p2 := p) (g := w.heap.size) hx1).mono (b' := w.heap.size) (by omega))
    have HBE := hide (hbb.grown (grown6 w2 w.heap.size p) hbb.size (fun k hk => by injection hk with hk; omega))
    unfold put6 at HOW HBE hblk
    obtain ⟨q0, q1, q2, q3, q4, q5⟩ := box_cells hblk
    clear hblk HX1 HX2 HB1 hb2 hbb ho2 hv2 HN
    obtain ⟨dev, dA, dn, dc, sto, sA, sn, sc, map, mA, mn, mc, heat, hA, hn, hc, seq, zone⟩ := p
    simp only at HOW HBE q0 q1 q2 q3 q4 q5
    unfold Vq.val
    simp only
    go_wp2
    generalize (((((w2.setCell ⟨w.heap.size, 0, none⟩ (.slice dA dn dc)).setCell ⟨w.heap.size, 1, none⟩ (.slice sA sn sc)).setCell ⟨w.heap.size, 2, none⟩ (.slice mA mn mc)).setCell ⟨w.heap.size, 3, none⟩ (.slice hA hn hc)).setCell ⟨w.heap.size, 4, none⟩ (.int .i64 seq)).setCell ⟨w.heap.size, 5, none⟩ (.int .i64 zone) = W9 at HOW HBE q0 q1 q2 q3 q4 q5 ⊢
    refine bodyPost_ret (v := .tuple #[.agg #[.slice dA dn dc, .slice sA sn sc, .slice mA mn mc, .slice hA hn hc, .int .i64 seq, .int .i64 zone], .int .i64 0]) (by simp [results, Tryz.results11, go_sem, q0, q1, q2, q3, q4, q5]) rfl ?_
    exact ⟨_, rfl, HOW.out, HVO.out, HBE.out⟩
end Go.Proofs.YtfianpjoifcphaaGreat

/- FrameM -/
namespace Go.Proofs.YtfianpjoifcphaaGreat
open Go.RowKit
set_option linter.unusedVariables false
set_option maxRecDepth 100000

theorem goodF_parts {xs : List Int} {n : Nat} {p : Int} (h : goodF xs n p) : ∃ a m : Nat, p = a ∧ xs.getD (a + 2) 0 = (m : Int) ∧ a + 4 + m ≤ n ∧
    validF (xs.getD a 0) (xs.getD (a + 1) 0) (cutW xs (a + 3) m) = true ∧ xs.getD (a + 3 + m) 0 = sumFrom 7 (cutW xs a (3 + m)) := by
  obtain ⟨⟨e0, e1, e2, e3⟩, hv, hs⟩ := h
  obtain ⟨a, rfl⟩ := Int.eq_ofNat_of_zero_le e0
  simp only [Int.toNat_natCast, bodyAt] at e2 e3 hv hs
  obtain ⟨m, hm⟩ := Int.eq_ofNat_of_zero_le e2
  rw [hm] at hv hs e3
  simp only [Int.toNat_natCast] at hv hs
  exact ⟨a, m, rfl, hm, by omega, hv, hs⟩

theorem cutW_snoc (xs : List Int) (a m : Nat) (h : a + m < xs.length) : cutW xs a (m + 1) = cutW xs a m ++ [xs.getD (a + m) 0] := by
  unfold cutW
  rw [List.take_succ_eq_append_getElem (by rw [List.length_drop]; omega)]
  simp [List.getD, h]

theorem cutW_app (pre xs post : List Int) (p a m L : Nat) (hp : pre.length = p) (hL : a + m ≤ L) (hl : L ≤ xs.length) : cutW (pre ++ xs.take L ++ post) (p + a) m = cutW xs a m := by
  unfold cutW
  rw [List.append_assoc, ← List.drop_drop, ← hp, List.drop_left, List.drop_append_of_le_length (by rw [List.length_take]; omega), List.take_append_of_le_length (by rw [List.length_drop, List.length_take]; omega),
    List.drop_take, List.take_take]
  congr 1
  omega

theorem getD_app (pre xs post : List Int) (p j L : Nat) (hp : pre.length = p) (hL : j < L) (hl : L ≤ xs.length) : (pre ++ xs.take L ++ post).getD (p + j) 0 = xs.getD j 0 := by
  rw [List.append_assoc, List.getD, List.getElem?_append_right (by omega), hp, Nat.add_sub_cancel_left, List.getElem?_append_left (by rw [List.length_take]; omega), List.getElem?_take_of_lt hL]
  rfl

/-- the frame at a place, written again, is its words -/
theorem put_at {xs : List Int} {a m : Nat} (hl : a + 4 + m ≤ xs.length) (hm : xs.getD (a + 2) 0 = (m : Int)) (hv : validF (xs.getD a 0) (xs.getD (a + 1) 0) (cutW xs (a + 3) m) = true)
    (hs : xs.getD (a + 3 + m) 0 = sumFrom 7 (cutW xs a (3 + m))) : putF (xs.getD a 0) (xs.getD (a + 1) 0) (cutW xs (a + 3) m) = cutW xs a (4 + m) := by
  rw [putF, if_pos hv, ← cut_head hl hm, show 4 + m = 3 + m + 1 by omega, cutW_snoc _ _ _ (by omega), ← hs, show a + (3 + m) = a + 3 + m by omega]

theorem set_getD_ne (xs : List Int) (k j : Nat) (x : Int) (h : k ≠ j) : (xs.set k x).getD j 0 = xs.getD j 0 := by simp [List.getD, h]
theorem set_getD_eq (xs : List Int) (k : Nat) (x : Int) (h : k < xs.length) : (xs.set k x).getD k 0 = x := by simp [List.getD, h]

/-- a changed word of a frame, not its number of words, is noticed -/
theorem change_bad {xs : List Int} {a m k : Nat} (hl : a + 4 + m ≤ xs.length) (hm : xs.getD (a + 2) 0 = (m : Int)) (hv : validF (xs.getD a 0) (xs.getD (a + 1) 0) (cutW xs (a + 3) m) = true)
    (hs : xs.getD (a + 3 + m) 0 = sumFrom 7 (cutW xs a (3 + m))) (h1 : a ≤ k) (h2 : k < a + 4 + m) (h3 : k ≠ a + 2) : ¬ goodF (xs.set k (xs.getD k 0 + 1)) xs.length (a : Int) := by
  intro hg
  obtain ⟨a', m', ha, hm', hl', hv', hs'⟩ := goodF_parts hg
  obtain rfl : a = a' := by omega
  rw [set_getD_ne _ _ _ _ h3, hm] at hm'
  obtain rfl : m = m' := by omega
  by_cases hk : k = a + 3 + m
  · subst hk
    rw [set_getD_eq _ _ _ (by omega), hs] at hs'
    have : cutW (xs.set (a + 3 + m) (sumFrom 7 (cutW xs a (3 + m)) + 1)) a (3 + m) = cutW xs a (3 + m) := by
      unfold cutW
      rw [List.drop_set, if_neg (by omega), List.take_set_of_le (by omega)]
    rw [this] at hs'
    omega
  · rw [set_getD_ne _ _ _ _ hk, hs] at hs'
    have e : cutW (xs.set k (xs.getD k 0 + 1)) a (3 + m) = (cutW xs a (3 + m)).set (k - a) ((cutW xs a (3 + m)).getD (k - a) 0 + 1) := by
      rw [cutW_getD _ _ _ _ (by omega), show a + (k - a) = k by omega]
      unfold cutW
      rw [List.drop_set, if_neg (by omega), List.take_set]
    rw [e] at hs'
    have ha := allW_head hv
    rw [← cut_head hl hm] at ha
    have hr := sumFrom_rng _ 7 (by omega) (by omega) ha
    exact sum_change (cutW xs a (3 + m)) (k - a) (by rw [cutW_length _ _ _ (by omega)]; omega) hr.1 hs'.symm

/-- words cut ahead of a frame's last one have no frame there -/
theorem short_bad {xs : List Int} {a m : Nat} (hm : xs.getD (a + 2) 0 = (m : Int)) : ¬ goodF (xs.take (a + 3 + m)) (a + 3 + m) (a : Int) := by
  intro hg
  obtain ⟨⟨e0, e1, e2, e3⟩, _⟩ := hg
  simp only [Int.toNat_natCast] at e2 e3
  rw [getD_take' _ _ _ (by omega), hm] at e3
  omega
end Go.Proofs.YtfianpjoifcphaaGreat

/- ScnM -/
namespace Go.Proofs.YtfianpjoifcphaaGreat
open Go.RowKit
set_option linter.unusedVariables false
set_option maxRecDepth 100000

/-- the words of the body of the frame at a -/
def lenAt (xs : List Int) (a : Nat) : Nat := (xs.getD (a + 2) 0).toNat
/-- the frame at a, in zone z -/
def fnAt (z : Int) (xs : List Int) (a : Nat) : Fn := (z, (a : Int), xs.getD a 0, xs.getD (a + 1) 0, cutW xs (a + 3) (lenAt xs a))
open Classical in
noncomputable def scanF (z : Int) (xs : List Int) : Nat → Nat → List Fn × Nat
  | 0, a => ([], a)
  | k + 1, a => if goodF xs xs.length (a : Int) then (fnAt z xs a :: (scanF z xs k (a + 4 + lenAt xs a)).1, (scanF z xs k (a + 4 + lenAt xs a)).2) else ([], a)
noncomputable def scanW (z : Int) (xs : List Int) (a : Nat) : List Fn × Nat := scanF z xs (xs.length - a) a

theorem good_len {xs : List Int} {a : Nat} (h : goodF xs xs.length (a : Int)) : a + 4 + lenAt xs a ≤ xs.length ∧ xs.getD (a + 2) 0 = (lenAt xs a : Int) ∧
    validF (xs.getD a 0) (xs.getD (a + 1) 0) (cutW xs (a + 3) (lenAt xs a)) = true ∧ xs.getD (a + 3 + lenAt xs a) 0 = sumFrom 7 (cutW xs a (3 + lenAt xs a)) := by
  obtain ⟨a', m, ha, hm, hl, hv, hs⟩ := goodF_parts h
  obtain rfl : a = a' := by omega
  have e : lenAt xs a = m := by unfold lenAt; rw [hm]; rfl
  rw [e]
  exact ⟨hl, hm, hv, hs⟩
theorem good_of {xs : List Int} {a m : Nat} (hl : a + 4 + m ≤ xs.length) (hm : xs.getD (a + 2) 0 = (m : Int)) (hv : validF (xs.getD a 0) (xs.getD (a + 1) 0) (cutW xs (a + 3) m) = true)
    (hs : xs.getD (a + 3 + m) 0 = sumFrom 7 (cutW xs a (3 + m))) : goodF xs xs.length (a : Int) := by
  refine ⟨⟨by omega, by omega, ?_, ?_⟩, ?_, ?_⟩
  · rw [Int.toNat_natCast, hm]; omega
  · rw [Int.toNat_natCast, hm]; omega
  · rw [Int.toNat_natCast, bodyAt, Int.toNat_natCast, hm]; exact hv
  · rw [Int.toNat_natCast, hm]; exact hs
theorem good_ext (n : Nat) {xs : List Int} {a : Nat} (h : ¬ goodF xs xs.length (a : Int)) (hn : xs.length = n) : ¬ goodF xs n (a : Int) := by rw [← hn]; exact h

/-- the fuel does not matter once it is enough -/
theorem scanF_fuel (z : Int) (xs : List Int) : ∀ (k k' a : Nat), xs.length - a ≤ k → xs.length - a ≤ k' → scanF z xs k a = scanF z xs k' a := by
  intro k
  induction k with
  | zero =>
    intro k' a h h'
    rcases k' with _ | k'
    · rfl
    · have : ¬ goodF xs xs.length (a : Int) := fun hg => by have := (good_len hg).1; omega
      rw [scanF, scanF, if_neg this]
  | succ k ih =>
    intro k' a h h'
    by_cases hg : goodF xs xs.length (a : Int)
    · have hl := (good_len hg).1
      rcases k' with _ | k'
      · omega
      · rw [scanF, scanF, if_pos hg, if_pos hg, ih k' (a + 4 + lenAt xs a) (by omega) (by omega)]
    · rcases k' with _ | k'
      · rw [scanF, scanF, if_neg hg]
      · rw [scanF, scanF, if_neg hg, if_neg hg]
theorem scanW_yes (z : Int) {xs : List Int} {a : Nat} (hg : goodF xs xs.length (a : Int)) :
    scanW z xs a = (fnAt z xs a :: (scanW z xs (a + 4 + lenAt xs a)).1, (scanW z xs (a + 4 + lenAt xs a)).2) := by
  have hl := (good_len hg).1
  obtain ⟨k, hk⟩ : ∃ k, xs.length - a = k + 1 := ⟨xs.length - a - 1, by omega⟩
  unfold scanW
  rw [hk, scanF, if_pos hg, scanF_fuel z xs k (xs.length - (a + 4 + lenAt xs a)) _ (by omega) (by omega)]
theorem scanW_no (z : Int) {xs : List Int} {a : Nat} (hg : ¬ goodF xs xs.length (a : Int)) : scanW z xs a = ([], a) := by
  unfold scanW
  rcases xs.length - a with _ | k
  · rfl
  · rw [scanF, if_neg hg]
theorem scanW_past (z : Int) {xs : List Int} {a : Nat} (h : xs.length ≤ a) : scanW z xs a = ([], a) := scanW_no z (fun hg => by have := (good_len hg).1; omega)

/-- a way to show a fact of a scan: where no frame begins, and ahead of a frame -/
theorem scan_ind {xs : List Int} {P : Nat → Prop} (hno : ∀ a : Nat, ¬ goodF xs xs.length (a : Int) → P a) (hyes : ∀ a : Nat, goodF xs xs.length (a : Int) → P (a + 4 + lenAt xs a) → P a) : ∀ a : Nat, P a := by
  have : ∀ k a : Nat, xs.length - a ≤ k → P a := by
    intro k
    induction k with
    | zero => intro a h; exact hno a (fun hg => by have := (good_len hg).1; omega)
    | succ k ih =>
      intro a h
      by_cases hg : goodF xs xs.length (a : Int)
      · exact hyes a hg (ih _ (by have := (good_len hg).1; omega))
      · exact hno a hg
  exact fun a => this _ a (Nat.le_refl _)

theorem scan_ge (z : Int) (xs : List Int) : ∀ a, a ≤ (scanW z xs a).2 :=
  scan_ind (fun a h => by rw [scanW_no z h]; exact Nat.le_refl _) (fun a h ih => by rw [scanW_yes z h]; simp only at ih ⊢; omega)
theorem scan_le (z : Int) (xs : List Int) : ∀ a, a ≤ xs.length → (scanW z xs a).2 ≤ xs.length :=
  scan_ind (fun a h ha => by rw [scanW_no z h]; exact ha) (fun a h ih ha => by rw [scanW_yes z h]; exact ih (good_len h).1)
theorem scan_end (z : Int) (xs : List Int) : ∀ a, ¬ goodF xs xs.length ((scanW z xs a).2 : Int) :=
  scan_ind (fun a h => by rw [scanW_no z h]; exact h) (fun a h ih => by rw [scanW_yes z h]; exact ih)
theorem scan_count (z : Int) (xs : List Int) : ∀ a, (scanW z xs a).1.length * 5 ≤ xs.length - a :=
  scan_ind (fun a h => by rw [scanW_no z h]; simp) (fun a h ih => by
    have hl := good_len h
    have h1 := (validF_iff.1 hl.2.2.1).2.2.1.1
    rw [cutW_length _ _ _ (by omega)] at h1
    rw [scanW_yes z h]
    simp only [List.length_cons] at ih ⊢
    omega)
/-- each frame that is found is a frame of its place -/
theorem scan_mem (z : Int) (xs : List Int) : ∀ a, ∀ f ∈ (scanW z xs a).1, ∃ b : Nat, goodF xs xs.length (b : Int) ∧ f = fnAt z xs b :=
  scan_ind (fun a h => by rw [scanW_no z h]; simp) (fun a h ih => by
    rw [scanW_yes z h]
    intro f hf
    simp only [List.mem_cons] at hf
    rcases hf with rfl | hf
    · exact ⟨a, h, rfl⟩
    · exact ih f hf)

/-- the words of frames, one behind the other -/
def putsF : List Fn → List Int
  | [] => []
  | f :: fs => putF f.2.2.1 f.2.2.2.1 f.2.2.2.2 ++ putsF fs
/-- the frames that were found lie one behind the other from a on, each where the words ahead of it end -/
theorem scan_puts (z : Int) (xs : List Int) : ∀ a, a ≤ xs.length → xs.take a ++ putsF (scanW z xs a).1 = xs.take (scanW z xs a).2 :=
  scan_ind (fun a h _ => by rw [scanW_no z h]; simp [putsF]) (fun a h ih ha => by
    obtain ⟨hl, hm, hv, hs⟩ := good_len h
    rw [scanW_yes z h]
    simp only [putsF, fnAt]
    rw [put_at hl hm hv hs, ← List.append_assoc, ← ih hl]
    congr 1
    unfold cutW
    rw [show a + 4 + lenAt xs a = a + (4 + lenAt xs a) by omega]
    exact List.take_add.symm)
/-- the same frame by frame: frame k begins where the words of those ahead of it end -/
theorem scan_word (z : Int) (xs : List Int) : ∀ a, a ≤ xs.length → ∀ (k : Nat) (f : Fn), (scanW z xs a).1[k]? = some f → f.1 = z ∧ f.2.1 = ((a + (putsF ((scanW z xs a).1.take k)).length : Nat) : Int) :=
  scan_ind (fun a h _ k f hk => by rw [scanW_no z h] at hk; simp at hk) (fun a h ih ha k f hk => by
    obtain ⟨hl, hm, hv, hs⟩ := good_len h
    rw [scanW_yes z h] at hk ⊢
    rcases k with _ | k
    · simp at hk
      subst hk
      simp [fnAt, putsF]
    · simp only [List.getElem?_cons_succ] at hk
      obtain ⟨h1, h2⟩ := ih hl k f hk
      refine ⟨h1, h2.trans ?_⟩
      simp only [List.take_succ_cons, putsF, fnAt]
      rw [put_at hl hm hv hs, List.length_append, cutW_length _ _ _ (by omega)]
      congr 1
      omega)

/-! ### Words that are cut -/
theorem good_take {xs : List Int} {a k : Nat} (hk : k ≤ xs.length) : goodF (xs.take k) (xs.take k).length (a : Int) ↔ goodF xs xs.length (a : Int) ∧ a + 4 + lenAt xs a ≤ k := by
  have hlen : (xs.take k).length = k := by rw [List.length_take]; omega
  have gd : ∀ j, j < k → (xs.take k).getD j 0 = xs.getD j 0 := fun j hj => by rw [getD_take' _ _ _ hj]
  have ct : ∀ j m, j + m ≤ k → cutW (xs.take k) j m = cutW xs j m := by
    intro j m hj
    unfold cutW
    rw [List.drop_take, List.take_take, Nat.min_eq_left (by omega)]
  constructor
  · intro h
    obtain ⟨hl, hm, hv, hs⟩ := good_len h
    rw [hlen] at hl
    generalize lenAt (xs.take k) a = m at hl hm hv hs
    rw [gd _ (by omega)] at hm
    rw [gd _ (by omega), gd _ (by omega), ct _ _ (by omega)] at hv
    rw [gd _ (by omega), ct _ _ (by omega)] at hs
    have e : lenAt xs a = m := by unfold lenAt; rw [hm]; rfl
    exact ⟨good_of (by omega) hm hv hs, by rw [e]; exact hl⟩
  · rintro ⟨h, hl2⟩
    obtain ⟨hl, hm, hv, hs⟩ := good_len h
    generalize lenAt xs a = m at hl hm hv hs hl2
    refine good_of (m := m) (by omega) ?_ ?_ ?_
    · rw [gd _ (by omega)]; exact hm
    · rw [gd _ (by omega), gd _ (by omega), ct _ _ (by omega)]; exact hv
    · rw [gd _ (by omega), ct _ _ (by omega)]; exact hs
theorem fnAt_take (z : Int) {xs : List Int} {a k : Nat} (hk : k ≤ xs.length) (hl : a + 4 + lenAt xs a ≤ k) : lenAt (xs.take k) a = lenAt xs a ∧ fnAt z (xs.take k) a = fnAt z xs a := by
  have gd : ∀ j, j < k → (xs.take k).getD j 0 = xs.getD j 0 := fun j hj => by rw [getD_take' _ _ _ hj]
  have e : lenAt (xs.take k) a = lenAt xs a := by unfold lenAt; rw [gd _ (by omega)]
  refine ⟨e, ?_⟩
  unfold fnAt
  rw [e, gd _ (by omega), gd _ (by omega)]
  unfold cutW
  rw [List.drop_take, List.take_take, Nat.min_eq_left (by omega)]
theorem scan_take (z : Int) {xs : List Int} {k : Nat} (hk : k ≤ xs.length) : ∀ a, a ≤ k → ((scanW z (xs.take k) a).2 ≤ k ∧ (∃ n, (scanW z (xs.take k) a).1 = (scanW z xs a).1.take n) ∧
    ((scanW z xs a).2 ≤ k → (scanW z (xs.take k) a).1 = (scanW z xs a).1)) := by
  refine scan_ind (xs := xs) (fun a h ha => ?_) (fun a h ih ha => ?_)
  · have h' : ¬ goodF (xs.take k) (xs.take k).length (a : Int) := fun hg => h ((good_take hk).1 hg).1
    rw [scanW_no z h', scanW_no z h]
    exact ⟨ha, ⟨0, by simp⟩, fun _ => rfl⟩
  · by_cases hl : a + 4 + lenAt xs a ≤ k
    · have h' := (good_take hk).2 ⟨h, hl⟩
      obtain ⟨e1, e2⟩ := fnAt_take z hk hl
      rw [scanW_yes z h', scanW_yes z h, e1, e2]
      obtain ⟨i1, ⟨n, i2⟩, i3⟩ := ih hl
      refine ⟨i1, ⟨n + 1, by simp [i2]⟩, fun hle => by simp only at hle ⊢; rw [i3 hle]⟩
    · have h' : ¬ goodF (xs.take k) (xs.take k).length (a : Int) := fun hg => hl ((good_take hk).1 hg).2
      rw [scanW_no z h', scanW_yes z h]
      refine ⟨ha, ⟨0, by simp⟩, fun hle => ?_⟩
      have := scan_ge z xs (a + 4 + lenAt xs a)
      simp only at hle
      omega

/-! ### Frames ordered by their numbers -/
def seqOf (f : Fn) : Int := f.2.2.2.1
/-- behind all that do not have a greater number, from the end on -/
def placeF (fs : List Fn) (x : Fn) : Nat → Nat
  | 0 => 0
  | k + 1 => if seqOf x < seqOf (fs.getD k (0, 0, 0, 0, [])) then placeF fs x k else k + 1
def insF (fs : List Fn) (x : Fn) : List Fn := fs.take (placeF fs x fs.length) ++ x :: fs.drop (placeF fs x fs.length)
def insAll (fs gs : List Fn) : List Fn := gs.foldl insF fs
def orderF (zs : List (List Fn)) : List Fn := zs.foldl insAll []
/-- numbers do not descend -/
def ascF (fs : List Fn) : Prop := fs.Pairwise fun f g => seqOf f ≤ seqOf g
theorem placeF_le (fs : List Fn) (x : Fn) (k : Nat) : placeF fs x k ≤ k := by
  induction k with
  | zero => exact Nat.le_refl _
  | succ k ih => unfold placeF; split <;> omega
theorem insF_length (fs : List Fn) (x : Fn) : (insF fs x).length = fs.length + 1 := by
  have := placeF_le fs x fs.length
  simp [insF]
  omega
theorem insF_mem (fs : List Fn) (x f : Fn) : f ∈ insF fs x ↔ f = x ∨ f ∈ fs := by
  unfold insF
  have e : f ∈ fs ↔ f ∈ fs.take (placeF fs x fs.length) ∨ f ∈ fs.drop (placeF fs x fs.length) := by rw [← List.mem_append, List.take_append_drop]
  rw [List.mem_append, List.mem_cons, e]
  exact or_left_comm
theorem placeF_spec {fs : List Fn} {x : Fn} (h : ascF fs) : ∀ k, k ≤ fs.length → (∀ (j : Nat) (f : Fn), j < placeF fs x k → fs[j]? = some f → seqOf f ≤ seqOf x) ∧
    ∀ (j : Nat) (f : Fn), placeF fs x k ≤ j → j < k → fs[j]? = some f → seqOf x < seqOf f := by
  intro k
  induction k with
  | zero => intro _; exact ⟨fun j f hj => absurd hj (by simp [placeF]), fun j f _ hj => absurd hj (by omega)⟩
  | succ k ih =>
    intro hk
    obtain ⟨i1, i2⟩ := ih (by omega)
    have hg : fs[k]? = some (fs.getD k (0, 0, 0, 0, [])) := by simp [List.getD, show k < fs.length by omega]
    unfold placeF
    by_cases hx : seqOf x < seqOf (fs.getD k (0, 0, 0, 0, []))
    · rw [if_pos hx]
      refine ⟨i1, fun j f h1 h2 h3 => ?_⟩
      rcases Nat.lt_or_ge j k with h4 | h4
      · exact i2 j f h1 h4 h3
      · obtain rfl : j = k := by omega
        rw [hg] at h3
        injection h3 with h3
        rw [← h3]
        exact hx
    · rw [if_neg hx]
      refine ⟨fun j f h1 h3 => ?_, fun j f h1 h2 _ => absurd h1 (by omega)⟩
      rcases Nat.lt_or_ge j k with h4 | h4
      · have hp := List.pairwise_iff_getElem.1 h j k (by omega) (by omega) h4
        rw [List.getElem?_eq_getElem (show j < fs.length by omega)] at h3
        rw [List.getElem?_eq_getElem (show k < fs.length by omega)] at hg
        injection h3 with h3
        injection hg with hg
        rw [h3, hg] at hp
        omega
      · obtain rfl : j = k := by omega
        rw [hg] at h3
        injection h3 with h3
        rw [← h3]
        omega
theorem insF_asc {fs : List Fn} {x : Fn} (h : ascF fs) : ascF (insF fs x) := by
  obtain ⟨h1, h2⟩ := placeF_spec (x := x) h fs.length (Nat.le_refl _)
  have hl := placeF_le fs x fs.length
  unfold ascF insF
  have ht : ∀ f ∈ fs.take (placeF fs x fs.length), seqOf f ≤ seqOf x := by
    intro f hf
    obtain ⟨j, hj⟩ := List.getElem?_of_mem hf
    have hlt : j < placeF fs x fs.length := by
      have := (List.getElem?_eq_some_iff.1 hj).1
      rw [List.length_take] at this
      omega
    rw [List.getElem?_take_of_lt hlt] at hj
    exact h1 j f hlt hj
  have hd : ∀ f ∈ fs.drop (placeF fs x fs.length), seqOf x ≤ seqOf f := by
    intro f hf
    obtain ⟨j, hj⟩ := List.getElem?_of_mem hf
    rw [List.getElem?_drop] at hj
    have := (List.getElem?_eq_some_iff.1 hj).1
    exact Int.le_of_lt (h2 _ f (by omega) this hj)
  refine List.pairwise_append.2 ⟨List.Pairwise.sublist (List.take_sublist _ _) h, List.pairwise_cons.2 ⟨hd, List.Pairwise.sublist (List.drop_sublist _ _) h⟩, fun f hf g hg => ?_⟩
  simp only [List.mem_cons] at hg
  rcases hg with rfl | hg
  · exact ht f hf
  · exact Int.le_trans (ht f hf) (hd g hg)
theorem insAll_asc (gs : List Fn) : ∀ fs, ascF fs → ascF (insAll fs gs) := by
  induction gs with
  | nil => intro fs h; exact h
  | cons g gs ih => intro fs h; exact ih _ (insF_asc h)
theorem foldAll_asc (zs : List (List Fn)) : ∀ fs, ascF fs → ascF (zs.foldl insAll fs) := by
  induction zs with
  | nil => intro fs h; exact h
  | cons g gs ih => intro fs h; exact ih _ (insAll_asc g _ h)
theorem orderF_asc (zs : List (List Fn)) : ascF (orderF zs) := foldAll_asc zs [] List.Pairwise.nil
theorem insAll_length (gs : List Fn) : ∀ fs, (insAll fs gs).length = fs.length + gs.length := by
  induction gs with
  | nil => intro fs; rfl
  | cons g gs ih => intro fs; show (insAll (insF fs g) gs).length = _; rw [ih, insF_length]; simp; omega
theorem insAll_mem (gs : List Fn) (f : Fn) : ∀ fs, f ∈ insAll fs gs ↔ f ∈ gs ∨ f ∈ fs := by
  induction gs with
  | nil => intro fs; simp [insAll]
  | cons g gs ih =>
    intro fs
    show f ∈ insAll (insF fs g) gs ↔ _
    rw [ih, insF_mem, List.mem_cons, or_left_comm, or_assoc]
theorem insAll_append (fs gs hs : List Fn) : insAll fs (gs ++ hs) = insAll (insAll fs gs) hs := by unfold insAll; rw [List.foldl_append]
theorem insAll_step (fs gs : List Fn) (g : Fn) : insAll fs (gs ++ [g]) = insF (insAll fs gs) g := by rw [insAll_append]; rfl
theorem orderF_step (zs : List (List Fn)) (gs : List Fn) : orderF (zs ++ [gs]) = insAll (orderF zs) gs := by unfold orderF; rw [List.foldl_append]; rfl
def sumL : List (List Fn) → Nat
  | [] => 0
  | g :: gs => g.length + sumL gs
theorem foldAll_length (zs : List (List Fn)) : ∀ fs, (zs.foldl insAll fs).length = fs.length + sumL zs := by
  induction zs with
  | nil => intro fs; rfl
  | cons g gs ih => intro fs; rw [List.foldl_cons, ih, insAll_length, sumL]; omega
theorem orderF_length (zs : List (List Fn)) : (orderF zs).length = sumL zs := by unfold orderF; rw [foldAll_length]; simp
theorem foldAll_mem (zs : List (List Fn)) (f : Fn) : ∀ fs, f ∈ zs.foldl insAll fs ↔ (∃ g ∈ zs, f ∈ g) ∨ f ∈ fs := by
  induction zs with
  | nil => intro fs; simp
  | cons g gs ih =>
    intro fs
    rw [List.foldl_cons, ih, insAll_mem, ← or_assoc]
    simp only [List.mem_cons, exists_eq_or_imp, or_comm]
theorem orderF_mem (zs : List (List Fn)) (f : Fn) : f ∈ orderF zs ↔ ∃ g ∈ zs, f ∈ g := by unfold orderF; rw [foldAll_mem]; simp
end Go.Proofs.YtfianpjoifcphaaGreat

/- ScnA -/
namespace Go.Proofs.YtfianpjoifcphaaGreat
open Go.RowKit
set_option linter.unusedVariables false
set_option maxRecDepth 100000

theorem putF_yes {k s : Int} {body : List Int} (hv : validF k s body = true) : putF k s body = headF k s body ++ [sumFrom 7 (headF k s body)] := by unfold putF; rw [if_pos hv]
theorem putF_lenA {k s : Int} {body : List Int} (hv : validF k s body = true) : (putF k s body).length = body.length + 4 := by
  rw [putF_yes hv]
  simp [headF]
theorem getD_right (xs ws : List Int) (j : Nat) : (xs ++ ws).getD (xs.length + j) 0 = ws.getD j 0 := by
  simp only [List.getD]
  rw [List.getElem?_append_right (by omega), Nat.add_sub_cancel_left]
theorem cutW_right (xs ws : List Int) (j m : Nat) : cutW (xs ++ ws) (xs.length + j) m = cutW ws j m := by
  unfold cutW
  rw [← List.drop_drop, List.drop_left]
theorem cutW_putF {k s : Int} {body : List Int} (hv : validF k s body = true) : cutW (putF k s body) 3 body.length = body ∧ cutW (putF k s body) 0 (3 + body.length) = headF k s body := by
  rw [putF_yes hv]
  refine ⟨?_, ?_⟩
  · unfold cutW headF
    simp
  · unfold cutW
    rw [List.drop_zero, List.take_append_of_le_length (by simp [headF]; omega), List.take_of_length_le (by simp [headF]; omega)]
/-- the frame that was appended -/
theorem good_end (z : Int) (xs : List Int) {k s : Int} {body : List Int} (hv : validF k s body = true) :
    goodF (xs ++ putF k s body) (xs ++ putF k s body).length (xs.length : Int) ∧ lenAt (xs ++ putF k s body) xs.length = body.length ∧ fnAt z (xs ++ putF k s body) xs.length = (z, (xs.length : Int), k, s, body) := by
  have h0 : (xs ++ putF k s body).getD xs.length 0 = k := by
    have := getD_right xs (putF k s body) 0
    rw [Nat.add_zero] at this
    rw [this, putF_yes hv]; rfl
  have h1 : (xs ++ putF k s body).getD (xs.length + 1) 0 = s := by rw [getD_right, putF_yes hv]; rfl
  have h2 : (xs ++ putF k s body).getD (xs.length + 2) 0 = (body.length : Int) := by rw [getD_right, putF_yes hv]; rfl
  have hc := cutW_putF hv
  have h3 : cutW (xs ++ putF k s body) (xs.length + 3) body.length = body := by rw [cutW_right]; exact hc.1
  have h4 : cutW (xs ++ putF k s body) xs.length (3 + body.length) = headF k s body := by
    have := cutW_right xs (putF k s body) 0 (3 + body.length)
    rw [Nat.add_zero] at this
    rw [this]; exact hc.2
  have hl : lenAt (xs ++ putF k s body) xs.length = body.length := by unfold lenAt; rw [h2]; rfl
  refine ⟨good_of (m := body.length) (by rw [List.length_append, putF_lenA hv]; omega) h2 (by rw [h0, h1, h3]; exact hv) ?_, hl, ?_⟩
  · rw [h4, show xs.length + 3 + body.length = xs.length + (3 + body.length) by omega, getD_right, putF_yes hv]
    have hh : (headF k s body).length = 3 + body.length := by simp [headF]; omega
    simp only [List.getD]
    rw [List.getElem?_append_right (by omega), hh, Nat.sub_self]
    rfl
  · unfold fnAt
    rw [hl, h0, h1, h3]
theorem scan_append (z : Int) (xs : List Int) {k s : Int} {body : List Int} (hv : validF k s body = true) : ∀ a, a ≤ xs.length → (scanW z xs a).2 = xs.length →
    scanW z (xs ++ putF k s body) a = ((scanW z xs a).1 ++ [(z, (xs.length : Int), k, s, body)], (xs ++ putF k s body).length) := by
  have htk : (xs ++ putF k s body).take xs.length = xs := List.take_left
  have hle : xs.length ≤ (xs ++ putF k s body).length := by rw [List.length_append]; omega
  have hend := good_end z xs hv
  have hlen : (xs ++ putF k s body).length = xs.length + 4 + body.length := by rw [List.length_append, putF_lenA hv]; omega
  refine scan_ind (xs := xs) (fun a h ha he => ?_) (fun a h ih ha he => ?_)
  · rw [scanW_no z h] at he ⊢
    simp only at he
    subst he
    rw [scanW_yes z hend.1, hend.2.1, hend.2.2, scanW_past z (by rw [hlen]; exact Nat.le_refl _), hlen]
    rfl
  · have h2 : goodF ((xs ++ putF k s body).take xs.length) ((xs ++ putF k s body).take xs.length).length (a : Int) := by rw [htk]; exact h
    obtain ⟨hg, hla⟩ := (good_take hle).1 h2
    obtain ⟨e1, e2⟩ := fnAt_take z hle hla
    rw [htk] at e1 e2
    rw [scanW_yes z h] at he ⊢
    simp only at he
    rw [scanW_yes z hg, ← e1, ← e2, ih (good_len h).1 he]
    rfl

/-! ### one more frame, with the greatest number -/
theorem placeF_last {fs : List Fn} {f x : Fn} (hx : seqOf x < seqOf f) : placeF (fs ++ [f]) x (fs ++ [f]).length = placeF fs x fs.length := by
  have key : ∀ k, k ≤ fs.length → placeF (fs ++ [f]) x k = placeF fs x k := by
    intro k
    induction k with
    | zero => intro _; rfl
    | succ k ih =>
      intro hk
      unfold placeF
      have e : (fs ++ [f]).getD k (0, 0, 0, 0, []) = fs.getD k (0, 0, 0, 0, []) := by simp [List.getD, List.getElem?_append_left (show k < fs.length by omega)]
      rw [e, ih (by omega)]
  rw [List.length_append, List.length_cons, List.length_nil]
  show (if seqOf x < seqOf ((fs ++ [f]).getD fs.length (0, 0, 0, 0, [])) then placeF (fs ++ [f]) x fs.length else fs.length + 1) = _
  have e : (fs ++ [f]).getD fs.length (0, 0, 0, 0, []) = f := by simp [List.getD]
  rw [e, if_pos hx, key _ (Nat.le_refl _)]
theorem insF_last {fs : List Fn} {f x : Fn} (hx : seqOf x < seqOf f) : insF (fs ++ [f]) x = insF fs x ++ [f] := by
  unfold insF
  have hp := placeF_le fs x fs.length
  rw [placeF_last hx, List.take_append_of_le_length hp, List.drop_append_of_le_length hp]
  simp
theorem insAll_last {f : Fn} : ∀ (gs fs : List Fn), (∀ g ∈ gs, seqOf g < seqOf f) → insAll (fs ++ [f]) gs = insAll fs gs ++ [f]
  | [], _, _ => rfl
  | g :: gs, fs, h => by
    show insAll (insF (fs ++ [f]) g) gs = insAll (insF fs g) gs ++ [f]
    rw [insF_last (h g (List.mem_cons_self ..))]
    exact insAll_last gs _ fun x hx => h x (List.mem_cons_of_mem _ hx)
theorem placeF_all {fs : List Fn} {x : Fn} (h : ∀ g ∈ fs, seqOf g ≤ seqOf x) : placeF fs x fs.length = fs.length := by
  cases hl : fs.length with
  | zero => rfl
  | succ k =>
    unfold placeF
    have hk : k < fs.length := by omega
    have e : fs.getD k (0, 0, 0, 0, []) = fs[k] := by simp [List.getD, hk]
    rw [e, if_neg]
    have := h _ (List.getElem_mem hk)
    omega
theorem insF_end {fs : List Fn} {x : Fn} (h : ∀ g ∈ fs, seqOf g ≤ seqOf x) : insF fs x = fs ++ [x] := by
  unfold insF
  rw [placeF_all h, List.take_length, List.drop_length]
theorem foldAll_last {f : Fn} : ∀ (zs : List (List Fn)) (fs : List Fn), (∀ g ∈ zs, ∀ x ∈ g, seqOf x < seqOf f) → zs.foldl insAll (fs ++ [f]) = zs.foldl insAll fs ++ [f]
  | [], _, _ => rfl
  | g :: zs, fs, h => by
    show zs.foldl insAll (insAll (fs ++ [f]) g) = zs.foldl insAll (insAll fs g) ++ [f]
    rw [insAll_last g fs (h g (List.mem_cons_self ..))]
    exact foldAll_last zs _ fun x hx => h x (List.mem_cons_of_mem _ hx)
/-- the frame is the last one of its zone, and has the greatest number of all -/
theorem orderF_more {us vs : List (List Fn)} {gs : List Fn} {f : Fn} (h : ∀ g ∈ us ++ gs :: vs, ∀ x ∈ g, seqOf x < seqOf f) : orderF (us ++ (gs ++ [f]) :: vs) = orderF (us ++ gs :: vs) ++ [f] := by
  unfold orderF
  rw [List.foldl_append, List.foldl_append, List.foldl_cons, List.foldl_cons]
  have h1 : insAll (us.foldl insAll []) (gs ++ [f]) = insAll (us.foldl insAll []) gs ++ [f] := by
    rw [insAll_step]
    refine insF_end fun x hx => ?_
    rw [insAll_mem, foldAll_mem] at hx
    rcases hx with hx | ⟨g, hg, hx⟩ | hx
    · exact Int.le_of_lt (h gs (by simp) x hx)
    · exact Int.le_of_lt (h g (by simp [hg]) x hx)
    · cases hx
  rw [h1]
  exact foldAll_last vs _ fun g hg => h g (by simp [hg])
/-- the map behind one more frame -/
theorem smap_more {fs : List Fn} {f : Fn} {ms : List Wh} (h : smap fs = some ms) (hok : apOk ms f.2.2.1 f.2.2.2.1 f.2.2.2.2 f.1 f.2.1 = true) (hs : ∀ g ∈ fs, seqOf g < seqOf f) : smap (fs ++ [f]) = some (apFn ms f) := by
  unfold smap at h ⊢
  rw [smF_snoc, h]
  simp only
  rw [if_pos]
  rw [okFn_iff]
  refine ⟨hok, ?_⟩
  rcases hl : fs.getLast? with _ | g
  · simp only [Option.map_none, Option.getD_none]
    exact ap_seq hok
  · simp only [Option.map_some, Option.getD_some]
    exact hs g (List.mem_of_getLast? hl)
end Go.Proofs.YtfianpjoifcphaaGreat

/- FrameU -/
namespace Go.Proofs.YtfianpjoifcphaaGreat
open Go.RowKit
set_option linter.unusedVariables false
set_option maxRecDepth 100000

theorem specGet_no (A : Option Addr) (n c : Nat) (p : Int) (xs : List Int) (w : World) (hi : Ints w w.heap.size A n xs) (hn : n ≤ c) (hc : c ≤ 9223372036854775807) (hn2 : n ≤ 17592186044416)
    (hp : p ≤ 9223372036854775807) (hno : ¬ goodF xs n p) :
    Calls Tryz.prog 215 #[.slice A n c, .int .i64 p] w fun e w' => e = .returned noFrame ∧ Below w.heap.size w w' := by
  by_cases h1 : p < 0 ∨ (n : Int) - 5 < p ∨ inB (xs.getD (p.toNat + 2) 0) 1 18 = false
  · exact specGet_early A n c p xs w hi hn hc hn2 hp h1
  · obtain ⟨a, rfl⟩ := Int.eq_ofNat_of_zero_le (show 0 ≤ p by omega)
    have h2 : inB (xs.getD (a + 2) 0) 1 18 = true := by
      rcases hb : inB (xs.getD (a + 2) 0) 1 18 with _ | _
      · exact absurd (.inr (.inr (by simpa using hb))) h1
      · rfl
    have h3 := inB_iff.1 h2
    obtain ⟨m, hm⟩ := Int.eq_ofNat_of_zero_le (show 0 ≤ xs.getD (a + 2) 0 by omega)
    rw [hm] at h2
    by_cases h4 : n < a + 4 + m
    · exact specGet_long A n c a m xs w hi hn hc hn2 (by omega) hm h2 h4
    · refine (specGet_deep A n c a m xs w hi hn hc hn2 hm h2 (by omega) _ _ _ rfl rfl rfl).mono ?_
      intro e w' h
      unfold DeepPost at h
      rw [if_neg (fun h' => hno ((good_parts hm (by omega)).2 h'))] at h
      exact h

theorem specGet_yes (A : Option Addr) (n c a m : Nat) (p : Int) (xs : List Int) (w : World) (hp : p = a) (hi : Ints w w.heap.size A n xs) (hn : n ≤ c) (hc : c ≤ 9223372036854775807) (hn2 : n ≤ 17592186044416)
    (hm : xs.getD (a + 2) 0 = (m : Int)) (hl : a + 4 + m ≤ n) (x0 x1 x3 : Int) (hx0 : xs.getD a 0 = x0) (hx1 : xs.getD (a + 1) 0 = x1) (hx3 : xs.getD (a + 3 + m) 0 = x3)
    (hv : validF x0 x1 (cutW xs (a + 3) m) = true) (hs : x3 = sumFrom 7 (cutW xs a (3 + m))) :
    Calls Tryz.prog 215 #[.slice A n c, .int .i64 p] w fun e w' => ∃ A2 c2, e = .returned (.tuple #[.agg #[.int .i64 x0, .int .i64 x1, .slice A2 m c2], .int .i64 ((a : Int) + 4 + m), .bool true]) ∧
      Own w' w.heap.size A2 m c2 (cutW xs (a + 3) m) ∧ Below w.heap.size w w' := by
  subst hp
  have h18 := (validF_iff.1 hv).2.2.1
  rw [cutW_length _ _ _ (by rw [hi.1]; omega)] at h18
  refine (specGet_deep A n c a m xs w hi hn hc hn2 hm (inB_true h18.1 h18.2) hl x0 x1 x3 hx0 hx1 hx3).mono ?_
  intro e w' h
  unfold DeepPost at h
  rw [if_pos ⟨hv, hs⟩] at h
  exact h
end Go.Proofs.YtfianpjoifcphaaGreat

/- SpecN1 -/
namespace Go.Proofs.YtfianpjoifcphaaGreat
open Go.RowKit
set_option linter.unusedVariables false
set_option maxRecDepth 100000

theorem below_undrewF {B : Nat} {a w : World} {i : Nat} (h : Below B (a.drewN i) w) : Below B a w := ⟨h.os, h.tape, h.output, h.size, h.block⟩
/-- behind 'append(out, x)', the frame in a new block -/
theorem below_app_f {B base n c : Nat} {a w w' : World} {A : Option Addr} {qs : List Fq} {o : Obj} (h : Below B a w) (hB : B ≤ w.heap.size) (hown : OwnF w base A n c qs) (hb : B ≤ base)
    (hg : (w.alloc o).grownBy w' (Value.slice A n c).ownBlock) : Below B a w' :=
  (h.alloc hB o).grown hg (by simp; omega) (fun k hk => by have := (hown.block k hk).1; omega)
theorem new_sepF {w : World} {base n c : Nat} {A : Option Addr} {qs : List Fq} (h : OwnF w base A n c qs) {q : Fq} (hq : ∀ g, q.sl.ownBlock = some g → w.heap.size ≤ g) :
    ∀ (k : Nat) (r : Fq), qs[k]? = some r → ∀ g, r.sl.ownBlock = some g → q.sl.ownBlock ≠ some g := by
  intro k r hk g hg e
  have h1 := (h.wblock hk g hg).2
  have h2 := hq g e
  omega

/-- what an append of a frame that FrameGet has given asks, with the frame in two new blocks -/
theorem NewF.got {w wr w1 : World} {A2 A3 : Option Addr} {j c2 c3 l : Nat} {rs : List Fq} {z a x0 x1 : Int} {body : List Int} (HO : OwnF wr w.heap.size A2 j c2 rs) (hs : w.heap.size ≤ wr.heap.size) (ho3 : Own w1 wr.heap.size A3 l c3 body)
    (hb3 : Below wr.heap.size wr w1) (hl : body.length = l) (o : Obj) (g : Nat) (hg : g = w1.heap.size + 1) :
    NewF ((w1.alloc o).alloc (.cells #[.int .i64 z, .int .i64 a, .int .i64 x0, .int .i64 x1, .slice A3 l c3] 156)) w.heap.size j A2 c2 rs (some ⟨g, 0, none⟩) 1 [⟨z, a, x0, x1, body, A3, c3⟩] := by
  subst hl hg
  have e : w1.heap.size + 1 = (w1.alloc o).heap.size := by simp
  rw [e]
  refine NewF.one (((HO.below hb3).alloc o).alloc _) (fnd_cells (w1.alloc o) ⟨z, a, x0, x1, body, A3, c3⟩) (((ho3.mono hs).alloc o).alloc _) (fun k r hk g hg e2 => ?_)
  have h1 := (HO.wblock hk g hg).2
  have h2 := (ho3.block g e2).1
  omega

/-- what is asked of a device's zone: its words can be read -/
theorem specScanL (A : Option Addr) (n c B k : Nat) (q : Zq) (qs : List Zq) (w : World) (hr : Zns w B A n qs) (hB : B ≤ w.heap.size) (hn : n ≤ 1000000000000) (hq : qs[k]? = some q) (hl : q.words.length ≤ 1000000) :
    Calls Tryz.prog 173 #[.slice A n c, .int .i64 k] w fun e w' => ∃ A2 c2 m rs, e = .returned (.tuple #[.slice A2 m c2, .int .i64 ((scanW k q.words 0).2 : Int)]) ∧ OwnF w' w.heap.size A2 m c2 rs ∧
      fns rs = (scanW k q.words 0).1 ∧ Below w.heap.size w w' := by
  have hkn : k < n := by rw [← hr.1]; exact (List.getElem?_eq_some_iff.1 hq).1
  have HR := hide hr
  have HBB := hide hB
  have HQ := hide hq
  clear hr hq
  have k0 : (0 : Int) ≤ (k : Int) := by omega
  have k1 : (k : Int) < (n : Int) := by omega
  go_enter Tryz.func173, Tryz.ntmps173
  go_wp2
  go_loopw [6, 7] (fun o i wr => ∃ (a j c2 : Nat) (A2 : Option Addr) (rs : List Fq), a ≤ q.words.length ∧ j ≤ a ∧ i = .int .i64 a ∧ o = .slice A2 j c2 ∧ Hid (OwnF wr w.heap.size A2 j c2 rs) ∧
      Hid (fns rs ++ (scanW k q.words a).1 = (scanW k q.words 0).1) ∧ Hid ((scanW k q.words a).2 = (scanW k q.words 0).2) ∧ Hid (Below w.heap.size w wr)) (fun _ i _ => q.words.length - (intOf i).toNat)
  case atStart => exact ⟨0, 0, 0, _, [], Nat.zero_le _, Nat.le_refl _, rfl, rfl, OwnF.lit0 w _ (Nat.le_refl _), by show fns [] ++ _ = _; simp [fns], rfl, below_new w _⟩
  case round =>
    obtain ⟨a, j, c2, A2, rs, ha, hja, rfl, rfl, HO, HF, HE, HB⟩ := hrel
    have hs := HB.out.size
    have hR := HR.out.below HB.out HBB.out
    obtain ⟨ad, p, rfl, hp, hb, hc0, hc1, hc2⟩ := hR.at_ HQ.out
    obtain ⟨hi, hle, hcm⟩ := hR.words HQ.out
    have HI := hide (hi.more (show B ≤ wr.heap.size by omega))
    clear hR hi
    obtain ⟨xs, sy, fu, qa, qc⟩ := q
    simp only [Zq.sl] at hc0 hle hl ha HI HF HE
    obtain ⟨m, hm⟩ : ∃ m, xs.length = m := ⟨_, rfl⟩
    rw [hm] at hc0 hle hl ha HI
    have HM := hide hm
    clear hm
    have hqm : qc ≤ 9223372036854775807 := by unfold maxLen at hcm; omega
    by_cases hlt : a < m
    · have a1 : (a : Int) < (m : Int) := by omega
      by_cases hG : goodF xs xs.length (a : Int)
      · have HY := hide (scanW_yes (k : Int) hG)
        obtain ⟨gl, gm, gv, gs⟩ := good_len hG
        clear hG
        rw [HM.out] at gl
        have HFN : Hid (fnAt (k : Int) xs a = ((k : Int), (a : Int), xs.getD a 0, xs.getD (a + 1) 0, cutW xs (a + 3) (lenAt xs a))) := rfl
        have hbl := cutW_length xs (a + 3) (lenAt xs a) (by rw [HM.out]; omega)
        generalize hL : lenAt xs a = l at *
        generalize hX0 : xs.getD a 0 = x0 at *
        generalize hX1 : xs.getD (a + 1) 0 = x1 at *
        generalize hX3 : xs.getD (a + 3 + l) 0 = x3 at *
        have HC := hide (specGet_yes qa m qc a l (a : Int) xs wr rfl HI.out hle hqm (by omega) gm gl x0 x1 x3 hX0 hX1 hX3 gv gs)
        clear hX0 hX1 hX3 gm gv gs hL
        generalize cutW xs (a + 3) l = body at *
        have HBL := hide hbl
        clear hbl
        go_wp2_with fail
        refine HC.out.mono ?_
        rintro e w1 ⟨A3, c3, rfl, ho3, hb3⟩
        have HO3 := hide ho3
        have HB3 := hide hb3
        clear ho3 hb3
        have HNW := hide fun o => NewF.got (z := (k : Int)) (a := (a : Int)) (x0 := x0) (x1 := x1) HO.out hs HO3.out HB3.out HBL.out o (w1.heap.size + 1) rfl
        have hj9 : j + 1 ≤ 100000000000 := by omega
        have hw1 : w.heap.size ≤ w1.heap.size := Nat.le_trans hs HB3.out.size
        have hbz : ∀ o o' : Obj, w.heap.size ≤ ((w1.alloc o).alloc o').heap.size := fun o o' => by simp; omega
        go_wp2_with (at_builtin; refine wpList_append_fnds rfl (.tmp 35) (.tmp 40) rfl w.heap.size j c2 1 1 A2 (some ⟨w1.heap.size + 1, 0, none⟩) rs [⟨(k : Int), (a : Int), x0, x1, body, A3, c3⟩] rfl rfl (HNW.out _) hj9 (hbz _ _) ?_; intro A4 c4 w4 ho4 hg4 hat4; clear hat4)
        have hB4 := below_app_f ((((HB.out.trans (HB3.out.mono hs)).alloc hw1 _))) (by simp; omega) ((HO.out.below HB3.out).alloc _) (Nat.le_refl _) hg4
        have HB4 := hide hB4
        have HO4 := hide ho4
        clear ho4 hg4 hB4
        go_roundw
        case rel => exact ⟨a + 4 + l, j + 1, c4, A4, _, by rw [HM.out]; exact gl, by omega, by go_num, rfl, HO4.out, by show fns (rs ++ [_]) ++ _ = _; rw [fns_append, ← HF.out, HY.out, HFN.out]; simp [fns, Fq.fn], by show _ = _; rw [← HE.out, HY.out], HB4.out⟩
        case measure => have := HM.out; simp [intOf]; omega
      · have HC := specGet_no qa m qc (a : Int) xs wr HI.out hle hqm (by omega) (by omega) (by rw [← HM.out]; exact hG)
        unfold noFrame at HC
        replace HC := hide HC
        have HN := hide (scanW_no (k : Int) hG)
        clear hG
        go_wp2_with fail
        refine HC.out.mono ?_
        rintro e w1 ⟨rfl, hb3⟩
        have HB3 := hide hb3
        clear hb3
        go_wp2
        try simp only [Exit.inBlock, Exit.then]
        refine bodyPost_ret (results_tmp2 rfl _ _ _) rfl ?_
        have h1 := HF.out
        have h2 := HE.out
        rw [HN.out] at h1 h2
        simp only [List.append_nil] at h1 h2
        exact ⟨A2, c2, j, by rw [← h2]; rfl, rs, ((HO.out.below HB3.out).alloc _), h1, (HB.out.trans (HB3.out.mono hs)).alloc (Nat.le_trans hs HB3.out.size) _⟩
    · have HN := hide (scanW_past (k : Int) (xs := xs) (a := a) (by rw [HM.out]; omega))
      have a1 : (m : Int) ≤ (a : Int) := by omega
      go_wp2
      try simp only [Exit.inBlock, Exit.then]
      refine bodyPost_ret (results_tmp2 rfl _ _ _) rfl ?_
      have h1 := HF.out
      have h2 := HE.out
      rw [HN.out] at h1 h2
      simp only [List.append_nil] at h1 h2
      exact ⟨A2, c2, j, by rw [← h2]; rfl, rs, HO.out, h1, HB.out⟩

/-- the words of a zone of a valid device -/
theorem devV_words {qs : List Zq} {k : Nat} {q : Zq} (hv : devV (zns qs) = true) (hq : qs[k]? = some q) : q.words.length ≤ 64 := by
  unfold devV at hv
  rw [Bool.and_eq_true] at hv
  have h := List.all_eq_true.1 hv.1 q.zn (by unfold zns; exact List.mem_map.2 ⟨q, List.mem_of_getElem? hq, rfl⟩)
  unfold zoneOk Zq.zn at h
  simp at h
  omega
theorem devV_is4 {qs : List Zq} {n : Nat} (hv : devV (zns qs) = true) (hl : qs.length = n) : n = 4 := by
  unfold devV at hv
  simp [zns] at hv
  omega
/-- what ScanZone answers: the frames, and the place behind them -/
noncomputable def scanZ (d : Dev) (z : Int) : List Fn × Nat := if devV d && inB z 0 3 then scanW z (d.getD z.toNat ([], 0, false)).1 0 else ([], 0)
theorem scanZ_no {d : Dev} {z : Int} (h : (devV d && inB z 0 3) = false) : scanZ d z = ([], 0) := by unfold scanZ; rw [h]; rfl
theorem scanZ_yes {qs : List Zq} {k : Nat} {q : Zq} (hd : devV (zns qs) = true) (hk : k < 4) (hq : qs[k]? = some q) : scanZ (zns qs) (k : Int) = scanW (k : Int) q.words 0 := by
  unfold scanZ
  rw [hd, inB_true (by omega) (by omega)]
  simp [zns, List.getD, hq, Zq.zn]
/-- what a scan of a zone hands back -/
def ScanPost (w : World) (want : List Fn × Nat) (e : Ending) (w' : World) : Prop :=
  ∃ A2 c2 m rs, e = .returned (.tuple #[.slice A2 m c2, .int .i64 (want.2 : Int)]) ∧ OwnF w' w.heap.size A2 m c2 rs ∧ fns rs = want.1 ∧ Below w.heap.size w w'

end Go.Proofs.YtfianpjoifcphaaGreat

/- ImpN1 -/
namespace Go.Proofs.YtfianpjoifcphaaGreat
open Go.RowKit
set_option linter.unusedVariables false
set_option maxRecDepth 100000

theorem implScanL (A : Option Addr) (n c : Nat) (z : Int) (xs : List Int) (w : World) (hi : Ints w w.heap.size A n xs) (hle : n ≤ c) (hcm : c ≤ 9223372036854775807) (hl : n ≤ 1000000) :
    Calls Tryz.prog 109 #[.slice A n c, .int .i64 z] w (ScanPost w (scanW z xs 0)) := by
  have HI := hide hi
  have HM := hide hi.1
  clear hi
  go_enter Tryz.func109, Tryz.ntmps109
  go_wp2
  go_loopw [6, 7] (fun o i wr => ∃ (a j c2 : Nat) (A2 : Option Addr) (rs : List Fq), a ≤ n ∧ j ≤ a ∧ i = .int .i64 a ∧ o = .slice A2 j c2 ∧ Hid (OwnF wr w.heap.size A2 j c2 rs) ∧
      Hid (fns rs ++ (scanW z xs a).1 = (scanW z xs 0).1) ∧ Hid ((scanW z xs a).2 = (scanW z xs 0).2) ∧ Hid (Below w.heap.size w wr)) (fun _ i _ => n - (intOf i).toNat)
  case atStart => exact ⟨0, 0, 0, _, [], Nat.zero_le _, Nat.le_refl _, rfl, rfl, OwnF.nil_ w _, by show fns [] ++ _ = _; simp [fns], rfl, Below.refl _ _⟩
  case round =>
    obtain ⟨a, j, c2, A2, rs, ha, hja, rfl, rfl, HO, HF, HE, HB⟩ := hrel
    have hs := HB.out.size
    have HIR := hide ((HI.out.below HB.out (Nat.le_refl _)).more hs)
    by_cases hG : goodF xs xs.length (a : Int)
    · have HY := hide (scanW_yes z hG)
      obtain ⟨gl, gm, gv, gs⟩ := good_len hG
      have hb5 := (validF_iff.1 gv).2.2.1.1
      clear hG
      rw [HM.out] at gl
      have HFN : Hid (fnAt z xs a = (z, (a : Int), xs.getD a 0, xs.getD (a + 1) 0, cutW xs (a + 3) (lenAt xs a))) := rfl
      have hbl := cutW_length xs (a + 3) (lenAt xs a) (by rw [HM.out]; omega)
      generalize hL : lenAt xs a = l at *
      generalize hX0 : xs.getD a 0 = x0 at *
      generalize hX1 : xs.getD (a + 1) 0 = x1 at *
      generalize hX3 : xs.getD (a + 3 + l) 0 = x3 at *
      have HC := hide (implGet_yes0 A n c a l (a : Int) xs wr rfl HIR.out hle hcm (by omega) gm gl x0 x1 x3 hX0 hX1 hX3 gv gs)
      clear hX0 hX1 hX3 gm gv gs hL hb5
      generalize cutW xs (a + 3) l = body at *
      have HBL := hide hbl
      clear hbl
      go_wp2_with fail
      refine HC.out.mono ?_
      rintro e w1 ⟨A3, c3, rfl, ho3, hb3⟩
      have HO3 := hide ho3
      have HB3 := hide hb3
      clear ho3 hb3
      have HNW := hide fun o => NewF.got (z := z) (a := (a : Int)) (x0 := x0) (x1 := x1) HO.out hs HO3.out HB3.out HBL.out o (w1.heap.size + 1) rfl
      have hj9 : j + 1 ≤ 100000000000 := by omega
      have hw1 : w.heap.size ≤ w1.heap.size := Nat.le_trans hs HB3.out.size
      have hbz : ∀ o o' : Obj, w.heap.size ≤ ((w1.alloc o).alloc o').heap.size := fun o o' => by simp; omega
      go_wp2_with (at_builtin; refine wpList_append_fnds rfl (.tmp 22) (.tmp 27) rfl w.heap.size j c2 1 1 A2 (some ⟨w1.heap.size + 1, 0, none⟩) rs [⟨z, (a : Int), x0, x1, body, A3, c3⟩] rfl rfl (HNW.out _) hj9 (hbz _ _) ?_; intro A4 c4 w4 ho4 hg4 hat4; clear hat4)
      have hB4 := below_app_f ((((HB.out.trans (HB3.out.mono hs)).alloc hw1 _))) (by simp; omega) ((HO.out.below HB3.out).alloc _) (Nat.le_refl _) hg4
      have HB4 := hide hB4
      have HO4 := hide ho4
      clear ho4 hg4 hB4
      go_roundw
      case rel => exact ⟨a + 4 + l, j + 1, c4, A4, _, gl, by omega, by go_num, rfl, HO4.out, by show fns (rs ++ [_]) ++ _ = _; rw [fns_append, ← HF.out, HY.out, HFN.out]; simp [fns, Fq.fn], by show _ = _; rw [← HE.out, HY.out], HB4.out⟩
      case measure => have := HM.out; simp [intOf]; omega
    · have HC := implGet_no0 A n c (a : Int) xs wr HIR.out hle hcm (by omega) (by omega) (by rw [← HM.out]; exact hG)
      unfold noFrame at HC
      replace HC := hide HC
      have HN := hide (scanW_no z hG)
      clear hG
      go_wp2_with fail
      refine HC.out.mono ?_
      rintro e w1 ⟨rfl, hb3⟩
      have HB3 := hide hb3
      clear hb3
      go_wp2
      try simp only [Exit.inBlock, Exit.then]
      refine bodyPost_ret (results_tmp2 rfl _ _ _) rfl ?_
      have h1 := HF.out
      have h2 := HE.out
      rw [HN.out] at h1 h2
      simp only [List.append_nil] at h1 h2
      exact ⟨A2, c2, j, rs, by rw [← h2]; rfl, ((HO.out.below HB3.out).alloc _), h1, (HB.out.trans (HB3.out.mono hs)).alloc (Nat.le_trans hs HB3.out.size) _⟩

end Go.Proofs.YtfianpjoifcphaaGreat

/- ImpN2 -/
namespace Go.Proofs.YtfianpjoifcphaaGreat
open Go.RowKit
set_option linter.unusedVariables false
set_option maxRecDepth 100000

set_option maxHeartbeats 6400000 in
theorem implScanZ (A : Option Addr) (n c B : Nat) (z : Int) (qs : List Zq) (w : World) (hr : Zns w B A n qs) (hB : B ≤ w.heap.size) (hn : n ≤ 1000000000000) (hz0 : -9223372036854775808 ≤ z) (hz1 : z ≤ 9223372036854775807) :
    Calls Tryz.prog 108 #[.slice A n c, .int .i64 z] w (ScanPost w (scanZ (zns qs) z)) := by
  have HV := hide (implDV A n c B qs w hr hB hn)
  by_cases hz : 0 ≤ z ∧ z ≤ 3
  · obtain ⟨k, rfl⟩ := Int.eq_ofNat_of_zero_le hz.1
    have k1 : ¬ (k : Int) < 0 := by omega
    have k2 : ¬ (4 : Int) ≤ (k : Int) := by omega
    rcases hv : devV (zns qs) with _ | _
    · have HE := hide (scanZ_no (d := zns qs) (z := (k : Int)) (by rw [hv]; rfl))
      rw [hv] at HV
      clear hv hr
      go_enter Tryz.func108, Tryz.ntmps108
      go_wp2_with fail
      refine HV.out.mono ?_
      rintro e w1 ⟨rfl, hb1⟩
      have HB1 := hide hb1
      clear hb1
      go_wp2
      try simp only [Exit.inBlock, Exit.then]
      refine bodyPost_ret (results_tmp2 rfl _ _ _) rfl ?_
      exact ⟨none, 0, 0, [], by rw [HE.out]; rfl, OwnF.nil_ _ _, by rw [HE.out]; rfl, HB1.out⟩
    · obtain rfl : n = 4 := by
        have h2 := hr.1
        unfold devV at hv
        simp [zns] at hv
        omega
      obtain ⟨q, hq⟩ : ∃ q, qs[k]? = some q := ⟨_, List.getElem?_eq_getElem (by rw [hr.1]; omega)⟩
      have HE := hide (scanZ_yes hv (by omega) hq)
      rw [hv] at HV
      obtain ⟨hl64⟩ : Nonempty (q.words.length ≤ 64) := ⟨devV_words hv hq⟩
      have HQ := hide hq
      have HR := hide hr
      clear hv hr hq
      have k3 : (0 : Int) ≤ (k : Int) := by omega
      have k4 : (k : Int) < ((4 : Nat) : Int) := by omega
      go_enter Tryz.func108, Tryz.ntmps108
      go_wp2_with fail
      refine HV.out.mono ?_
      rintro e w1 ⟨rfl, hb1⟩
      have HB1 := hide hb1
      have hR := HR.out.below hb1 hB
      obtain ⟨ad, p, rfl, hp, hb, hc0, hc1, hc2⟩ := hR.at_ HQ.out
      obtain ⟨hi, hle, hcm⟩ := hR.words HQ.out
      unfold maxLen at hcm
      have HC := hide (implScanL q.addr q.words.length q.cap (k : Int) q.words w1 (hi.more (Nat.le_trans hB hb1.size)) hle (by omega) (by omega))
      clear hR hi hb1 hc1 hc2
      unfold Zq.sl at hc0
      go_wp2_with fail
      refine HC.out.mono ?_
      rintro e w2 ⟨A2, c2, m, rs, rfl, ho, hf, hb2⟩
      go_wp2
      try simp only [Exit.inBlock, Exit.then]
      refine bodyPost_ret (results_tmp2 rfl _ _ _) rfl ?_
      exact ⟨A2, c2, m, rs, by rw [HE.out]; rfl, ho.mono HB1.out.size, by rw [HE.out]; exact hf, HB1.out.trans (hb2.mono HB1.out.size)⟩
  · have HE := hide (scanZ_no (d := zns qs) (z := z) (by rw [show inB z 0 3 = false from by rcases h : inB z 0 3 with _ | _; rfl; exact absurd (inB_iff.1 h) hz]; simp))
    have hzz : z < 0 ∨ 4 ≤ z := by omega
    clear hr hz HV
    go_enter Tryz.func108, Tryz.ntmps108
    rcases hzz with h | h
    · go_wp2
      try simp only [Exit.inBlock, Exit.then]
      refine bodyPost_ret (results_tmp2 rfl _ _ _) rfl ?_
      exact ⟨none, 0, 0, [], by rw [HE.out]; rfl, OwnF.nil_ _ _, by rw [HE.out]; rfl, Below.refl _ _⟩
    · have h0 : ¬ z < 0 := by omega
      go_wp2
      try simp only [Exit.inBlock, Exit.then]
      refine bodyPost_ret (results_tmp2 rfl _ _ _) rfl ?_
      exact ⟨none, 0, 0, [], by rw [HE.out]; rfl, OwnF.nil_ _ _, by rw [HE.out]; rfl, Below.refl _ _⟩
end Go.Proofs.YtfianpjoifcphaaGreat

/- ImpO3 -/
namespace Go.Proofs.YtfianpjoifcphaaGreat
open Go.RowKit Go.Maps
set_option linter.unusedVariables false
set_option maxRecDepth 100000

set_option maxHeartbeats 800000 in
theorem cloneO (A : Option Addr) (n c B : Nat) (xs : List Int) (w : World) (hr : Ints w B A n xs) (hB : B ≤ w.heap.size) (hn : n ≤ 17592186044416) (h0 : A = none → n = 0 ∧ c = 0) :
    Calls Tryz.prog 136 #[.slice A n c] w fun e w' => ∃ A2 c2, e = .returned (.slice A2 n c2) ∧ Own w' w.heap.size A2 n c2 xs ∧ Below w.heap.size w w' := by
  rcases A with _ | ad
  · obtain ⟨rfl, rfl⟩ := h0 rfl
    have hx : xs = [] := List.eq_nil_of_length_eq_zero hr.1
    subst hx
    have hq := fun (W : World) => Lib.run_eql_slice_nil (P := Tryz.prog) W 27 3 none 0 0 0 0 Tryz.underlying27
    go_enter Tryz.func136, Tryz.ntmps136
    go_wp2
    go_ret
    exact ⟨_, _, rfl, Own.nil_ _ _, Below.refl _ _⟩
  · have HI := hide hr
    clear hr h0
    have hq := fun (W : World) => Lib.run_eql_slice_nil (P := Tryz.prog) W 27 3 (some ad) n c 0 0 Tryz.underlying27
    go_enter Tryz.func136, Tryz.ntmps136
    go_wp2_with (at_builtin; refine wpList_append_ints rfl _ _ rfl w.heap.size 0 0 B n c _ _ [] xs rfl (Own.lit0 w _ (Nat.le_refl _)) rfl (HI.out.alloc hB _) (by omega) (by simp) ?_; intro A2 c2 w3 ho3 hg3 hat3; clear hat3; simp only [Nat.zero_add, List.nil_append] at ho3 ⊢)
    go_ret
    exact ⟨_, _, rfl, ho3, below_app0 (Below.refl _ _) (Nat.le_refl _) hg3⟩

theorem info_obj : (Tryz.prog.info? 139).map (fun i => (i.zero, i.size, i.bytes)) = some (some (.agg #[.int .i64 0, .slice none 0 0]), 2, 32) := by kernel_rfl

theorem midC {w wr w3 : World} {A2 A3 : Option Addr} {k c2 m c3 : Nat} {qs : List Oq} {ws : List Int} (id : Int) (hB : Below w.heap.size w wr) (hown : OwnO wr w.heap.size A2 k c2 qs) (hq : Own w3 wr.heap.size A3 m c3 ws) (hb : Below wr.heap.size wr w3) :
    MidO w wr w3 A2 k c2 qs ⟨id, ws, A3, c3⟩ := by
  have hs := hB.size
  have hl := hq.1
  subst hl
  exact ⟨hown.below hb, hq.mono hs, new_sepO hown (fun g h => (hq.block g h).1), hB.trans (hb.mono hs), fun p v hp h => (hb.cell hp).trans h⟩

set_option maxHeartbeats 3200000 in
theorem implStore (b N B : Nat) (f : Int → Option Value) (t : Sto) (w0 w : World) (hs : Shelf w b N f) (hN : N ≤ 1000000000000) (ht : Tied w0 B f t) (hw : Below B w0 w) (hB : B ≤ w.heap.size) (hl : t.length ≤ 1000000000) (hid : ∀ o ∈ t, 1 ≤ o.1 ∧ o.1 ≤ 999) :
    Calls Tryz.prog 134 #[.map (some b)] w fun e w' => ∃ A2 m c2 qs2, e = .returned (.slice A2 m c2) ∧ OwnO w' w.heap.size A2 m c2 qs2 ∧ obs qs2 = t ∧ Below w.heap.size w w' := by
  obtain ⟨i0, hi, hz0, hz1, hz2⟩ := info_parts info_obj
  have HD := hide ht.dom
  have hbl := hs.lt
  have HS := hide hs
  have HT := hide (ht.keep (fun p hp => hw.cell hp) : Tied w B f t)
  obtain ⟨n, hn⟩ : ∃ n, t.length = n := ⟨_, rfl⟩
  have hkl : (t.map (·.1)).length = n := by rw [List.length_map, hn]
  have HN := hide hn
  have HKL := hide hkl
  have HID := hide hid
  rw [hn] at hl
  have hb2 : i0.bytes * n ≤ 281474976710656 := by rw [hz2]; omega
  clear hs ht hkl hn hid hw
  go_enter Tryz.func134, Tryz.ntmps134
  go_wp2_with (first
    | (at_len; refine wpList_lenS rfl (.tmp 6) rfl b N f (t.map (·.1)) rfl HS.out HD.out n HKL.out ?_)
    | (at_make; refine wpList_make_own _ rfl _ _ 25 rfl w.heap.size 139 i0 (.agg #[.int .i64 0, .slice none 0 0]) 2 Tryz.underlying25 hi hz0 hz1 .i64 .i64 _ n rfl rfl rfl hb2 (by unfold maxLen; omega) (Nat.le_refl _) ?_; intro w1 hown hgrow; have HO1 := hide (show OwnO w1 w.heap.size (some ⟨w.heap.size, 0, none⟩) 0 n [] from ⟨rfl, hown, by simp, by simp⟩); have HB1 := hide (below_of_grown hgrow); clear hown hgrow)
    | (go_at_call 178; refine (keys_any (some b) w1).mono ?_; rintro e w' ⟨rfl, rfl⟩; have HSO := hide (sorted_any b N f (t.map (·.1)) w1 (HS.out.below HB1.out hbl) HD.out hN); rw [HKL.out] at HSO)
    | (go_at_call 177; refine HSO.out.mono ?_; rintro e w2 ⟨As, cs, rfl, hos, hbs⟩; have HK2 := hide hos; have HB2 := hide (((HB1.out.alloc HB1.out.size _).trans (hbs.mono (Nat.le_succ_of_le HB1.out.size)) : Below w.heap.size w w2)); have HO2 := hide ((HO1.out.alloc (.cells #[.map (some b)] 79)).below (by rw [size_allocS]; exact hbs)); clear hos hbs HSO))
  go_loopw [3, 5, 13] (fun o _ i wr => ∃ (k c2 : Nat) (A2 : Option Addr) (rs : List Oq), k ≤ n ∧ i = .int .i64 k ∧ o = .slice A2 k c2 ∧ Hid (OwnO wr w.heap.size A2 k c2 rs) ∧ Hid (Own wr (w1.heap.size + 1) As n cs (t.map (·.1))) ∧ Hid (obs rs = t.take k) ∧ Hid (Below w.heap.size w wr)) (fun _ _ i _ => n - (RowKit.intOf i).toNat)
  case atStart => exact ⟨0, n, _, [], Nat.zero_le _, rfl, rfl, HO2.out, HK2.out, rfl, HB2.out⟩
  case round =>
    obtain ⟨k, c2, A2, rs, hk, rfl, rfl, HO, HK, HZ, HB⟩ := hrel
    have hsz := HB.out.size
    by_cases hlt : k < n
    · obtain ⟨o, ho⟩ : ∃ o, t[k]? = some o := ⟨_, List.getElem?_eq_getElem (by rw [HN.out]; exact hlt)⟩
      have HZ2 : Hid (t.take (k + 1) = obs rs ++ [o]) := by
        show _ = _
        rw [List.take_add_one, HZ.out, ho]
        rfl
      have hom := List.mem_of_getElem? ho
      obtain ⟨d0, d1⟩ := HID.out o hom
      obtain ⟨Av, cv, hf, hiv, hv1, hv2, hv3, hv4⟩ := HT.out.val o hom
      obtain ⟨ad, rfl, hb, hc⟩ := HK.out.ints.at_ hlt
      have hge : (t.map (·.1)).getD k 0 = o.1 := by simp [List.getD, ho]
      rw [hge] at hc
      clear hge ho hom
      obtain ⟨id, vs⟩ := o
      simp only at hf hiv hv1 hv4 hc d0 d1
      obtain ⟨m, hm⟩ : ∃ m, vs.length = m := ⟨_, rfl⟩
      rw [hm] at hf hiv hv1 hv4
      have HM := hide hm
      have HSW := hide (HS.out.below HB.out hbl)
      have HF := hide (show (f id).getD (.slice none 0 0) = .slice Av m cv by rw [hf]; rfl)
      have HC := hide (cloneO Av m cv B vs wr (hiv.below HB.out hB) (by omega) (by omega) (fun e => by have := hv3 e; omega))
      have k0 : (0 : Int) ≤ (k : Int) := by omega
      have k1 : (k : Int) < (n : Int) := by omega
      have i0' : -9223372036854775808 ≤ id := by omega
      have i1' : id ≤ 9223372036854775807 := by omega
      have hk9 : k + 1 ≤ 100000000000 := by omega
      clear hm hf hiv hv1 hv2 hv3
      go_wp2_with (first
        | (at_lookup; refine wpList_look rfl (.tmp 19) (.tmp 20) rfl b N f rfl HSW.out id (.slice Av m cv) rfl i0' i1' HF.out ?_)
        | (go_at_call 136; refine HC.out.mono ?_; rintro e w3 ⟨A3, c3, rfl, ho3, hb3⟩; have HMID := hide (midC (A3 := A3) (c3 := c3) (m := m) (ws := vs) id HB.out HO.out ho3 hb3); have HKC := hide (HK.out.below hb3); have hbz : w.heap.size ≤ (w3.alloc (.cells #[.int .i64 id, .slice A3 m c3] 139)).heap.size := Nat.le_trans HMID.out.below.size (by rw [size_allocO]; omega); have HZC := hide (HMID.out.news HM.out); clear ho3 hb3)
        | (at_builtin; refine wpList_append_objs rfl (.tmp 17) (.tmp 24) rfl w.heap.size k c2 1 1 A2 (some ⟨w3.heap.size, 0, none⟩) rs [⟨id, vs, A3, c3⟩] rfl rfl HZC.out hk9 hbz ?_; intro A4 c4 w4 ho4 hg4 hat4; have HB4 := hide (below_app_o HMID.out.below HMID.out.below.size HMID.out.own (Nat.le_refl _) hg4); have HK4 := hide ((HKC.out.alloc _).kept hg4 (fun g hg => rows_neO HMID.out.own.row HKC.out.2 (by decide) hg)); have HO4 := hide ho4; clear hat4 hg4 ho4))
      go_roundw
      case rel => exact ⟨k + 1, c4, A4, _, by omega, by go_num, rfl, HO4.out, HK4.out, by show obs (rs ++ [_]) = _; rw [HZ2.out]; simp [obs, Oq.ob], HB4.out⟩
      case measure => simp [RowKit.intOf]; omega
    · obtain rfl : k = n := by omega
      have HE := hide (show obs rs = t by have := HZ.out; rwa [List.take_of_length_le (by rw [HN.out]; exact Nat.le_refl _)] at this)
      go_wp2
      go_ret
      exact ⟨_, _, _, _, rfl, HO.out, HE.out, HB.out⟩
end Go.Proofs.YtfianpjoifcphaaGreat

/- ImpO4 -/
namespace Go.Proofs.YtfianpjoifcphaaGreat
open Go.RowKit Go.Maps
set_option linter.unusedVariables false
set_option maxRecDepth 100000

theorem stV_ids {t : Sto} (h : stV t = true) : ∀ o ∈ t, 1 ≤ o.1 ∧ o.1 ≤ 999 := fun o ho => by
  have := obOk_iff.1 ((stV_iff.1 h).1 o ho)
  exact ⟨this.1, this.2.1⟩
theorem insS_ids {t : Sto} {id : Int} {vs : List Int} (h : ∀ o ∈ t, 1 ≤ o.1 ∧ o.1 ≤ 999) (h1 : inB id 1 999 = true) : ∀ o ∈ insS t id vs, 1 ≤ o.1 ∧ o.1 ≤ 999 := fun o ho => by
  rcases insS_mem.1 ho with rfl | ho
  · exact inB_iff.1 h1
  · exact h o ho

end Go.Proofs.YtfianpjoifcphaaGreat

/- ImpO5 -/
namespace Go.Proofs.YtfianpjoifcphaaGreat
open Go.RowKit Go.Maps
set_option linter.unusedVariables false
set_option maxRecDepth 100000

theorem get_facts {w0 w1 : World} {B m j : Nat} {f : Int → Option Value} {t : Sto} {x y : Int} {vs : List Int} (hti : Tied w0 B f t) (hm : (x, vs) ∈ t) (hb : Below w0.heap.size w0 w1) (hB : B ≤ w0.heap.size) (hl : vs.length = m) (hj : j < m) (hy : vs.getD j 0 = y) :
    ∃ ad cv, (f x).getD (.slice none 0 0) = .slice (some ad) m cv ∧ w1.cell? (ad.add j) = some (.int .i64 y) ∧ m ≤ cv ∧ cv ≤ 9223372036854775807 := by
  subst hl
  subst hy
  obtain ⟨Av, cv, hf, hiv, hvc, hvm, _⟩ := hti.val _ hm
  obtain ⟨ad, rfl, hbad, hcj⟩ := (hiv.below hb hB).at_ hj
  exact ⟨ad, cv, by rw [hf]; rfl, hcj, hvc, by unfold maxLen at hvm; omega⟩

set_option maxHeartbeats 3200000 in
theorem implGetO (A : Option Addr) (n c B : Nat) (id ix : Int) (qs : List Oq) (w : World) (hr : Objs w B A n qs) (hB : B ≤ w.heap.size) (hn : n ≤ 10000000000) (i0 : -9223372036854775808 ≤ id) (i1 : id ≤ 9223372036854775807) :
    Calls Tryz.prog 170 #[.slice A n c, .int .i64 id, .int .i64 ix] w fun e w' => e = .returned (.tuple #[.int .i64 (getV (obs qs) id ix), .bool (getB (obs qs) id ix)]) ∧ Below w.heap.size w w' := by
  rcases hv : stV (obs qs) with _ | _
  · have H1 := hide (implShelf_no A n c B qs w hr hB (by omega) hv)
    have HG := hide (show getB (obs qs) id ix = false by unfold getB; rw [hv]; rfl)
    clear hr hv
    go_enter Tryz.func170, Tryz.ntmps170
    go_wp2_with (go_at_call 103; refine H1.out.mono ?_; rintro e w1 ⟨rfl, hb1⟩; have HB1 := hide hb1; clear hb1)
    go_ret2
    exact ⟨ret_pair_SpecO4 (by unfold getV; rw [HG.out]; rfl) HG.out.symm, HB1.out⟩
  · have H1 := hide (implShelf_yes A n c B qs w hr hB (by omega) hv)
    rcases hh : hasS (obs qs) id with _ | _
    · have HG := hide (show getB (obs qs) id ix = false by unfold getB; rw [hh]; simp)
      have HH := hide hh
      clear hr hv hh
      by_cases h0 : ix < 0
      all_goals
        go_enter Tryz.func170, Tryz.ntmps170
        go_wp2_with (first
          | (go_at_call 103; refine H1.out.mono ?_; rintro e w1 ⟨b, f, rfl, hbb, hsh, hti, hb1⟩; have HB1 := hide hb1; have HS1 := hide hsh; have HV0 := hide (show (f id).getD (.slice none 0 0) = .slice none 0 0 by (have h := (hti.mem id).trans HH.out; rw [Option.isSome_eq_false_iff, Option.isNone_iff_eq_none] at h; rw [h]; rfl)); clear hb1 hsh hti)
          | (at_lookup; refine wpList_look rfl (.tmp 18) (.tmp 19) rfl b 6 f rfl HS1.out id (.slice none 0 0) rfl i0 i1 HV0.out ?_))
        go_ret2
        exact ⟨ret_pair_SpecO4 (by unfold getV; rw [HG.out]; rfl) HG.out.symm, HB1.out⟩
    · obtain ⟨i, q, hf, hq, hid, hva⟩ := obs_has hh
      have HG := hide (show getB (obs qs) id ix = inB ix 0 ((q.vals.length : Int) - 1) by unfold getB; rw [hv, hh, hva]; rfl)
      have HGV := hide (show getV (obs qs) id ix = if inB ix 0 ((q.vals.length : Int) - 1) then q.vals.getD ix.toNat 0 else 0 by unfold getV; rw [HG.out, hva])
      have HM := hide (show q.ob ∈ obs qs from List.mem_of_getElem? (obs_get hq))
      clear hr hv hh hf hq hva
      obtain ⟨x, vs, qa, qc⟩ := q
      simp only at hid
      subst hid
      simp only [Oq.ob] at HG HGV HM
      rcases hin2 : inB ix 0 ((vs.length : Int) - 1) with _ | _
      · rw [hin2] at HG HGV
        have hno : ix < 0 ∨ (vs.length : Int) ≤ ix := by
          unfold inB at hin2
          rcases Int.lt_or_le ix 0 with h | h
          · exact .inl h
          · rw [decide_eq_true h, Bool.true_and, decide_eq_false_iff_not] at hin2
            exact .inr (by omega)
        clear hin2
        by_cases h0 : ix < 0
        · clear hno
          go_enter Tryz.func170, Tryz.ntmps170
          go_wp2_with (first
            | (go_at_call 103; refine H1.out.mono ?_; rintro e w1 ⟨b, f, rfl, hbb, hsh, hti, hb1⟩; have HB1 := hide hb1; have HS1 := hide hsh; obtain ⟨v0, hv0⟩ : ∃ v0, (f x).getD (.slice none 0 0) = v0 := ⟨_, rfl⟩; have HV0 := hide hv0; clear hb1 hsh hti hv0)
            | (at_lookup; refine wpList_look rfl (.tmp 18) (.tmp 19) rfl b 6 f rfl HS1.out x v0 rfl i0 i1 HV0.out ?_))
          go_ret2
          exact ⟨ret_pair_SpecO4 HGV.out.symm HG.out.symm, HB1.out⟩
        · have h1 : (vs.length : Int) ≤ ix := by omega
          clear hno
          obtain ⟨m, hm⟩ : ∃ m, vs.length = m := ⟨_, rfl⟩
          rw [hm] at h1
          have HMM := hide hm
          clear hm
          go_enter Tryz.func170, Tryz.ntmps170
          go_wp2_with (first
            | (go_at_call 103; refine H1.out.mono ?_; rintro e w1 ⟨b, f, rfl, hbb, hsh, hti, hb1⟩; have HB1 := hide hb1; have HS1 := hide hsh; obtain ⟨Av, cv, hf, hrest⟩ := hti.val _ HM.out; have HV0 := hide (show (f x).getD (.slice none 0 0) = .slice Av m cv by (rw [hf, HMM.out]; rfl)); clear hb1 hsh hti hf hrest)
            | (at_lookup; refine wpList_look rfl (.tmp 18) (.tmp 19) rfl b 6 f rfl HS1.out x (.slice Av m cv) rfl i0 i1 HV0.out ?_))
          go_ret2
          exact ⟨ret_pair_SpecO4 HGV.out.symm HG.out.symm, HB1.out⟩
      · obtain ⟨x0, x1⟩ := inB_iff.1 hin2
        obtain ⟨j, rfl⟩ := Int.eq_ofNat_of_zero_le x0
        rw [hin2] at HG HGV
        have HY := hide (show getV (obs qs) x (j : Int) = vs.getD j 0 by rw [HGV.out]; rfl)
        obtain ⟨m, hm⟩ : ∃ m, vs.length = m := ⟨_, rfl⟩
        rw [hm] at x1
        have hj : j < m := by omega
        have j0 : (0 : Int) ≤ (j : Int) := by omega
        have j1 : (j : Int) < (m : Int) := by omega
        have HMM := hide hm
        clear hm hin2 HGV
        generalize hy : vs.getD j 0 = y at HY
        have HYY := hide hy
        clear hy
        go_enter Tryz.func170, Tryz.ntmps170
        go_wp2_with (first
          | (go_at_call 103; refine H1.out.mono ?_; rintro e w1 ⟨b, f, rfl, hbb, hsh, hti, hb1⟩; have HB1 := hide hb1; have HS1 := hide hsh; obtain ⟨ad, cv, hf, hcj, hvc, hvm⟩ := get_facts hti HM.out hb1 hB HMM.out hj HYY.out; have HV0 := hide hf; clear hb1 hsh hti hf)
          | (at_lookup; refine wpList_look rfl (.tmp 18) (.tmp 19) rfl b 6 f rfl HS1.out x (.slice (some ad) m cv) rfl i0 i1 HV0.out ?_))
        go_ret2
        exact ⟨ret_pair_SpecO4 HY.out.symm HG.out.symm, HB1.out⟩

end Go.Proofs.YtfianpjoifcphaaGreat

/- HeapM -/
namespace Go.Proofs.YtfianpjoifcphaaGreat
open Go.RowKit
set_option linter.unusedVariables false
set_option maxRecDepth 100000

/-! ### The order: number, zone, word -/
def cmpF (f g : Fn) : Int := if cmpI (seqOf f) (seqOf g) = 0 then (if cmpI f.1 g.1 = 0 then cmpI f.2.1 g.2.1 else cmpI f.1 g.1) else cmpI (seqOf f) (seqOf g)
def ltF (f g : Fn) : Prop := seqOf f < seqOf g ∨ (seqOf f = seqOf g ∧ (f.1 < g.1 ∨ (f.1 = g.1 ∧ f.2.1 < g.2.1)))
def leF (f g : Fn) : Prop := ¬ ltF g f
theorem cmpF_lt {f g : Fn} : cmpF f g < 0 ↔ ltF f g := by
  unfold cmpF ltF
  by_cases h1 : seqOf f = seqOf g
  · rw [if_pos (cmpI_eq.2 h1)]
    by_cases h2 : f.1 = g.1
    · rw [if_pos (cmpI_eq.2 h2), cmpI_lt]; omega
    · rw [if_neg (fun h => h2 (cmpI_eq.1 h)), cmpI_lt]; omega
  · rw [if_neg (fun h => h1 (cmpI_eq.1 h)), cmpI_lt]; omega
theorem ltF_irrefl (x : Fn) : ¬ ltF x x := by unfold ltF; omega
theorem ltF_trans {x y z : Fn} (h1 : ltF x y) (h2 : ltF y z) : ltF x z := by unfold ltF at *; omega
theorem ltF_asymm {x y : Fn} (h1 : ltF x y) : ¬ ltF y x := by unfold ltF at *; omega
theorem ltF_ntrans {x y z : Fn} (h1 : ¬ ltF x y) (h2 : ¬ ltF y z) : ¬ ltF x z := by unfold ltF at *; omega
theorem ltF_of {x y z : Fn} (h1 : ltF x y) (h2 : ¬ ltF z y) : ¬ ltF z x := by unfold ltF at *; omega
theorem leF_refl (x : Fn) : leF x x := ltF_irrefl x
theorem leF_trans {x y z : Fn} (h1 : leF x y) (h2 : leF y z) : leF x z := by unfold leF ltF at *; omega
theorem leF_key {x y : Fn} (h1 : leF x y) (h2 : leF y x) : seqOf x = seqOf y ∧ x.1 = y.1 ∧ x.2.1 = y.2.1 := by unfold leF ltF at *; omega
theorem leF_seq {x y : Fn} (h1 : leF x y) : seqOf x ≤ seqOf y := by unfold leF ltF at *; omega

/-! ### The heap: K tells the first frame of each list -/
def HpOk (K : Nat → Fn) (n : Nat) : Prop := ∀ c, 0 < c → c < n → ¬ ltF (K c) (K ((c - 1) / 2))
def HpUp (K : Nat → Fn) (n j : Nat) : Prop := (∀ c, 0 < c → c < n → c ≠ j → ¬ ltF (K c) (K ((c - 1) / 2))) ∧ ∀ c, 0 < c → c < n → (c - 1) / 2 = j → 0 < j → ¬ ltF (K c) (K ((j - 1) / 2))
def HpDn (K : Nat → Fn) (n i : Nat) : Prop := (∀ c, 0 < c → c < n → (c - 1) / 2 ≠ i → ¬ ltF (K c) (K ((c - 1) / 2))) ∧ ∀ c, 0 < c → c < n → (c - 1) / 2 = i → 0 < i → ¬ ltF (K c) (K ((i - 1) / 2))
def swK (K : Nat → Fn) (i j : Nat) : Nat → Fn := fun k => if k = i then K j else if k = j then K i else K k
theorem swK_i (K : Nat → Fn) (i j : Nat) : swK K i j i = K j := by unfold swK; rw [if_pos rfl]
theorem swK_j {K : Nat → Fn} {i j : Nat} (h : j ≠ i) : swK K i j j = K i := by unfold swK; rw [if_neg h, if_pos rfl]
theorem swK_k {K : Nat → Fn} {i j k : Nat} (h : k ≠ i) (h2 : k ≠ j) : swK K i j k = K k := by unfold swK; rw [if_neg h, if_neg h2]
theorem HpOk.root {K : Nat → Fn} {n : Nat} (h : HpOk K n) : ∀ c, c < n → ¬ ltF (K c) (K 0) := by
  have : ∀ m c, c ≤ m → c < n → ¬ ltF (K c) (K 0) := by
    intro m
    induction m with
    | zero => intro c hc hn; obtain rfl : c = 0 := by omega
              exact ltF_irrefl _
    | succ m ih =>
      intro c hc hn
      rcases Nat.eq_zero_or_pos c with rfl | h0
      · exact ltF_irrefl _
      · exact ltF_ntrans (h c h0 hn) (ih _ (by omega) (by omega))
  exact fun c hc => this c c (Nat.le_refl _) hc
theorem HpOk.last {K : Nat → Fn} {n : Nat} (h : HpOk K n) (K' : Nat → Fn) (hk : ∀ c, c < n → K' c = K c) : HpUp K' (n + 1) n := by
  refine ⟨fun c h0 hn hc => ?_, fun c h0 hn hc => by omega⟩
  rw [hk c (by omega), hk _ (by omega)]
  exact h c h0 (by omega)
theorem HpUp.done0 {K : Nat → Fn} {n : Nat} (h : HpUp K n 0) : HpOk K n := fun c h0 hn => h.1 c h0 hn (by omega)
theorem HpUp.done {K : Nat → Fn} {n j : Nat} (h : HpUp K n j) (hl : ¬ ltF (K j) (K ((j - 1) / 2))) : HpOk K n := fun c h0 hn => by
  by_cases hc : c = j
  · subst hc; exact hl
  · exact h.1 c h0 hn hc
theorem HpUp.step {K : Nat → Fn} {n j i : Nat} (h : HpUp K n j) (hj : 0 < j) (hjn : j < n) (hi : (j - 1) / 2 = i) (hl : ltF (K j) (K i)) : HpUp (swK K i j) n i := by
  have hij : j ≠ i := by omega
  refine ⟨fun c h0 hn hc => ?_, fun c h0 hn hp hi0 => ?_⟩
  · by_cases hcj : c = j
    · subst hcj
      rw [hi, swK_j hij, swK_i]
      exact ltF_asymm hl
    · rw [swK_k hc hcj]
      by_cases hpi : (c - 1) / 2 = i
      · rw [hpi, swK_i]
        have := h.1 c h0 hn hcj
        rw [hpi] at this
        exact ltF_of hl this
      · by_cases hpj : (c - 1) / 2 = j
        · rw [hpj, swK_j hij, ← hi]
          exact h.2 c h0 hn hpj hj
        · rw [swK_k hpi hpj]
          exact h.1 c h0 hn hcj
  · rw [swK_k (show (i - 1) / 2 ≠ i by omega) (show (i - 1) / 2 ≠ j by omega)]
    have hpar := h.1 i hi0 (by omega) (fun e => hij e.symm)
    by_cases hcj : c = j
    · subst hcj
      rw [swK_j hij]
      exact hpar
    · rw [swK_k (by omega) hcj]
      have := h.1 c h0 hn hcj
      rw [hp] at this
      exact ltF_ntrans this hpar

theorem HpOk.top {K : Nat → Fn} {n : Nat} (h : HpOk K (n + 1)) : HpDn (swK K 0 n) n 0 := by
  refine ⟨fun c h0 hn hc => ?_, fun c h0 hn hc hi => absurd hi (by omega)⟩
  rw [swK_k (by omega) (by omega), swK_k hc (by omega)]
  exact h c h0 (by omega)
theorem HpDn.leaf {K : Nat → Fn} {n i : Nat} (h : HpDn K n i) (hn : n ≤ 2 * i + 1) : HpOk K n := fun c h0 hc => h.1 c h0 hc (by omega)
/-- j is the child of i that is not greater than the other one -/
structure Child (K : Nat → Fn) (n i j : Nat) : Prop where
  par : (j - 1) / 2 = i
  pos : 0 < j
  lt : j < n
  min : ∀ c, 0 < c → c < n → (c - 1) / 2 = i → ¬ ltF (K c) (K j)
theorem child_one {K : Nat → Fn} {n i : Nat} (h : 2 * i + 1 < n) (h2 : ¬ 2 * i + 2 < n) : Child K n i (2 * i + 1) :=
  ⟨by omega, by omega, h, fun c h0 hc hp => by obtain rfl : c = 2 * i + 1 := by omega
                                               exact ltF_irrefl _⟩
theorem child_left {K : Nat → Fn} {n i : Nat} (h : 2 * i + 1 < n) (hl : ¬ ltF (K (2 * i + 2)) (K (2 * i + 1))) : Child K n i (2 * i + 1) :=
  ⟨by omega, by omega, h, fun c h0 hc hp => by
    rcases (show c = 2 * i + 1 ∨ c = 2 * i + 2 by omega) with rfl | rfl
    · exact ltF_irrefl _
    · exact hl⟩
theorem child_right {K : Nat → Fn} {n i : Nat} (h : 2 * i + 2 < n) (hl : ltF (K (2 * i + 2)) (K (2 * i + 1))) : Child K n i (2 * i + 2) :=
  ⟨by omega, by omega, h, fun c h0 hc hp => by
    rcases (show c = 2 * i + 1 ∨ c = 2 * i + 2 by omega) with rfl | rfl
    · exact ltF_asymm hl
    · exact ltF_irrefl _⟩
theorem HpDn.done {K : Nat → Fn} {n i j : Nat} (h : HpDn K n i) (hc : Child K n i j) (hl : ¬ ltF (K j) (K i)) : HpOk K n := fun c h0 hn => by
  by_cases hp : (c - 1) / 2 = i
  · rw [hp]; exact ltF_ntrans (hc.min c h0 hn hp) hl
  · exact h.1 c h0 hn hp
theorem HpDn.step {K : Nat → Fn} {n i j : Nat} (h : HpDn K n i) (hc : Child K n i j) (hl : ltF (K j) (K i)) : HpDn (swK K i j) n j := by
  have h1 := hc.par
  have h2 := hc.pos
  have h3 := hc.lt
  have hij : j ≠ i := by omega
  refine ⟨fun c h0 hn hp => ?_, fun c h0 hn hp hj => ?_⟩
  · by_cases hci : c = i
    · subst hci
      rw [swK_i, swK_k (show (c - 1) / 2 ≠ c by omega) hp]
      exact h.2 j h2 h3 h1 h0
    · by_cases hcj : c = j
      · subst hcj
        rw [swK_j hij, h1, swK_i]
        exact ltF_asymm hl
      · rw [swK_k hci hcj]
        by_cases hpi : (c - 1) / 2 = i
        · rw [hpi, swK_i]
          exact hc.min c h0 hn hpi
        · rw [swK_k hpi hp]
          exact h.1 c h0 hn hpi
  · rw [h1, swK_i, swK_k (by omega) (by omega)]
    have := h.1 c h0 hn (by omega)
    rw [hp] at this
    exact this

/-! ### Lists that are exchanged -/
section
variable {α : Type}
def swL (l : List α) (i j : Nat) : List α := match l[i]?, l[j]? with
  | some x, some y => (l.set i y).set j x
  | _, _ => l
theorem swL_eq {l : List α} {i j : Nat} {x y : α} (hx : l[i]? = some x) (hy : l[j]? = some y) : swL l i j = (l.set i y).set j x := by unfold swL; rw [hx, hy]
theorem swL_length (l : List α) (i j : Nat) : (swL l i j).length = l.length := by
  unfold swL
  rcases l[i]? with _ | x
  · rfl
  · rcases l[j]? with _ | y
    · rfl
    · simp
theorem swL_perm (l : List α) (i j : Nat) : (swL l i j).Perm l := by
  unfold swL
  rcases hx : l[i]? with _ | x
  · exact List.Perm.refl _
  · rcases hy : l[j]? with _ | y
    · exact List.Perm.refl _
    · obtain ⟨hi, rfl⟩ := List.getElem?_eq_some_iff.1 hx
      obtain ⟨hj, rfl⟩ := List.getElem?_eq_some_iff.1 hy
      exact List.set_set_perm hi hj
theorem swL_get (l : List α) {i j : Nat} (hi : i < l.length) (hj : j < l.length) (k : Nat) : (swL l i j)[k]? = if k = i then l[j]? else if k = j then l[i]? else l[k]? := by
  rw [swL_eq (List.getElem?_eq_getElem hi) (List.getElem?_eq_getElem hj)]
  by_cases hkj : k = j
  · subst hkj
    rw [List.getElem?_set_self (by simpa using hj)]
    by_cases hki : k = i
    · subst hki; rw [if_pos rfl]; exact (List.getElem?_eq_getElem hi).symm
    · rw [if_neg hki, if_pos rfl]; exact (List.getElem?_eq_getElem hi).symm
  · rw [List.getElem?_set_ne (Ne.symm hkj)]
    by_cases hki : k = i
    · subst hki
      rw [if_pos rfl, List.getElem?_set_self hi]
      exact (List.getElem?_eq_getElem hj).symm
    · rw [if_neg hki, if_neg hkj, List.getElem?_set_ne (Ne.symm hki)]
theorem swL_map {β : Type} (f : α → β) (l : List α) (i j : Nat) : (swL l i j).map f = swL (l.map f) i j := by
  unfold swL
  rw [List.getElem?_map, List.getElem?_map]
  rcases l[i]? with _ | x
  · rfl
  · rcases l[j]? with _ | y
    · rfl
    · simp [List.map_set]
end

/-! ### A merge of ordered lists -/
def f0 : Fn := (0, 0, 0, 0, [])
def hdF (gs : List Fn) : Fn := gs.headD f0
def keyL (ls : List (List Fn)) : Nat → Fn := fun k => hdF (ls.getD k [])
theorem keyL_sw {ls : List (List Fn)} {i j : Nat} (hi : i < ls.length) (hj : j < ls.length) : keyL (swL ls i j) = swK (keyL ls) i j := by
  funext k
  unfold keyL swK
  simp only [List.getD, swL_get ls hi hj k]
  by_cases h : k = i
  · rw [if_pos h, if_pos h]
  · rw [if_neg h, if_neg h]
    by_cases h2 : k = j
    · rw [if_pos h2, if_pos h2]
    · rw [if_neg h2, if_neg h2]
/-- what a merge knows: 'out' was taken, 'ls' are the lists that are left, 'all' is everything -/
structure Mrg (out : List Fn) (ls : List (List Fn)) (all : List Fn) : Prop where
  perm : (out ++ ls.flatten).Perm all
  full : ∀ g ∈ ls, g ≠ []
  asc : ∀ g ∈ ls, g.Pairwise leF
  srt : out.Pairwise leF
  low : ∀ x ∈ out, ∀ g ∈ ls, ∀ y ∈ g, leF x y
theorem Mrg.perms {out : List Fn} {ls ls' : List (List Fn)} {all : List Fn} (h : Mrg out ls all) (hp : ls'.Perm ls) : Mrg out ls' all :=
  ⟨(List.Perm.append_left out hp.flatten).trans h.perm, fun g hg => h.full g (hp.mem_iff.1 hg), fun g hg => h.asc g (hp.mem_iff.1 hg), h.srt, fun x hx g hg => h.low x hx g (hp.mem_iff.1 hg)⟩
theorem Mrg.add {ls : List (List Fn)} {all g : List Fn} (h : Mrg [] ls all) (hg : g ≠ []) (ha : g.Pairwise leF) : Mrg [] (ls ++ [g]) (all ++ g) := by
  refine ⟨?_, fun x hx => ?_, fun x hx => ?_, List.Pairwise.nil, fun x hx => by simp at hx⟩
  · have := h.perm
    simp only [List.nil_append, List.flatten_append, List.flatten_cons, List.flatten_nil, List.append_nil] at this ⊢
    exact this.append_right g
  · simp only [List.mem_append, List.mem_singleton] at hx
    rcases hx with hx | rfl
    · exact h.full x hx
    · exact hg
  · simp only [List.mem_append, List.mem_singleton] at hx
    rcases hx with hx | rfl
    · exact h.asc x hx
    · exact ha
theorem Mrg.empty {ls : List (List Fn)} {all : List Fn} (h : Mrg [] ls all) : Mrg [] ls (all ++ []) := by rw [List.append_nil]; exact h
theorem Mrg.none : Mrg [] [] [] := ⟨List.Perm.refl _, by simp, by simp, List.Pairwise.nil, by simp⟩
/-- the first frame of all is taken, what is left of its list stays -/
theorem Mrg.take {out : List Fn} {ls : List (List Fn)} {all t : List Fn} {x : Fn} (h : Mrg out ((x :: t) :: ls) all) (hm : ∀ g ∈ ls, ∀ y, g.head? = some y → leF x y) :
    Mrg (out ++ [x]) (if t = [] then ls else ls ++ [t]) all := by
  have hx := h.asc _ (List.mem_cons_self)
  have hxt := (List.pairwise_cons.1 hx).1
  have ht := (List.pairwise_cons.1 hx).2
  have hlow : ∀ g ∈ ls, ∀ y ∈ g, leF x y := by
    intro g hg y hy
    have hgne := h.full g (List.mem_cons_of_mem _ hg)
    obtain ⟨z, g', rfl⟩ := List.exists_cons_of_ne_nil hgne
    have h1 := hm _ hg z rfl
    rcases List.mem_cons.1 hy with rfl | hy
    · exact h1
    · exact leF_trans h1 ((List.pairwise_cons.1 (h.asc _ (List.mem_cons_of_mem _ hg))).1 y hy)
  have hout : (out ++ [x]).Pairwise leF := List.pairwise_append.2 ⟨h.srt, List.pairwise_singleton _ _, fun a ha b hb => by
    simp only [List.mem_singleton] at hb
    subst hb
    exact h.low a ha _ List.mem_cons_self _ List.mem_cons_self⟩
  by_cases hte : t = []
  · rw [if_pos hte]
    subst hte
    refine ⟨?_, fun g hg => h.full g (List.mem_cons_of_mem _ hg), fun g hg => h.asc g (List.mem_cons_of_mem _ hg), hout, fun a ha g hg y hy => ?_⟩
    · have := h.perm
      simpa using this
    · simp only [List.mem_append, List.mem_singleton] at ha
      rcases ha with ha | rfl
      · exact h.low a ha g (List.mem_cons_of_mem _ hg) y hy
      · exact hlow g hg y hy
  · rw [if_neg hte]
    have mem : ∀ g ∈ ls ++ [t], g ∈ ls ∨ g = t := fun g hg => by simpa using hg
    refine ⟨?_, fun g hg => ?_, fun g hg => ?_, hout, fun a ha g hg y hy => ?_⟩
    · have := h.perm
      refine List.Perm.trans ?_ this
      simp only [List.flatten_append, List.flatten_cons, List.flatten_nil, List.append_nil, List.append_assoc, List.cons_append, List.nil_append]
      exact List.Perm.append_left out (List.Perm.cons x List.perm_append_comm)
    · rcases mem g hg with hg | rfl
      · exact h.full g (List.mem_cons_of_mem _ hg)
      · exact hte
    · rcases mem g hg with hg | rfl
      · exact h.asc g (List.mem_cons_of_mem _ hg)
      · exact ht
    · simp only [List.mem_append, List.mem_singleton] at ha
      rcases ha with ha | rfl
      · rcases mem g hg with hg | rfl
        · exact h.low a ha g (List.mem_cons_of_mem _ hg) y hy
        · exact h.low a ha _ List.mem_cons_self y (List.mem_cons_of_mem _ hy)
      · rcases mem g hg with hg | rfl
        · exact hlow g hg y hy
        · exact hxt y hy
theorem Mrg.end_ {out all : List Fn} (h : Mrg out [] all) : out.Perm all ∧ out.Pairwise leF := ⟨by simpa using h.perm, h.srt⟩

/-! ### The same as the document's order -/
theorem placeF_perm (fs : List Fn) (x : Fn) : (insF fs x).Perm (x :: fs) := by
  unfold insF
  refine List.Perm.trans List.perm_middle ?_
  rw [List.take_append_drop]
theorem insAll_perm (gs : List Fn) : ∀ fs, (insAll fs gs).Perm (fs ++ gs) := by
  induction gs with
  | nil => intro fs; simp [insAll]
  | cons g gs ih =>
    intro fs
    show (insAll (insF fs g) gs).Perm _
    refine (ih _).trans (((placeF_perm fs g).append_right gs).trans ?_)
    exact List.perm_middle.symm
theorem foldAll_perm (zs : List (List Fn)) : ∀ fs, (zs.foldl insAll fs).Perm (fs ++ zs.flatten) := by
  induction zs with
  | nil => intro fs; simp
  | cons g gs ih =>
    intro fs
    rw [List.foldl_cons, List.flatten_cons, ← List.append_assoc]
    exact (ih _).trans ((insAll_perm g fs).append_right _)
theorem orderF_perm (zs : List (List Fn)) : (orderF zs).Perm zs.flatten := by unfold orderF; simpa using foldAll_perm zs []
/-- f lies ahead of x in its zone, or in an earlier zone -/
def ahF (f x : Fn) : Prop := f.1 < x.1 ∨ (f.1 = x.1 ∧ f.2.1 < x.2.1)
theorem insF_le {fs : List Fn} {x : Fn} (h : fs.Pairwise leF) (hx : ∀ f ∈ fs, ahF f x) : (insF fs x).Pairwise leF := by
  have hasc : ascF fs := h.imp fun h => leF_seq h
  obtain ⟨h1, h2⟩ := placeF_spec (x := x) hasc fs.length (Nat.le_refl _)
  have hl := placeF_le fs x fs.length
  unfold insF
  have ht : ∀ f ∈ fs.take (placeF fs x fs.length), leF f x := by
    intro f hf
    have ha := hx f (List.mem_of_mem_take hf)
    obtain ⟨j, hj⟩ := List.getElem?_of_mem hf
    have hlt : j < placeF fs x fs.length := by
      have := (List.getElem?_eq_some_iff.1 hj).1
      rw [List.length_take] at this
      omega
    rw [List.getElem?_take_of_lt hlt] at hj
    have := h1 j f hlt hj
    unfold leF ltF
    unfold ahF at ha
    omega
  have hd : ∀ f ∈ fs.drop (placeF fs x fs.length), leF x f := by
    intro f hf
    obtain ⟨j, hj⟩ := List.getElem?_of_mem hf
    rw [List.getElem?_drop] at hj
    have := (List.getElem?_eq_some_iff.1 hj).1
    have := h2 _ f (by omega) this hj
    unfold leF ltF
    omega
  refine List.pairwise_append.2 ⟨List.Pairwise.sublist (List.take_sublist _ _) h, List.pairwise_cons.2 ⟨hd, List.Pairwise.sublist (List.drop_sublist _ _) h⟩, fun f hf g hg => ?_⟩
  simp only [List.mem_cons] at hg
  rcases hg with rfl | hg
  · exact ht f hf
  · exact leF_trans (ht f hf) (hd g hg)
theorem insAll_le (gs : List Fn) : ∀ fs, fs.Pairwise leF → (∀ f ∈ fs, ∀ g ∈ gs, ahF f g) → gs.Pairwise ahF → (insAll fs gs).Pairwise leF := by
  induction gs with
  | nil => intro fs h _ _; exact h
  | cons g gs ih =>
    intro fs h hx hp
    refine ih _ (insF_le h (fun f hf => hx f hf g List.mem_cons_self)) (fun f hf k hk => ?_) (List.pairwise_cons.1 hp).2
    rcases (insF_mem fs g f).1 hf with rfl | hf
    · exact (List.pairwise_cons.1 hp).1 k hk
    · exact hx f hf k (List.mem_cons_of_mem _ hk)
theorem orderF_le (zs : List (List Fn)) (h1 : ∀ (i j : Nat) (a b : List Fn), i < j → zs[i]? = some a → zs[j]? = some b → ∀ f ∈ a, ∀ g ∈ b, f.1 < g.1) (h2 : ∀ g ∈ zs, g.Pairwise ahF) : (orderF zs).Pairwise leF := by
  have : ∀ (zs : List (List Fn)) (fs : List Fn), fs.Pairwise leF → (∀ f ∈ fs, ∀ a ∈ zs, ∀ g ∈ a, f.1 < g.1) → (zs.Pairwise fun a b => ∀ f ∈ a, ∀ g ∈ b, f.1 < g.1) → (∀ g ∈ zs, g.Pairwise ahF) → (zs.foldl insAll fs).Pairwise leF := by
    intro zs
    induction zs with
    | nil => intro fs h _ _ _; exact h
    | cons a zs ih =>
      intro fs h hf hp ha
      rw [List.foldl_cons]
      refine ih _ (insAll_le a fs h (fun f hf' g hg => .inl (hf f hf' a List.mem_cons_self g hg)) (ha a List.mem_cons_self)) (fun f hf' b hb g hg => ?_) (List.pairwise_cons.1 hp).2 (fun g hg => ha g (List.mem_cons_of_mem _ hg))
      rcases (insAll_mem a f fs).1 hf' with hfa | hff
      · exact (List.pairwise_cons.1 hp).1 b hb f hfa g hg
      · exact hf f hff b (List.mem_cons_of_mem _ hb) g hg
  refine this zs [] List.Pairwise.nil (by simp) ?_ h2
  rw [List.pairwise_iff_getElem]
  intro i j hi hj hij f hf g hg
  exact h1 i j _ _ hij (List.getElem?_eq_getElem hi) (List.getElem?_eq_getElem hj) f hf g hg
theorem orderF_eq {out : List Fn} {zs : List (List Fn)} (h : (orderF zs).Pairwise leF) (hk : ∀ f ∈ zs.flatten, ∀ g ∈ zs.flatten, f.1 = g.1 → f.2.1 = g.2.1 → f = g) (hp : out.Perm zs.flatten) (ho : out.Pairwise leF) : out = orderF zs := by
  refine List.Perm.eq_of_pairwise (le := leF) (fun a b ha hb h1 h2 => ?_) ho h (hp.trans (orderF_perm zs).symm)
  obtain ⟨_, e1, e2⟩ := leF_key h1 h2
  exact hk a (hp.mem_iff.1 ha) b ((orderF_perm zs).mem_iff.1 hb) e1 e2
end Go.Proofs.YtfianpjoifcphaaGreat

/- Mrg -/
namespace Go.Proofs.YtfianpjoifcphaaGreat
open Go.RowKit
set_option linter.unusedVariables false
set_option maxRecDepth 100000

/-- a list of the heap: where it lies, its frames -/
structure Hq where
  addr : Option Addr
  cap : Nat
  qs : List Fq
def Hq.sl (h : Hq) : Value := .slice h.addr h.qs.length h.cap
def Hq.fs (h : Hq) : List Fn := fns h.qs
def slH (hs : List Hq) : List Value := hs.map Hq.sl
def fnH (hs : List Hq) : List (List Fn) := hs.map Hq.fs
theorem slH_length (hs : List Hq) : (slH hs).length = hs.length := by unfold slH; rw [List.length_map]
theorem slH_get {hs : List Hq} {k : Nat} {h : Hq} (e : hs[k]? = some h) : (slH hs)[k]? = some h.sl := by unfold slH; rw [List.getElem?_map, e]; rfl
theorem slH_one (hs : List Hq) : ∀ u ∈ slH hs, u.oneCell' = true := by
  intro u hu
  obtain ⟨h, _, rfl⟩ := List.mem_map.1 hu
  rfl
theorem fnH_length (hs : List Hq) : (fnH hs).length = hs.length := by unfold fnH; rw [List.length_map]
theorem keyL_at {hs : List Hq} {k : Nat} {h : Hq} (e : hs[k]? = some h) : keyL (fnH hs) k = hdF h.fs := by
  unfold keyL fnH
  simp [List.getD, List.getElem?_map, e]

/-- only cells of mergers and rows of lists are turned; what lies below base is as it was -/
structure Trn (base : Nat) (w w' : World) : Prop where
  below : Below base w w'
  keep : ∀ k cs t, Blk w k t cs → t ≠ 152 → t ≠ 86 → Blk w' k t cs
section
variable {base : Nat} {a b w w' : World}
theorem Trn.refl (base : Nat) (w : World) : Trn base w w := ⟨Below.refl _ _, fun _ _ _ h _ _ => h⟩
theorem Trn.trans {c : World} (h : Trn base a b) (k : Trn base b c) : Trn base a c := ⟨h.below.trans k.below, fun i cs t e h1 h2 => k.keep i cs t (h.keep i cs t e h1 h2) h1 h2⟩
theorem Trn.of_below (h : Below w.heap.size w w') (hb : base ≤ w.heap.size) : Trn base w w' :=
  ⟨h.mono hb, fun k cs t e _ _ => e.below h e.lt⟩
theorem Trn.drewN (h : Trn base a w) (i : Nat) : Trn base a (w.drewN i) := ⟨below_drewN h.below i, h.keep⟩
theorem Trn.undrewN {i : Nat} (h : Trn base (a.drewN i) w) : Trn base a w := ⟨⟨h.below.os, h.below.tape, h.below.output, h.below.size, h.below.block⟩, h.keep⟩
theorem Trn.alloc (h : Trn base a w) (hb : base ≤ w.heap.size) (o : Obj) : Trn base a (w.alloc o) := h.trans (.of_below ((Below.refl _ w).alloc (Nat.le_refl _) o) hb)
theorem Trn.size (h : Trn base w w') : w.heap.size ≤ w'.heap.size := h.below.size
/-- one block of a merger or of a row of lists is turned -/
theorem Trn.of_grown {g : Nat} {cs : Array Value} {t : TypeId} (h : w.grownBy w' (some g)) (hg : base ≤ g) (hw : base ≤ w.heap.size) (hb : Blk w g t cs) (ht : t = 152 ∨ t = 86) : Trn base w w' :=
  ⟨below_of_grown' h hw (by intro q hq; injection hq with hq; omega), fun k cs' t' e h1 h2 => by
    have hl : k < w.heap.size := e.lt
    have hne : k ≠ g := by
      intro e2
      subst e2
      unfold Blk at hb e
      rw [hb] at e
      injection e with e
      injection e with e3 e4
      rcases ht with ht | ht
      · exact h1 (e4.symm.trans ht)
      · exact h2 (e4.symm.trans ht)
    exact e.grown h (by intro e2; injection e2 with e2; exact hne e2)⟩
theorem Trn.blk {k : Nat} {t : TypeId} {cs : Array Value} (h : Trn base w w') (hb : Blk w k t cs) (h1 : t ≠ 152) (h2 : t ≠ 86) : Blk w' k t cs := h.keep k cs t hb h1 h2
theorem Trn.row {B n s : Nat} {t : TypeId} {v : Value} {xs : List Value} (h : Trn base w w') (hr : w.ownsRow B t s v n xs) (h1 : t ≠ 152) (h2 : t ≠ 86) : w'.ownsRow B t s v n xs := by
  refine ⟨hr.1, ?_⟩
  rcases hr.2 with h0 | ⟨g, cap, cur, e1, e2, e3, e4⟩
  · exact .inl h0
  · exact .inr ⟨g, cap, cur, e1, e2, h.keep g cur t e3 h1 h2, e4⟩
theorem Trn.own {B n c : Nat} {A : Option Addr} {xs : List Int} (h : Trn base w w') (ho : Own w B A n c xs) : Own w' B A n c xs := ⟨ho.1, h.row ho.2 (by decide) (by decide)⟩
theorem Trn.ownF {B n c : Nat} {A : Option Addr} {qs : List Fq} (h : Trn base w w') (ho : OwnF w B A n c qs) : OwnF w' B A n c qs :=
  ⟨ho.len, h.row ho.row (by decide) (by decide), fun k q hk => h.own (ho.own k q hk), ho.sep⟩
end

/-- a list of the heap: its frames can be read, in a block of frames; it has some -/
structure LstOk (w : World) (base : Nat) (h : Hq) : Prop where
  full : h.qs ≠ []
  cap : h.qs.length ≤ h.cap ∧ h.cap ≤ maxLen
  mem : ∃ (ad : Addr) (cs : Array Value), h.addr = some ad ∧ ad.spot = none ∧ base ≤ ad.block ∧ Blk w ad.block 156 cs ∧ ∀ j u, (flatF h.qs)[j]? = some u → w.cell? (ad.add j) = some u

section
variable {base : Nat} {w w' : World} {h : Hq}
theorem LstOk.trn (hl : LstOk w base h) (ht : Trn base w w') : LstOk w' base h := by
  obtain ⟨ad, cs, e, e2, hb, hk, hc⟩ := hl.mem
  have hk' := ht.keep _ _ _ hk (by decide) (by decide)
  exact ⟨hl.full, hl.cap, ad, cs, e, e2, hb, hk', fun j u hu => (World.cell?_of_block (by rw [block_of_add]; unfold Blk at hk hk'; rw [hk, hk'])).trans (hc j u hu)⟩
theorem LstOk.lt (hl : LstOk w base h) : ∃ ad, h.addr = some ad ∧ ad.block < w.heap.size := by
  obtain ⟨ad, cs, e, e2, hb, hk, hc⟩ := hl.mem
  exact ⟨ad, e, hk.lt⟩
/-- its first frame -/
theorem LstOk.head (hl : LstOk w base h) : ∃ (p : Addr) (q : Fq) (t : List Fq), h.addr = some p ∧ h.qs = q :: t ∧ 0 < h.qs.length ∧ p.block < w.heap.size ∧ w.cell? p = some (.int .i64 q.zone) ∧
    w.cell? ⟨p.block, p.off + 1, none⟩ = some (.int .i64 q.word) ∧ w.cell? ⟨p.block, p.off + 2, none⟩ = some (.int .i64 q.kind) ∧ w.cell? ⟨p.block, p.off + 3, none⟩ = some (.int .i64 q.seq) ∧ w.cell? ⟨p.block, p.off + 4, none⟩ = some q.sl := by
  obtain ⟨ad, cs, e, e2, hb, hk, hc⟩ := hl.mem
  obtain ⟨q, t, hq⟩ := List.exists_cons_of_ne_nil hl.full
  have hcs : ∀ j u, (q.cells)[j]? = some u → w.cell? (ad.add j) = some u := by
    intro j u hu
    refine hc j u ?_
    rw [hq]
    rcases j with _ | _ | _ | _ | _ | j
    · exact hu
    · exact hu
    · exact hu
    · exact hu
    · exact hu
    · simp [Fq.cells] at hu
  have next : ∀ {i : Nat} {v : Value}, i ≠ 0 → w.cell? (ad.add i) = some v → w.cell? ⟨ad.block, ad.off + i, none⟩ = some v := by
    intro i v hi h
    simpa [Addr.add, hi, e2] using h
  exact ⟨ad, q, t, e, hq, by rw [hq]; exact Nat.succ_pos _, hk.lt, by have := hcs 0 _ rfl; simpa [Addr.add] using this, next (by decide) (hcs 1 _ rfl), next (by decide) (hcs 2 _ rfl), next (by decide) (hcs 3 _ rfl), next (by decide) (hcs 4 _ rfl)⟩
/-- what is left of it, once the first frame is taken -/
theorem LstOk.tail {q q2 : Fq} {t : List Fq} (hl : LstOk w base h) (hq : h.qs = q :: q2 :: t) (ad : Addr) (e : h.addr = some ad) : LstOk w base ⟨some (ad.add 5), h.cap - 1, q2 :: t⟩ := by
  obtain ⟨ad', cs, e', e2, hb, hk, hc⟩ := hl.mem
  rw [e] at e'
  injection e' with e'
  subst e'
  have hcap := hl.cap
  rw [hq] at hcap
  simp only [List.length_cons] at hcap
  refine ⟨by simp, ⟨by simp only [List.length_cons]; omega, by have := hcap.2; show h.cap - 1 ≤ maxLen; omega⟩, ad.add 5, cs, rfl, by simp [Addr.add], by rw [block_of_add]; exact hb, by rw [block_of_add]; exact hk, fun j u hu => ?_⟩
  rw [add_of_add]
  refine hc (5 + j) u ?_
  rw [hq, show 5 + j = j + 1 + 1 + 1 + 1 + 1 by omega]
  simpa [flatF] using hu
end

/-- the heap in memory: its cell in block b, its row, its lists -/
structure Mg (w : World) (base b : Nat) (A : Option Addr) (n c : Nat) (hs : List Hq) : Prop where
  cell : Blk w b 152 #[.slice A n c]
  row : w.ownsRow base 86 1 (.slice A n c) n (slH hs)
  len : hs.length = n
  bb : base ≤ b
  lst : ∀ h ∈ hs, LstOk w base h
  small : n ≤ 1000
section
variable {base b n c : Nat} {w w' : World} {A : Option Addr} {hs : List Hq}
theorem Mg.below (h : Mg w base b A n c hs) (hb : Below w.heap.size w w') (hw : base ≤ w.heap.size) : Mg w' base b A n c hs :=
  ⟨h.cell.below hb h.cell.lt, h.row.kept (grown_of_below hb none) (by
    rcases hv : (Value.slice A n c).ownBlock with _ | g
    · exact .inl rfl
    · exact .inr (by simp)), h.len, h.bb, fun x hx => (h.lst x hx).trn (.of_below hb hw), h.small⟩
theorem Mg.drewN (h : Mg w base b A n c hs) (i : Nat) : Mg (w.drewN i) base b A n c hs := ⟨h.cell, h.row, h.len, h.bb, fun x hx => (h.lst x hx).trn ((Trn.refl _ _).drewN i), h.small⟩
theorem Mg.bw (h : Mg w base b A n c hs) : base ≤ w.heap.size := Nat.le_trans h.bb (Nat.le_of_lt h.cell.lt)
/-- list k of the row -/
theorem Mg.at_ (h : Mg w base b A n c hs) {k : Nat} {x : Hq} (hk : hs[k]? = some x) : ∃ g, A = some ⟨g, 0, none⟩ ∧ base ≤ g ∧ g < w.heap.size ∧ g ≠ b ∧ w.cell? ⟨g, k, none⟩ = some x.sl ∧ w.frozen? ⟨g, k, none⟩ = false ∧ ∃ cur, Blk w g 86 cur := by
  have hl : k < n := by rw [← h.len]; exact (List.getElem?_eq_some_iff.1 hk).1
  rcases h.row.2 with ⟨hv, h0⟩ | ⟨g, cap, cur, hv, hb, hh, hc, hm, hs', ht⟩
  · omega
  · injection hv with h1 h2 h3
    subst h1
    have hbl : Blk w g 86 cur := hh
    refine ⟨g, rfl, hb, hbl.lt, fun e => ?_, ?_, hbl.frozen k, cur, hbl⟩
    · subst e
      have hc := h.cell
      unfold Blk at hc
      rw [hc] at hh
      injection hh with hh
      injection hh with _ e4
      exact absurd e4 (by decide)
    · have hc := h.row.cells rfl k x.sl (slH_get hk)
      rwa [add_plain'] at hc
theorem Mg.nilA (h : Mg w base b A n c hs) : n ≤ c ∧ c ≤ maxLen := by
  rcases h.row.2 with ⟨hv, h0⟩ | ⟨g, cap, cur, hv, hb, hh, hc, hm, hs, ht⟩
  · injection hv with _ h1 h2; subst h1; subst h2; exact ⟨Nat.le_refl _, Nat.zero_le _⟩
  · injection hv with _ _ h2; subst h2; exact ⟨hc, hm⟩
end
end Go.Proofs.YtfianpjoifcphaaGreat
