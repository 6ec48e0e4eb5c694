/-
  The exact laws' equality of volumes.
-/
import Derived.Test.YtfianpjoifcphaaVolI
import Derived.Test.YtfianpjoifcphaaExHZ
import Derived.Test.YtfianpjoifcphaaExHO
import Derived.Test.YtfianpjoifcphaaExHM
namespace Go.Proofs.Ytfianpjoifcphaa
open Go.RowKit
set_option linter.unusedVariables false
set_option maxRecDepth 100000

set_option maxHeartbeats 3200000 in
theorem eqVolume_yes (q r : Vq) (B B' : Nat) (w : World) (hq : VolI w B q) (hB : B ≤ w.heap.size) (hr : VolI w B' r) (hB' : B' ≤ w.heap.size) (h : q.vol = r.vol) (n1 : q.dn ≤ maxLen) (n2 : q.sn ≤ maxLen) (n3 : q.mn ≤ 1000000000) (n4 : q.hn ≤ maxLen) :
    Calls Try.prog 8 #[q.val, r.val] w fun e w' => e = .returned (.bool true) ∧ Below w.heap.size w w' := by
  obtain ⟨dev, dA, dn, dc, sto, sA, sn, sc, map, mA, mn, mc, heat, hA, hn, hc, seq, zone⟩ := q
  obtain ⟨dev', dA', dn', dc', sto', sA', sn', sc', map', mA', mn', mc', heat', hA', hn', hc', seq', zone'⟩ := r
  simp only [Vq.vol, Vol.mk.injEq] at h
  obtain ⟨h1, h2, rfl, rfl, rfl, rfl⟩ := h
  obtain rfl : dn = dn' := by
    have a := hq.dev.1
    have b := hr.dev.1
    have c : (zns dev).length = (zns dev').length := by rw [h1]
    unfold zns at c
    simp only [List.length_map] at c
    simp only at a b
    omega
  obtain rfl : sn = sn' := by
    have a := hq.sto.1
    have b := hr.sto.1
    have c : (obs sto).length = (obs sto').length := by rw [h2]
    unfold obs at c
    simp only [List.length_map] at c
    simp only at a b
    omega
  obtain rfl : mn = mn' := hq.map.1.symm.trans hr.map.1
  obtain rfl : hn = hn' := hq.heat.1.symm.trans hr.heat.1
  have HQ := hide fun (o o' : Obj) => (hq.alloc hB o).alloc (by simp; omega) o'
  have HR := hide fun (o o' : Obj) => (hr.alloc hB' o).alloc (by simp; omega) o'
  have HB := hide fun (o o' : Obj) => ((below_box w o).alloc (by simp) o' : Below w.heap.size w ((w.alloc o).alloc o'))
  have XA := hide ((Blk.new w 29 #[.slice dA dn dc, .slice sA sn sc, .slice mA mn mc, .slice hA hn hc, .int .i64 seq, .int .i64 zone]).alloc (.cells #[.slice dA' dn dc', .slice sA' sn sc', .slice mA' mn mc', .slice hA' hn hc', .int .i64 seq, .int .i64 zone] 29))
  have XB := hide (Blk.new (w.alloc (.cells #[.slice dA dn dc, .slice sA sn sc, .slice mA mn mc, .slice hA hn hc, .int .i64 seq, .int .i64 zone] 29)) 29 #[.slice dA' dn dc', .slice sA' sn sc', .slice mA' mn mc', .slice hA' hn hc', .int .i64 seq, .int .i64 zone])
  have H1 := hide h1
  have H2 := hide h2
  simp only at n1 n2 n3 n4
  clear hq hr h1 h2
  unfold Vq.val
  simp only
  go_enter Try.func8, Try.ntmps8
  go_wp2_with fail
  refine (eqZoneS_yes dA dA' dn dc dc' B B' dev dev' _ (HQ.out _ _).dev (HR.out _ _).dev (by simp; omega) (by simp; omega) n1 H1.out).mono ?_
  rintro e w1 ⟨rfl, hb1⟩
  have HB1 := hide ((HB.out _ _).trans (hb1.mono (by simp; omega)))
  have HQ1 := hide ((HQ.out _ _).below hb1 (by simp; omega))
  have HR1 := hide ((HR.out _ _).below hb1 (by simp; omega))
  have hs1 := hb1.size
  simp at hs1
  have XA1 := hide (XA.out.below hb1 XA.out.lt)
  have XB1 := hide (XB.out.below hb1 XB.out.lt)
  have a1 := XA1.out.cell 1
  have b1 := XB1.out.cell 1
  simp at a1 b1
  clear hb1 HQ HR HB
  go_wp2_with fail
  refine (eqObjectS_yes sA sA' sn sc sc' B B' sto sto' _ HQ1.out.sto HR1.out.sto (by omega) (by omega) n2 H2.out).mono ?_
  rintro e w2 ⟨rfl, hb2⟩
  have HB2 := hide (HB1.out.trans (hb2.mono HB1.out.size))
  have HQ2 := hide (HQ1.out.below hb2 (by omega))
  have HR2 := hide (HR1.out.below hb2 (by omega))
  have hs2 := hb2.size
  have XA2 := hide (XA1.out.below hb2 XA1.out.lt)
  have XB2 := hide (XB1.out.below hb2 XB1.out.lt)
  have a2 := XA2.out.cell 2
  have b2 := XB2.out.cell 2
  simp at a2 b2
  clear hb2 a1 b1 HQ1 HR1 HB1
  go_wp2_with fail
  refine (eqWhereS_yes mA mA' mn mc mc' B B' _ _ HQ2.out.map.2 (by omega) HR2.out.map.2 (by omega) n3).mono ?_
  rintro e w3 ⟨rfl, hb3⟩
  have HB3 := hide (HB2.out.trans (hb3.mono HB2.out.size))
  have HQ3 := hide (HQ2.out.below hb3 (by omega))
  have HR3 := hide (HR2.out.below hb3 (by omega))
  have XA3 := hide (XA2.out.below hb3 XA2.out.lt)
  have XB3 := hide (XB2.out.below hb3 XB2.out.lt)
  have a3 := XA3.out.cell 3
  have b3 := XB3.out.cell 3
  have a4 := XA3.out.cell 4
  have b4 := XB3.out.cell 4
  have a5 := XA3.out.cell 5
  have b5 := XB3.out.cell 5
  simp at a4 b4 a5 b5
  simp at a3 b3
  clear hb3 a2 b2 HQ2 HR2 HB2
  go_wp2_with fail
  refine (eqIntS_yes hA hA' hn hc hn hc' B B' heat heat _ HQ3.out.heat HR3.out.heat n4 n4 rfl).mono ?_
  rintro e w4 ⟨rfl, nq, rfl⟩
  have a4' : (w3.drewN nq).cell? _ = _ := a4
  have b4' : (w3.drewN nq).cell? _ = _ := b4
  have a5' : (w3.drewN nq).cell? _ = _ := a5
  have b5' : (w3.drewN nq).cell? _ = _ := b5
  go_wp2
  go_ret
  exact ⟨rfl, below_drewN HB3.out nq⟩
end Go.Proofs.Ytfianpjoifcphaa
