/-
  The exact laws' helpers on models: eqModel, markModel, heldModel; rows of a model that are turned.
-/
import Derived.Test.YtiopbgenkalfaaaExR2
import Derived.Test.YtiopbgenkalfaaaMods
import Derived.Test.YtiopbgenkalfaaaModG
import Derived.Deep.DeepCutAuto
import Derived.Deep.CutBlock
namespace Go.Proofs.Ytiopbgenkalfaaa
open Go.RowKit
set_option linter.unusedVariables false
set_option maxRecDepth 100000

set_option maxHeartbeats 1600000 in
theorem eqMod_yes (q r : Mq) (B B' : Nat) (w : World) (hq : MdI w B q) (hr : MdI w B' r) (hB : B ≤ w.heap.size) (hB' : B' ≤ w.heap.size) (hm9 : q.m ≤ 1000000000) (hx : q.xs = r.xs) (hv : vsN q.qs = vsN r.qs) :
    Calls Try.prog 20 #[.agg #[.slice q.A q.n q.c, .slice q.P q.m q.d], .agg #[.slice r.A r.n r.c, .slice r.P r.m r.d]] w fun e w' => e = .returned (.bool true) ∧ Below w.heap.size w w' := by
  obtain ⟨W, hW⟩ : ∃ W, (w.alloc (.cells #[.slice q.A q.n q.c, .slice q.P q.m q.d] 27)).alloc (.cells #[.slice r.A r.n r.c, .slice r.P r.m r.d] 27) = W := ⟨_, rfl⟩
  have HK : Hid (Kp w W [(w.heap.size + 1, 27, #[.slice r.A r.n r.c, .slice r.P r.m r.d]), (w.heap.size, 27, #[.slice q.A q.n q.c, .slice q.P q.m q.d])]) := by
    rw [← hW]
    exact ((Kp.refl w).push _ _).pushN _ (by simp) _ _
  have HQ := hide (hq.below HK.out.below hB)
  have HR := hide (hr.below HK.out.below hB')
  have hqn : q.n ≤ maxLen := by have := hq.nc; omega
  have hrn : r.n ≤ maxLen := by have := hr.nc; omega
  have hmm : r.m = q.m := by
    have h := congrArg List.length hv
    rw [vsN_length, vsN_length, hq.past.1, hr.past.1] at h
    exact h.symm
  have HRP := HR.out.past
  rw [hmm] at HRP
  have HS := hide (eqIntS_yes q.A r.A q.n q.c r.n r.c B B' q.xs r.xs W HQ.out.now HR.out.now hqn hrn hx)
  have HSS := hide fun (z : Nat) => eqIntSS_yes q.P r.P q.m q.d r.d B B' q.qs r.qs (W.drewN z) (HQ.out.past.drewN z) (HRP.drewN z) hm9 hv
  obtain ⟨⟨c0, c1⟩, _, _⟩ := HK.out.cells2
  obtain ⟨⟨d0, d1⟩, _, _⟩ := HK.out.tl.cells2
  rw [hmm] at c1
  clear hq hr hx hv hqn hrn hmm HRP
  go_enter Try.func20, Try.ntmps20
  go_upto_region 1 with (fail)
  clear hW
  go_wp2_with fail
  refine HS.out.mono ?_
  rintro e w1 ⟨rfl, z0, rfl⟩
  have x0 : (W.drewN z0).cell? ⟨w.heap.size, 1, none⟩ = some (.slice q.P q.m q.d) := d1
  have x1 : (W.drewN z0).cell? ⟨w.heap.size + 1, 1, none⟩ = some (.slice r.P q.m r.d) := c1
  go_wp2_with fail
  refine (HSS.out z0).mono ?_
  rintro e w2 ⟨rfl, z1, rfl⟩
  go_wp2
  go_ret
  exact ⟨rfl, below_drewN HK.out.below (z0 + z1)⟩

/-- an own row elsewhere than the lists is kept -/
theorem Own.only {w w' : World} {base n c : Nat} {A : Option Addr} {xs : List Int} {qs : List Nq} (h : Own w base A n c xs) (ho : OnlyN qs w w') (hne : ∀ g, (Value.slice A n c).ownBlock = some g → ∀ r ∈ qs, r.sl.ownBlock ≠ some g) : Own w' base A n c xs := by
  refine ⟨h.1, h.2.1, ?_⟩
  rcases h.2.2 with h0 | ⟨g, cap, cur, hv, hb, hh, r⟩
  · exact .inl h0
  · refine .inr ⟨g, cap, cur, hv, hb, ?_, r⟩
    rw [ho.2 g (Array.getElem?_eq_some_iff.1 hh).1 (hne g (by rw [hv]; rfl))]
    exact hh
/-- a model marked from k on -/
def mkM (k : Int) (q : Mq) : Mq := ⟨q.A, q.n, q.c, q.P, q.m, q.d, marks k q.n, markN (k + (q.n : Int)) q.qs⟩
theorem markN_sls (v : Int) (qs : List Nq) (k : Nat) (r : Nq) (h : (markN v qs)[k]? = some r) : ∃ r0, qs[k]? = some r0 ∧ r0.sl = r.sl := by
  have hl : k < qs.length := by have := (List.getElem?_eq_some_iff.1 h).1; rwa [markN_length] at this
  obtain ⟨r0, h0⟩ : ∃ r0, qs[k]? = some r0 := ⟨_, List.getElem?_eq_getElem hl⟩
  have h1 := markN_get (v := v) h0
  rw [h] at h1
  injection h1 with h1
  exact ⟨r0, h0, by rw [h1, mkn_sl]⟩
/-- own rows of a model lie below hi -/
structure LimM (q : Mq) (hi : Nat) : Prop where
  now : ∀ b, (Value.slice q.A q.n q.c).ownBlock = some b → b < hi
  past : LimN q.P q.m q.d q.qs hi
theorem OwnM.lim {w : World} {base : Nat} {q : Mq} (h : OwnM w base q) : LimM q w.heap.size := ⟨fun b hb => (h.now.block b hb).2, h.past.lim⟩
theorem LimM.more {q : Mq} {hi hi' : Nat} (h : LimM q hi) (hh : hi ≤ hi') : LimM q hi' := ⟨fun b hb => Nat.lt_of_lt_of_le (h.now b hb) hh, ⟨fun b hb => Nat.lt_of_lt_of_le (h.past.row b hb) hh, fun r hr b hb => Nat.lt_of_lt_of_le (h.past.words r hr b hb) hh⟩⟩

set_option maxHeartbeats 1600000 in
theorem markMod_any (q : Mq) (base hi : Nat) (k : Int) (w : World) (ho : OwnM w base q) (hlim : LimM q hi) (hb : base ≤ w.heap.size) (hk0 : 0 ≤ k) (hkm : mvN (k + (q.n : Int)) q.qs ≤ 1000000000) (hn : q.n ≤ 1000000000) (hm : q.m ≤ 1000000000) :
    Calls Try.prog 23 #[.agg #[.slice q.A q.n q.c, .slice q.P q.m q.d], .int .i64 k] w fun e w' => e = .returned (.int .i64 (mvN (k + (q.n : Int)) q.qs)) ∧ OwnM w' base (mkM k q) ∧ ChgN base hi w w' ∧ Kt w w' := by
  have hkn : k + (q.n : Int) ≤ 1000000000 := Int.le_trans (mvN_ge _ _) hkm
  have HK := hide ((Kp.refl w).push 27 #[.slice q.A q.n q.c, .slice q.P q.m q.d])
  have HO := hide (ho.alloc (.cells #[.slice q.A q.n q.c, .slice q.P q.m q.d] 27))
  have HL := hide hlim
  have HB1 := hide (below_new w (.cells #[.slice q.A q.n q.c, .slice q.P q.m q.d] 27))
  have HMV := hide hkm
  have hbw : base ≤ (w.alloc (.cells #[.slice q.A q.n q.c, .slice q.P q.m q.d] 27)).heap.size := by simp; omega
  have hws : w.heap.size ≤ (w.alloc (.cells #[.slice q.A q.n q.c, .slice q.P q.m q.d] 27)).heap.size := by simp
  clear ho hlim hkm
  go_enter Try.func23, Try.ntmps23
  go_upto_region 1 with (fail)
  generalize w.alloc (.cells #[.slice q.A q.n q.c, .slice q.P q.m q.d] 27) = W at HK HO HB1 hbw hws ⊢
  obtain ⟨⟨z0, z1⟩, _, _⟩ := HK.out.cells2
  go_wp2_with fail
  refine (mark_any q.A q.n q.c base k q.xs W HO.out.now hk0 (by omega) hn).mono ?_
  rintro e w1 ⟨rfl, ho1, hg1⟩
  have HG1 := hide hg1
  have HN1 := hide ho1
  have HKT1 := hide (row_kt HO.out.now.2 hg1 (by decide) (by decide))
  have HP1 := hide (HO.out.past.kept hg1 (fun g e => ⟨rows_neN HO.out.now.2 HO.out.past.row (by decide) e, fun j r hr hr2 => HO.out.sep j r hr g hr2 e⟩))
  have HC1 := hide (show ChgN base hi w w1 from ⟨((HB1.out.mono (show base ≤ w.heap.size from hb)).grown hg1 hbw (fun b hb => (HO.out.now.block b hb).1)), fun b h1 h2 =>
    (hg1.block b (Nat.lt_of_lt_of_le h2 hws) (fun e => by have := HL.out.now b e.symm; omega)).trans (HB1.out.block b h2)⟩)
  have HBK := hide ((HKT1.out w.heap.size _).1 HK.out.hd)
  have hs1 := hg1.size
  clear ho1 hg1 z0 z1
  obtain ⟨z0, z1⟩ := mod_box (q := q) HBK.out
  generalize hkk : k + (q.n : Int) = k2 at HMV ⊢
  have hk20 : 0 ≤ k2 := by omega
  go_wp2_with fail
  refine (markIntSS_any q.P q.m q.d base hi k2 q.qs w1 HP1.out HL.out.past (by omega) hk20 HMV.out hm).mono ?_
  rintro e w2 ⟨rfl, ho2, hc2, hkt2, hon2⟩
  have HO2 := hide ho2
  have HC2 := hide hc2
  have HKT2 := hide hkt2
  have HBE := hide (show OwnM w2 base (mkM k q) ∧ ChgN base hi w w2 ∧ Kt w w2 from by
    refine ⟨⟨?_, by show OwnN w2 base q.P q.m q.d (markN (k + (q.n : Int)) q.qs); rw [hkk]; exact ho2, fun j r hr g hg e => ?_⟩, ⟨HC1.out.below.trans hc2.below, fun b h1 h2 => (hc2.above b h1 (Nat.lt_of_lt_of_le h2 HC1.out.below.size)).trans (HC1.out.above b h1 h2)⟩, (Kt.below HB1.out).trans (HKT1.out.trans hkt2)⟩
    · refine HN1.out.only hon2 fun g e r hr e2 => ?_
      obtain ⟨j, hj⟩ := List.getElem?_of_mem hr
      exact HO.out.sep j r hj g e2 e
    · obtain ⟨r0, h0, h1⟩ := markN_sls _ _ _ _ hr
      exact HO.out.sep j r0 h0 g (by rw [h1]; exact hg) e)
  clear ho2 hc2 hkt2 hon2
  go_wp2
  go_ret
  exact ⟨ret_int (by rw [hkk]), HBE.out.1, HBE.out.2.1, HBE.out.2.2⟩

set_option maxHeartbeats 1600000 in
theorem heldMod_any (q : Mq) (B : Nat) (k : Int) (w : World) (hx : Ints w B q.A q.n (marks k q.n)) (hp : NyI w B q.P q.m (markN (k + (q.n : Int)) q.qs)) (hB : B ≤ w.heap.size) (hk0 : 0 ≤ k) (hkm : mvN (k + (q.n : Int)) q.qs ≤ 1000000000) (hn : q.n ≤ 1000000000) (hm : q.m ≤ 1000000000) :
    Calls Try.prog 24 #[.agg #[.slice q.A q.n q.c, .slice q.P q.m q.d], .int .i64 k] w fun e w' => e = .returned (.int .i64 (mvN (k + (q.n : Int)) q.qs)) ∧ Below w.heap.size w w' := by
  have hkn : k + (q.n : Int) ≤ 1000000000 := Int.le_trans (mvN_ge _ _) hkm
  have HK := hide ((Kp.refl w).push 27 #[.slice q.A q.n q.c, .slice q.P q.m q.d])
  have HN := hide (hx.alloc hB (.cells #[.slice q.A q.n q.c, .slice q.P q.m q.d] 27))
  have HP := hide (hp.alloc hB (.cells #[.slice q.A q.n q.c, .slice q.P q.m q.d] 27))
  have HMV := hide hkm
  have hneg : 0 ≤ mvN (k + (q.n : Int)) q.qs := Int.le_trans (show 0 ≤ k + (q.n : Int) by omega) (mvN_ge _ _)
  have HNG := hide hneg
  clear hx hp hkm hneg
  go_enter Try.func24, Try.ntmps24
  go_upto_region 1 with (fail)
  generalize w.alloc (.cells #[.slice q.A q.n q.c, .slice q.P q.m q.d] 27) = W at HK HN HP ⊢
  obtain ⟨⟨z0, z1⟩, _, _⟩ := HK.out.cells2
  go_wp2_with fail
  refine (held_any q.A q.n q.c B k W HN.out hk0 (by omega) hn).mono ?_
  rintro e w1 ⟨rfl, rfl⟩
  generalize hkk : k + (q.n : Int) = k2 at HMV HNG HP ⊢
  have hk20 : 0 ≤ k2 := by omega
  have hk2n : ¬ k2 < 0 := by omega
  have hk2m : k2 ≤ 1000000000 := by omega
  have HKK := hide hkk
  clear hkk hkn
  go_wp2_with fail
  refine (heldIntSS_any q.P q.m q.d B k2 q.qs W HP.out hk20 HMV.out hm).mono ?_
  rintro e w2 ⟨rfl, rfl⟩
  have hn0 := HNG.out
  have hn1 := HMV.out
  generalize hRR : mvN k2 q.qs = R at hn0 hn1 ⊢
  have HRR := hide hRR
  clear hRR
  have hR : ¬ R < 0 := by omega
  go_wp2
  go_ret
  exact ⟨ret_int (by rw [← HRR.out, HKK.out]), HK.out.below⟩
end Go.Proofs.Ytiopbgenkalfaaa
