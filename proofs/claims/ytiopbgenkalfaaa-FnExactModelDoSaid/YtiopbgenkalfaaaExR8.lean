/-
  The walk of FnExactModelDo.
-/
import Derived.Test.YtiopbgenkalfaaaExR7
import Derived.Test.YtiopbgenkalfaaaSpecR4
import Derived.Test.YtiopbgenkalfaaaImpR5
import Derived.Deep.RegionHeld3
namespace Go.Proofs.Ytiopbgenkalfaaa
open Go.RowKit
set_option linter.unusedVariables false
set_option maxRecDepth 100000

theorem doV_lenX {now after : List Int} {past : List (List Int)} {kd : Int} {pn : Nat} {ps : List Int} {dn : Bool} {r : List Int × List (List Int)} (h : doV now past kd pn ps dn after = some r) : r.1.length ≤ 12 ∧ r.2.length ≤ 61 ∧ ∀ l ∈ r.2, l.length ≤ 12 := by
  have hb : (modV now past && nowV after) = true := by
    rcases e : (modV now past && nowV after) with _ | _
    · rw [doV_bad e] at h; cases h
    · rfl
  have hb2 : modV now past = true ∧ nowV after = true := by simpa using hb
  have ha := nowV_len hb2.2
  by_cases hc : kd = 10 ∧ dn = true
  · obtain ⟨rfl, rfl⟩ := hc
    rw [doV_crash hb] at h
    split at h
    · injection h with h; subst h; exact ⟨by simp [ha], by simp, by simp [ha]⟩
    · cases h
  · rw [doV_else hb hc] at h
    split at h
    · cases h
    · split at h
      · injection h with h; subst h; exact ⟨by simp [ha], by simp, by simp [ha]⟩
      · injection h with h; subst h
        refine ⟨by simp [ha], ?_, fun l hl => ?_⟩
        · simp only [List.length_append, List.length_drop, List.length_cons, List.length_nil]
          omega
        · rcases List.mem_append.1 hl with hl | hl
          · have := nowV_len (List.all_eq_true.1 (modV_parts hb2.1).1 l (List.mem_of_mem_drop hl))
            omega
          · simp only [List.mem_singleton] at hl
            rw [hl, ha]
            exact Nat.le_refl _

/-- behind a drawn call of ModelDo: the result in its block -/
def MidR (w2 wx : World) (r : Option (List Int × List (List Int))) (x k : Value) : Prop :=
  ∃ (gx : Nat) (q1 : Mq), x = .pointer (some ⟨gx, 0, none⟩) ∧ k = .bool r.isSome ∧ Below w2.heap.size w2 wx ∧ EQ wx wx.heap.size gx q1 ∧ q1.xs = (r.getD ([], [])).1 ∧ vsN q1.qs = (r.getD ([], [])).2
theorem blk2X {W : World} {g : Nat} {t : TypeId} {u v : Value} (h : Blk W g t #[u, v]) : (W.cell? ⟨g, 0, none⟩ = some u ∧ W.cell? ⟨g, 1, none⟩ = some v) ∧ W.frozen? ⟨g, 0, none⟩ = false ∧ W.frozen? ⟨g, 1, none⟩ = false :=
  ⟨⟨by rw [h.cell]; rfl, by rw [h.cell]; rfl⟩, h.frozen 0, h.frozen 1⟩
theorem midR_put {w2 w6 : World} {b gx : Nat} {r : Option (List Int × List (List Int))} {q1 : Mq} {u v : Value} (hb : Below w2.heap.size w2 w6) (hx : Blk w6 gx 27 #[u, v]) (hm : OwnM w6 b q1) (h1 : q1.xs = (r.getD ([], [])).1) (h2 : vsN q1.qs = (r.getD ([], [])).2) (hgx : w2.heap.size ≤ gx) :
    MidR w2 ((w6.setCell ⟨gx, 0, none⟩ (.slice q1.A q1.n q1.c)).setCell ⟨gx, 1, none⟩ (.slice q1.P q1.m q1.d)) r (.pointer (some ⟨gx, 0, none⟩)) (.bool r.isSome) := by
  have hg := grown2 w6 gx (.slice q1.A q1.n q1.c) (.slice q1.P q1.m q1.d)
  have ne : ∀ {q : Nat}, some gx = some q → gx = q := fun e => by injection e
  have own : OwnM ((w6.setCell ⟨gx, 0, none⟩ (.slice q1.A q1.n q1.c)).setCell ⟨gx, 1, none⟩ (.slice q1.P q1.m q1.d)) b q1 := hm.kept hg fun g e => by
    have e2 := ne e
    rw [← e2]
    exact ⟨row_ne_blk hm.now.2 hx (by decide), row_ne_blk hm.past.row hx (by decide), fun k r hr => row_ne_blk (hm.past.own k r hr).2 hx (by decide)⟩
  exact ⟨gx, q1, rfl, rfl, hb.grown hg hb.size (fun g e => by have := ne e; omega), ⟨own.mdi, (hx.set_ 0 _).set_ 1 _, Nat.le_refl _⟩, h1, h2⟩
theorem midR_new {w2 w6 : World} {b : Nat} {r : Option (List Int × List (List Int))} {q1 : Mq} (hb : Below w2.heap.size w2 w6) (hm : OwnM w6 b q1) (h1 : q1.xs = (r.getD ([], [])).1) (h2 : vsN q1.qs = (r.getD ([], [])).2) :
    MidR w2 (w6.alloc (.cells #[.slice q1.A q1.n q1.c, .slice q1.P q1.m q1.d] 27)) r (.pointer (some ⟨w6.heap.size, 0, none⟩)) (.bool r.isSome) :=
  ⟨w6.heap.size, q1, rfl, rfl, hb.alloc hb.size _, ⟨(hm.alloc _).mdi, Blk.new w6 _ _, Nat.le_refl _⟩, h1, h2⟩

set_option maxHeartbeats 12800000 in
theorem exactRDo_walk (q : Mq) (K : Int) (PA LA : Option Addr) (pn pc ln lc : Nat) (ps ls : List Int) (dn : Bool) (A3 : Option Addr) (n3 c3 : Nat) (af : List Int) (w : World) (hm : MdI w w.heap.size q) (hK : -9223372036854775808 ≤ K ∧ K ≤ 9223372036854775807) (hp : Ints w w.heap.size PA (pn * 2) ps) (hpc : pn ≤ pc ∧ pc ≤ maxLen)
    (hl : Ints w w.heap.size LA ln ls) (hlc : ln ≤ lc ∧ lc ≤ maxLen) (ha : Ints w w.heap.size A3 n3 af) (hn3 : n3 ≤ c3) (hc3 : c3 ≤ maxLen) (hrng : Rng (-9223372036854775808) 9223372036854775807 af) :
    Calls Try.prog 9 #[.agg #[.slice q.A q.n q.c, .slice q.P q.m q.d], .agg #[.int .i64 K, .slice PA pn pc, .slice LA ln lc], .bool dn, .slice A3 n3 c3] w fun e w' => e = .returned (.bool true) ∧ Below w.heap.size w w' := by
  have hn' : n3 ≤ 9223372036854775807 := by unfold maxLen at hc3; omega
  have hp' : pn ≤ 9223372036854775807 := by have := hpc; unfold maxLen at this; omega
  have hl' : ln ≤ 9223372036854775807 := by have := hlc; unfold maxLen at this; omega
  obtain ⟨W, hW⟩ : ∃ W, (w.alloc (.cells #[.slice q.A q.n q.c, .slice q.P q.m q.d] 47)).alloc (.cells #[.int .i64 K, .slice PA pn pc, .slice LA ln lc] 50) = W := ⟨_, rfl⟩
  have HK := hide (show Kp w W [(w.heap.size + 1, 50, #[.int .i64 K, .slice PA pn pc, .slice LA ln lc]), (w.heap.size, 47, #[.slice q.A q.n q.c, .slice q.P q.m q.d])] by
    rw [← hW]
    exact ((Kp.refl w).push _ _).pushN _ (by simp) _ _)
  have HE := hide (show EA w W q K PA LA A3 pn pc ln lc n3 ps ls af from
    { m := hm.below HK.out.below (Nat.le_refl _), p := hp.below HK.out.below (Nat.le_refl _), l := hl.below HK.out.below (Nat.le_refl _), a := ha.below HK.out.below (Nat.le_refl _), k4 := HK.out.tl.hd, k5 := HK.out.hd, b := HK.out.below, sz := by have := HK.out.lt; omega })
  clear HK hm hp hl ha hrng hpc hlc
  go_enter Try.func9, Try.ntmps9
  go_upto_region 1 with (fail)
  clear hW
  by_cases hbig : 1048576 < n3
  · go_wp2
    go_ret
    exact ⟨rfl, HE.out.b⟩
  obtain ⟨x0, x1, _, _, _⟩ := HE.out.cells
  go_wp2_with fail
  refine (szModel_any q w.heap.size W HE.out.m HE.out.b.size).mono ?_
  rintro e w1 ⟨r, rfl, hr1, hr2, hr3, hb1⟩
  have HE1 := hide (HE.out.next hb1)
  have HR3 := hide hr3
  clear hr3 hb1 HE x0 x1
  by_cases hneg : r < 0
  · go_wp2
    go_ret
    exact ⟨rfl, HE1.out.b⟩
  obtain ⟨_, _, x2, x3, x4⟩ := HE1.out.cells
  go_wp2_with fail
  refine (szEvent_any K PA LA pn pc ln lc r w1 hp' hl' (by omega) (by omega)).mono ?_
  rintro e w2 ⟨r2, rfl, hs1, hs2, hs3, hb2⟩
  have HE2 := hide (HE1.out.next hb2)
  have HS3 := hide hs3
  clear hs3 hb2 HE1 x2 x3 x4
  by_cases hneg2 : r2 < 0
  · go_wp2
    go_ret
    exact ⟨rfl, HE2.out.b⟩
  have hmv0 : 0 ≤ mvN 0 q.qs := mvN_ge 0 q.qs
  have hmvb : mvN 0 q.qs ≤ 1048576 ∧ q.n ≤ 1048576 ∧ q.m ≤ 1048576 := by have := HR3.out (by omega); omega
  have HMB := hide hmvb.1
  have hqn : q.n ≤ 1048576 := hmvb.2.1
  have hqm : q.m ≤ 1048576 := hmvb.2.2
  have hpl : pn ≤ 1048576 ∧ ln ≤ 1048576 := by have := HS3.out (by omega); omega
  have hpn : pn ≤ 1048576 := hpl.1
  have hln : ln ≤ 1048576 := hpl.2
  have HL := hide (show ∀ r ∈ q.qs, r.ps.length ≤ 1000000000 from fun r hr => by have h1 := mvN_mem 0 q.qs r hr; have h2 := HMB.out; omega)
  have hn32 : n3 ≤ 17592186044416 := by omega
  have hn39 : n3 ≤ 1000000000 := by omega
  clear hmv0 hmvb hpl HR3 HS3
  obtain ⟨RR, hRR⟩ : ∃ RR, doV q.xs (vsN q.qs) K pn ps dn af = RR := ⟨_, rfl⟩
  have HRR := hide hRR
  clear hRR
  go_upto_region 10 with (fail)
  clear hneg hneg2 hr1 hr2 hs1 hs2
  have HB1 := hide (below_drewN (Below.refl w2.heap.size w2) 1)
  have HB2 := hide ((below_drewN (Below.refl w2.heap.size w2) 1).alloc (Nat.le_refl _) (.cells #[.slice none 0 0, .slice none 0 0] 27))
  have HC := hide fun (W' : World) (hb : Below w2.heap.size w2 W') => (HE2.out.next hb).cells
  have HTM := hide fun (W' : World) (hb : Below w2.heap.size w2 W') => toModel_any q w.heap.size W' (HE2.out.next hb).m (HE2.out.next hb).b.size hqn hqm HL.out
  have HTE := hide fun (W' : World) (hb : Below w2.heap.size w2 W') => toEvent_any K PA LA pn pc ln lc w.heap.size ps ls W' (HE2.out.next hb).p (HE2.out.next hb).l (HE2.out.next hb).b.size hpn hln
  have HTI := hide fun (W' : World) (hb : Below w2.heap.size w2 W') => toInts_any A3 n3 c3 w.heap.size af W' (HE2.out.next hb).a (HE2.out.next hb).b.size hn32
  have HDO := hide fun (W' : World) (q3 : Mq) (hv : q3.xs = q.xs ∧ vsN q3.qs = vsN q.qs ∧ q3.n = q.n ∧ q3.m = q.m) (PB LB A5 : Option Addr) (pd ld c5 : Nat) (hm : MdI W' W'.heap.size q3) (hp : Ints W' W'.heap.size PB (pn * 2) ps) (ha : Ints W' W'.heap.size A5 n3 af) (hnil : A5 = none → n3 = 0 ∧ c5 = 0) =>
    (show Calls Try.prog 17 #[.agg #[.slice q3.A q3.n q3.c, .slice q3.P q3.m q3.d], .agg #[.int .i64 K, .slice PB pn pd, .slice LB ln ld], .bool dn, .slice A5 n3 c5] W' (MPost W' (doV q.xs (vsN q.qs) K pn ps dn af)) from by
      have h := specDo q3 W'.heap.size W' PB LB A5 pn pd ln ld n3 c5 ps af K dn hm (Nat.le_refl _) hp ha (by omega) (by have := hv.2.2.1; omega) (by omega)
      rw [hv.1, hv.2.1] at h
      exact h)
  obtain ⟨y0, y1, y2, y3, y4⟩ := HC.out w2 (Below.refl _ _)
  go_cut [10, 11] from 35 to 46 (fun x k wx => Hid (MidR w2 wx (doV q.xs (vsN q.qs) K pn ps dn af) x k))
  case first =>
    go_region_held3 (fun W' => W'.cell? ⟨w.heap.size, 0, none⟩ = some (.slice q.A q.n q.c) ∧ W'.cell? ⟨w.heap.size, 1, none⟩ = some (.slice q.P q.m q.d) ∧ W'.cell? ⟨w.heap.size + 1, 0, none⟩ = some (.int .i64 K) ∧ W'.cell? ⟨w.heap.size + 1, 1, none⟩ = some (.slice PA pn pc) ∧ W'.cell? ⟨w.heap.size + 1, 2, none⟩ = some (.slice LA ln lc))
      (first
        | (with_reducible exact HK6.out)
        | (with_reducible exact HK5.out)
        | (with_reducible exact HK4.out)
        | (with_reducible exact HK3.out)
        | (exact HC.out _ (HW6.out.alloc HW6.out.size _))
        | (exact HC.out _ (HW5.out.alloc HW5.out.size _))
        | (exact HC.out _ (HW4.out.alloc HW4.out.size _))
        | (exact HC.out _ (HW3.out.alloc HW3.out.size _))
        | (exact HC.out _ (HW6.out.grown (grown2 w6 w2.heap.size _ _) HW6.out.size (fun g e => by injection e with e; omega)))
        | (exact HC.out _ (HW6.out.grown (grown2 w6 w3.heap.size _ _) HW6.out.size (fun g e => by injection e with e; have := HW3.out.size; omega)))
        | (exact HC.out _ (HW6.out.grown (grown2 w6 w4.heap.size _ _) HW6.out.size (fun g e => by injection e with e; have := HW4.out.size; omega)))
        | (exact HC.out _ (HW6.out.grown (grown2 w6 w5.heap.size _ _) HW6.out.size (fun g e => by injection e with e; have := HW5.out.size; omega)))
        | go_keep)
      ((first
        | (go_at_call 27; refine (HTM.out (w2.drewN 1) HB1.out).mono ?_; rintro e w3 ⟨q3, rfl, ho3, hx3, hv3, hn3, hm3, hb3⟩
           have HW3 := hide (HB1.out.trans hb3)
           have HK3 := hide (HC.out w3 HW3.out)
           have HO3 := hide (show OwnM w3 w2.heap.size q3 from ho3)
           have HV3 := hide (And.intro hx3 (And.intro hv3 (And.intro hn3 hm3)))
           have HX3 := hide True.intro
           clear ho3 hx3 hv3 hn3 hm3 hb3
           unfold Mq.val)
        | (go_at_call 27; refine (HTM.out _ HB2.out).mono ?_; rintro e w3 ⟨q3, rfl, ho3, hx3, hv3, hn3, hm3, hb3⟩
           have HW3 := hide (HB2.out.trans (hb3.mono (by simp)))
           have HK3 := hide (HC.out w3 HW3.out)
           have HO3 := hide (show OwnM w3 w2.heap.size q3 from ho3.mono (by simp))
           have HV3 := hide (And.intro hx3 (And.intro hv3 (And.intro hn3 hm3)))
           have HX3 := hide (show Blk w3 w2.heap.size 27 #[.slice none 0 0, .slice none 0 0] from (Blk.new (w2.drewN 1) 27 #[.slice none 0 0, .slice none 0 0]).below hb3 (by simp))
           clear ho3 hx3 hv3 hn3 hm3 hb3
           unfold Mq.val)
        | (go_at_call 28; refine (HTE.out w3 HW3.out).mono ?_; rintro e w4 ⟨PB, LB, pd, ld, rfl, hp4, hl4, hb4⟩
           have HW4 := hide (HW3.out.trans (hb4.mono HW3.out.size))
           have HK4 := hide (HC.out w4 HW4.out)
           have HO4 := hide (HO3.out.below hb4)
           have HP4 := hide hp4
           have HL4 := hide hl4
           first | (have HX4 := hide (HX3.out.below hb4 HX3.out.lt)) | (have HX4 := hide True.intro)
           clear hp4 hl4 hb4)
        | (go_at_call 28; refine (HTE.out _ (HW3.out.alloc HW3.out.size (.cells #[.slice none 0 0, .slice none 0 0] 27))).mono ?_; rintro e w4 ⟨PB, LB, pd, ld, rfl, hp4, hl4, hb4⟩
           have HW4 := hide ((HW3.out.alloc HW3.out.size (.cells #[.slice none 0 0, .slice none 0 0] 27)).trans (hb4.mono (HW3.out.alloc HW3.out.size (.cells #[.slice none 0 0, .slice none 0 0] 27)).size))
           have HK4 := hide (HC.out w4 HW4.out)
           have HO4 := hide ((HO3.out.alloc (.cells #[.slice none 0 0, .slice none 0 0] 27)).below hb4)
           have HP4 := hide (hp4.mono (b' := w3.heap.size) (by simp))
           have HL4 := hide (hl4.mono (b' := w3.heap.size) (by simp))
           have HX4 := hide ((Blk.new w3 27 #[.slice none 0 0, .slice none 0 0]).below hb4 (by simp))
           clear hp4 hl4 hb4)
        | (go_at_call 19; refine (HTI.out w4 HW4.out).mono ?_; rintro e w5 ⟨A5, c5, rfl, ho5, hb5⟩
           have HW5 := hide (HW4.out.trans (hb5.mono HW4.out.size))
           have HK5 := hide (HC.out w5 HW5.out)
           have HO5 := hide (HO4.out.below hb5)
           have HP5 := hide (HP4.out.below hb5)
           have HL5 := hide (HL4.out.below hb5)
           have HA5 := hide ho5
           first | (have HX5 := hide (HX4.out.below hb5 HX4.out.lt)) | (have HX5 := hide True.intro)
           clear ho5 hb5)
        | (go_at_call 19; refine (HTI.out _ (HW4.out.alloc HW4.out.size (.cells #[.slice none 0 0, .slice none 0 0] 27))).mono ?_; rintro e w5 ⟨A5, c5, rfl, ho5, hb5⟩
           have HW5 := hide ((HW4.out.alloc HW4.out.size (.cells #[.slice none 0 0, .slice none 0 0] 27)).trans (hb5.mono (HW4.out.alloc HW4.out.size (.cells #[.slice none 0 0, .slice none 0 0] 27)).size))
           have HK5 := hide (HC.out w5 HW5.out)
           have HO5 := hide ((HO4.out.alloc (.cells #[.slice none 0 0, .slice none 0 0] 27)).below hb5)
           have HP5 := hide ((HP4.out.alloc (.cells #[.slice none 0 0, .slice none 0 0] 27)).below hb5)
           have HL5 := hide ((HL4.out.alloc (.cells #[.slice none 0 0, .slice none 0 0] 27)).below hb5)
           have HA5 := hide (ho5.mono (b' := w4.heap.size) (by simp))
           have HX5 := hide ((Blk.new w4 27 #[.slice none 0 0, .slice none 0 0]).below hb5 (by simp))
           clear ho5 hb5)
        | (go_at_call 17; refine (HDO.out w5 q3 HV3.out PB LB A5 pd ld c5 HO5.out.mdi HP5.out.ints HA5.out.ints (fun e => by have h1 := own_nilc HA5.out e; have h2 := HA5.out.cap.1; omega)).mono ?_; rintro e w6 ⟨q1, rfl, hm6, hx6, hq6, hb6⟩
           have HX6 := hide (HX5.out.below hb6 HX5.out.lt)
           have HW6 := hide (HW5.out.trans (hb6.mono HW5.out.size))
           have HK6 := hide (HC.out w6 HW6.out)
           have HM6 := hide hm6
           have HY6 := hide (And.intro hx6 hq6)
           obtain ⟨⟨t0, t1⟩, g0, g1⟩ := blk2X HX6.out
           clear hm6 hx6 hq6 hb6
           unfold Mq.val)
        | (go_at_call 17; refine (HDO.out w5 q3 HV3.out PB LB A5 pd ld c5 HO5.out.mdi HP5.out.ints HA5.out.ints (fun e => by have h1 := own_nilc HA5.out e; have h2 := HA5.out.cap.1; omega)).mono ?_; rintro e w6 ⟨q1, rfl, hm6, hx6, hq6, hb6⟩
           have HX6 := hide True.intro
           obtain ⟨⟨t0, t1⟩, g0, g1⟩ := blk2X (Blk.new w6 27 #[.slice none 0 0, .slice none 0 0])
           have HW6 := hide (HW5.out.trans (hb6.mono HW5.out.size))
           have HK6 := hide (HC.out w6 HW6.out)
           have HM6 := hide hm6
           have HY6 := hide (And.intro hx6 hq6)
           clear hm6 hx6 hq6 hb6
           unfold Mq.val)
        | (go_at_call 17; refine (HDO.out (w5.alloc (.cells #[.slice none 0 0, .slice none 0 0] 27)) q3 HV3.out PB LB A5 pd ld c5 ((HO5.out.alloc (.cells #[.slice none 0 0, .slice none 0 0] 27)).mdi) ((HP5.out.alloc (.cells #[.slice none 0 0, .slice none 0 0] 27)).ints) ((HA5.out.alloc (.cells #[.slice none 0 0, .slice none 0 0] 27)).ints) (fun e => by have h1 := own_nilc HA5.out e; have h2 := HA5.out.cap.1; omega)).mono ?_; rintro e w6 ⟨q1, rfl, hm6, hx6, hq6, hb6⟩
           have HX6 := hide ((Blk.new w5 27 #[.slice none 0 0, .slice none 0 0]).below hb6 (by simp))
           have HW6 := hide ((HW5.out.alloc HW5.out.size (.cells #[.slice none 0 0, .slice none 0 0] 27)).trans (hb6.mono (HW5.out.alloc HW5.out.size (.cells #[.slice none 0 0, .slice none 0 0] 27)).size))
           have HK6 := hide (HC.out w6 HW6.out)
           have HM6 := hide hm6
           have HY6 := hide (And.intro hx6 hq6)
           obtain ⟨⟨t0, t1⟩, g0, g1⟩ := blk2X HX6.out
           clear hm6 hx6 hq6 hb6
           unfold Mq.val)))
    all_goals
      go_wp2
      go_meet
      have hw3 := HW3.out.size
      have hw4 := HW4.out.size
      have hw5 := HW5.out.size
      first
        | exact midR_put HW6.out HX6.out HM6.out HY6.out.1 HY6.out.2 (by omega)
        | exact midR_new HW6.out HM6.out HY6.out.1 HY6.out.2
  case rest =>
    clear HB1 HB2 HC HTM HTE HTI HDO y0 y1 y2 y3 y4
    obtain ⟨g10, q1, rfl, rfl, hb10, hq1, hx1, hv1⟩ := hcut.out
    have PE3 := hide (HE2.out.next hb10)
    have PQ3 := hide hq1
    have HV1 := hide (And.intro hx1 hv1)
    have hg10 : g10 < wc.heap.size := hq1.k.lt
    have hr0 : w.heap.size + 2 ≤ wc.heap.size := PE3.out.sz
    clear hcut hb10 hq1 hx1 hv1 HE2
    rw [HRR.out]
    obtain ⟨ok, hok⟩ : ∃ ok, RR.isSome = ok := ⟨_, rfl⟩
    have HOKK := hide hok
    rw [hok]
    clear hok
    have hoo : (ok != ok) = false := by cases ok <;> rfl
    obtain ⟨x0, x1, _, _, _⟩ := PE3.out.cells
    go_wp2_with fail
    refine (toModel_any q w.heap.size wc PE3.out.m PE3.out.b.size hqn hqm HL.out).mono ?_
    rintro e v4 ⟨q3, rfl, ho3, hx3, hv3, hn33, hm33, hb3⟩
    have HV3 := hide (And.intro hx3 (And.intro hv3 (And.intro hn33 hm33)))
    have PE4 := hide (PE3.out.next hb3)
    have PQ4 := hide (PQ3.out.next hb3)
    clear PE3
    clear PQ3
    have PX4 := hide (show EO (v4.alloc (.cells #[.slice q3.A q3.n q3.c, .slice q3.P q3.m q3.d] 27)) wc.heap.size v4.heap.size v4.heap.size q3 from ⟨ho3.alloc _, Blk.new v4 _ _, ho3.lim, by simp, hb3.size⟩)
    have hq3n : q3.n ≤ 1048576 := by rw [hn33]; exact hqn
    have hq3m : q3.m ≤ 1048576 := by rw [hm33]; exact hqm
    clear ho3 hx3 hv3 hn33 hm33 hb3 x0 x1
    have PE5 := hide (PE4.out.next (below_new v4 (.cells #[.slice q3.A q3.n q3.c, .slice q3.P q3.m q3.d] 27)))
    have PQ5 := hide (PQ4.out.next (below_new v4 (.cells #[.slice q3.A q3.n q3.c, .slice q3.P q3.m q3.d] 27)))
    clear PE4
    clear PQ4
    unfold Mq.val
    go_upto_region 12 with (fail)
    generalize v4.alloc (.cells #[.slice q3.A q3.n q3.c, .slice q3.P q3.m q3.d] 27) = W4 at PE5 PQ5 PX4 ⊢
    generalize v4.heap.size = g12 at PX4 ⊢
    have hr1 : wc.heap.size ≤ g12 := PX4.out.bh
    have hr2 : g12 ≤ W4.heap.size := PX4.out.le
    obtain ⟨_, _, x2, x3, x4⟩ := PE5.out.cells
    go_wp2_with fail
    refine (toEvent_any K PA LA pn pc ln lc w.heap.size ps ls W4 PE5.out.p PE5.out.l PE5.out.b.size hpn hln).mono ?_
    rintro e v5 ⟨PB, LB, pd, ld, rfl, hp5, hl5, hb5⟩
    have PE6 := hide (PE5.out.next hb5)
    have PQ6 := hide (PQ5.out.next hb5)
    have PX5 := hide (PX4.out.next hb5)
    clear PE5
    clear PQ5
    clear PX4
    have PE7 := hide (PE6.out.next (below_new v5 (.cells #[.int .i64 K, .slice PB pn pd, .slice LB ln ld] 35)))
    have PQ7 := hide (PQ6.out.next (below_new v5 (.cells #[.int .i64 K, .slice PB pn pd, .slice LB ln ld] 35)))
    have PX6 := hide (PX5.out.next (below_new v5 (.cells #[.int .i64 K, .slice PB pn pd, .slice LB ln ld] 35)))
    clear PE6
    clear PQ6
    clear PX5
    have PY5 := hide (show EE (v5.alloc (.cells #[.int .i64 K, .slice PB pn pd, .slice LB ln ld] 35)) W4.heap.size v5.heap.size v5.heap.size K PB LB pn pd ln ld ps ls from ⟨hp5.alloc _, hl5.alloc _, Blk.new v5 _ _, fun g e => (hp5.block g e).2, fun g e => (hl5.block g e).2, by simp, hb5.size⟩)
    clear hp5 hl5 hb5 x2 x3 x4
    go_upto_region 13 with (fail)
    generalize v5.alloc (.cells #[.int .i64 K, .slice PB pn pd, .slice LB ln ld] 35) = W5 at PE7 PQ7 PX6 PY5 ⊢
    generalize v5.heap.size = g13 at PY5 ⊢
    have hr3 : W4.heap.size ≤ g13 := PY5.out.bh
    have hr4 : g13 ≤ W5.heap.size := PY5.out.le
    go_wp2_with fail
    refine (toInts_any A3 n3 c3 w.heap.size af W5 PE7.out.a PE7.out.b.size hn32).mono ?_
    rintro e v6 ⟨A14, c14, rfl, ho6, hb6⟩
    have PE8 := hide (PE7.out.next hb6)
    have PQ8 := hide (PQ7.out.next hb6)
    have PX7 := hide (PX6.out.next hb6)
    have PY6 := hide (PY5.out.next hb6)
    clear PE7
    clear PQ7
    clear PX6
    clear PY5
    have PZ6 := hide (show EV v6 W5.heap.size v6.heap.size A14 n3 c14 af from ⟨ho6, fun g e => (ho6.block g e).2, Nat.le_refl _, hb6.size⟩)
    have hr5 : W5.heap.size ≤ v6.heap.size := hb6.size
    clear ho6 hb6
    obtain ⟨x0, x1⟩ := PX7.out.cells
    obtain ⟨y0, y1, y2⟩ := PY6.out.cells
    go_wp2_with fail
    refine (implDo q3 v6.heap.size v6 PB LB A14 pn pd ln ld n3 c14 ps af K dn PX7.out.o.mdi (Nat.le_refl _) PY6.out.p.ints PZ6.out.o.ints (fun e => by have h1 := own_nilc PZ6.out.o e; have h2 := PZ6.out.o.cap.1; omega) (by omega) hn39).mono ?_
    rw [HV3.out.1, HV3.out.2.1]
    rintro e v7 ⟨q5, rfl, hm7, hx7, hq7, hb7⟩
    have HV5 := hide (And.intro (hx7.trans HV1.out.1.symm) (hq7.trans HV1.out.2.symm))
    have HSM := hide (small_of hm7 hx7 hq7 (fun p hp => doV_lenX hp))
    have PE9 := hide (PE8.out.next hb7)
    have PQ9 := hide (PQ8.out.next hb7)
    have PX8 := hide (PX7.out.next hb7)
    have PY7 := hide (PY6.out.next hb7)
    have PZ7 := hide (PZ6.out.next hb7)
    clear PE8
    clear PQ8
    clear PX7
    clear PY6
    clear PZ6
    have PE10 := hide (PE9.out.next (below_new v7 (.cells #[.slice q5.A q5.n q5.c, .slice q5.P q5.m q5.d] 27)))
    have PQ10 := hide (PQ9.out.next (below_new v7 (.cells #[.slice q5.A q5.n q5.c, .slice q5.P q5.m q5.d] 27)))
    have PX9 := hide (PX8.out.next (below_new v7 (.cells #[.slice q5.A q5.n q5.c, .slice q5.P q5.m q5.d] 27)))
    have PY8 := hide (PY7.out.next (below_new v7 (.cells #[.slice q5.A q5.n q5.c, .slice q5.P q5.m q5.d] 27)))
    have PZ8 := hide (PZ7.out.next (below_new v7 (.cells #[.slice q5.A q5.n q5.c, .slice q5.P q5.m q5.d] 27)))
    clear PE9
    clear PQ9
    clear PX8
    clear PY7
    clear PZ7
    have PG7 := hide (show EO (v7.alloc (.cells #[.slice q5.A q5.n q5.c, .slice q5.P q5.m q5.d] 27)) v6.heap.size v7.heap.size v7.heap.size q5 from ⟨hm7.alloc _, Blk.new v7 _ _, hm7.lim, by simp, hb7.size⟩)
    clear hm7 hx7 hq7 hb7 x0 x1 y0 y1 y2
    unfold Mq.val
    rw [HRR.out, HOKK.out]
    go_upto_region 15 with (fail)
    generalize v7.alloc (.cells #[.slice q5.A q5.n q5.c, .slice q5.P q5.m q5.d] 27) = v8 at PE10 PQ10 PX9 PY8 PZ8 PG7 ⊢
    generalize v7.heap.size = g15 at PG7 ⊢
    generalize v6.heap.size = B6 at hr5 PG7 PZ8
    have hm51 : q5.m ≤ 1000000000 := by have := HSM.out.m; omega
    have hn51 : q5.n ≤ 1000000000 := by have := HSM.out.n; omega
    obtain ⟨x0, x1⟩ := PG7.out.cells
    obtain ⟨x2, x3⟩ := PQ10.out.cells
    go_wp2_with fail
    refine (eqMod_yes q5 q1 _ _ _ PG7.out.o.mdi PQ10.out.m (Nat.le_refl _) PQ10.out.le hm51 HV5.out.1 HV5.out.2).mono ?_
    rintro e u1 ⟨rfl, hbb⟩
    have PE11 := hide (PE10.out.next hbb)
    have PQ11 := hide (PQ10.out.next hbb)
    have PX10 := hide (PX9.out.next hbb)
    have PY9 := hide (PY8.out.next hbb)
    have PZ9 := hide (PZ8.out.next hbb)
    have PG8 := hide (PG7.out.next hbb)
    clear PE10
    clear PQ10
    clear PX9
    clear PY8
    clear PZ8
    clear PG7
    clear hbb x0 x1 x2 x3
    obtain ⟨x0, x1⟩ := PX10.out.cells
    obtain ⟨y0, y1, _, _, _⟩ := PE11.out.cells
    go_upto_region 17 with (fail)
    have HB1 := hide (below_drewN (Below.refl u1.heap.size u1) 1)
    have HC := hide fun (W' : World) (hb : Below u1.heap.size u1 W') => (show W'.cell? ⟨g12, 0, none⟩ = some (.slice q3.A q3.n q3.c) ∧ W'.cell? ⟨g12, 1, none⟩ = some (.slice q3.P q3.m q3.d) ∧ W'.cell? ⟨w.heap.size, 0, none⟩ = some (.slice q.A q.n q.c) ∧ W'.cell? ⟨w.heap.size, 1, none⟩ = some (.slice q.P q.m q.d) from ⟨(PX10.out.next hb).cells.1, (PX10.out.next hb).cells.2, (PE11.out.next hb).cells.1, (PE11.out.next hb).cells.2.1⟩)
    have HTM := hide fun (W' : World) (hb : Below u1.heap.size u1 W') => toModel_any q w.heap.size W' (PE11.out.next hb).m (PE11.out.next hb).b.size hqn hqm HL.out
    have HEM := hide fun (W' : World) (hb : Below u1.heap.size u1 W') (q4 : Mq) (hm : MdI W' W'.heap.size q4) (hx : q4.xs = q.xs ∧ vsN q4.qs = vsN q.qs) => eqMod_yes q3 q4 _ _ W' (PX10.out.next hb).o.mdi hm (Nat.le_refl _) (Nat.le_refl _) (by omega) (HV3.out.1.trans hx.1.symm) (HV3.out.2.1.trans hx.2.symm)
    go_region_held3 (fun W' => W'.cell? ⟨g12, 0, none⟩ = some (.slice q3.A q3.n q3.c) ∧ W'.cell? ⟨g12, 1, none⟩ = some (.slice q3.P q3.m q3.d) ∧ W'.cell? ⟨w.heap.size, 0, none⟩ = some (.slice q.A q.n q.c) ∧ W'.cell? ⟨w.heap.size, 1, none⟩ = some (.slice q.P q.m q.d))
      (first | (with_reducible exact HK10.out) | (with_reducible exact HK9.out) | go_keep)
      ((first
        | (go_at_call 27; refine (HTM.out (u1.drewN 1) HB1.out).mono ?_; rintro e u2 ⟨q4, rfl, ho4, hx4, hv4, hn4, hm4, hb4⟩
           have HW9 := hide (HB1.out.trans hb4)
           have HK9 := hide (HC.out u2 HW9.out)
           have HO9 := hide ho4.mdi
           have HV9 := hide (And.intro hx4 hv4)
           clear ho4 hx4 hv4 hn4 hm4 hb4
           unfold Mq.val)
        | (go_at_call 20; refine (HEM.out u2 HW9.out q4 HO9.out HV9.out).mono ?_; rintro e u3 ⟨rfl, hb5⟩
           have HW10 := hide (HW9.out.trans (hb5.mono HW9.out.size))
           have HK10 := hide (HC.out u3 HW10.out)
           clear hb5)))
    have PE12 := hide (PE11.out.next HW10.out)
    have PQ12 := hide (PQ11.out.next HW10.out)
    have PX11 := hide (PX10.out.next HW10.out)
    have PY10 := hide (PY9.out.next HW10.out)
    have PZ10 := hide (PZ9.out.next HW10.out)
    have PG9 := hide (PG8.out.next HW10.out)
    clear PE11
    clear PQ11
    clear PX10
    clear PY9
    clear PZ9
    clear PG8
    clear HB1 HC HTM HEM HW9 HK9 HO9 HV9 HW10 HK10 x0 x1 y0 y1
    obtain ⟨x0, x1, x2⟩ := PY10.out.cells
    obtain ⟨_, _, y0, y1, y2⟩ := PE12.out.cells
    go_upto_region 19 with (fail)
    have HB1 := hide (below_drewN (Below.refl u3.heap.size u3) 1)
    have HC := hide fun (W' : World) (hb : Below u3.heap.size u3 W') => (show W'.cell? ⟨g13, 0, none⟩ = some (.int .i64 K) ∧ W'.cell? ⟨g13, 1, none⟩ = some (.slice PB pn pd) ∧ W'.cell? ⟨g13, 2, none⟩ = some (.slice LB ln ld) ∧ W'.cell? ⟨w.heap.size + 1, 0, none⟩ = some (.int .i64 K) ∧ W'.cell? ⟨w.heap.size + 1, 1, none⟩ = some (.slice PA pn pc) ∧ W'.cell? ⟨w.heap.size + 1, 2, none⟩ = some (.slice LA ln lc) from ⟨(PY10.out.next hb).cells.1, (PY10.out.next hb).cells.2.1, (PY10.out.next hb).cells.2.2, (PE12.out.next hb).cells.2.2⟩)
    have HTE := hide fun (W' : World) (hb : Below u3.heap.size u3 W') => toEvent_any K PA LA pn pc ln lc w.heap.size ps ls W' (PE12.out.next hb).p (PE12.out.next hb).l (PE12.out.next hb).b.size hpn hln
    have HEM := hide fun (W' : World) (hb : Below u3.heap.size u3 W') (PC LC : Option Addr) (pe le : Nat) (hp : Ints W' W'.heap.size PC (pn * 2) ps) (hl : Ints W' W'.heap.size LC ln ls) => eqEvent_yes K PB LB PC LC pn pd ln ld pe le W'.heap.size W'.heap.size ps ls W' (PY10.out.next hb).p.ints (PY10.out.next hb).o.ints hp hl (Nat.le_refl _) (Nat.le_refl _) hpn hln
    go_region_held3 (fun W' => W'.cell? ⟨g13, 0, none⟩ = some (.int .i64 K) ∧ W'.cell? ⟨g13, 1, none⟩ = some (.slice PB pn pd) ∧ W'.cell? ⟨g13, 2, none⟩ = some (.slice LB ln ld) ∧ W'.cell? ⟨w.heap.size + 1, 0, none⟩ = some (.int .i64 K) ∧ W'.cell? ⟨w.heap.size + 1, 1, none⟩ = some (.slice PA pn pc) ∧ W'.cell? ⟨w.heap.size + 1, 2, none⟩ = some (.slice LA ln lc))
      (first | (with_reducible exact HK10.out) | (with_reducible exact HK9.out) | go_keep)
      ((first
        | (go_at_call 28; refine (HTE.out (u3.drewN 1) HB1.out).mono ?_; rintro e u4 ⟨PC, LC, pe, le, rfl, hp4, hl4, hb4⟩
           have HW9 := hide (HB1.out.trans hb4)
           have HK9 := hide (HC.out u4 HW9.out)
           have HO9 := hide (And.intro hp4.ints hl4.ints)
           clear hp4 hl4 hb4)
        | (go_at_call 29; refine (HEM.out u4 HW9.out PC LC pe le HO9.out.1 HO9.out.2).mono ?_; rintro e u5 ⟨rfl, hb5⟩
           have HW10 := hide (HW9.out.trans (hb5.mono HW9.out.size))
           have HK10 := hide (HC.out u5 HW10.out)
           clear hb5)))
    have PE13 := hide (PE12.out.next HW10.out)
    have PQ13 := hide (PQ12.out.next HW10.out)
    have PX12 := hide (PX11.out.next HW10.out)
    have PY11 := hide (PY10.out.next HW10.out)
    have PZ11 := hide (PZ10.out.next HW10.out)
    have PG10 := hide (PG9.out.next HW10.out)
    clear PE12
    clear PQ12
    clear PX11
    clear PY10
    clear PZ10
    clear PG9
    clear HB1 HC HTE HEM HW9 HK9 HO9 HW10 HK10 x0 x1 x2 y0 y1 y2
    go_wp2_with fail
    refine (toInts_any A3 n3 c3 w.heap.size af u5 PE13.out.a PE13.out.b.size hn32).mono ?_
    rintro e u6 ⟨A7, c7, rfl, ho7, hb7⟩
    have PE14 := hide (PE13.out.next hb7)
    have PQ14 := hide (PQ13.out.next hb7)
    have PX13 := hide (PX12.out.next hb7)
    have PY12 := hide (PY11.out.next hb7)
    have PZ12 := hide (PZ11.out.next hb7)
    have PG11 := hide (PG10.out.next hb7)
    clear PE13
    clear PQ13
    clear PX12
    clear PY11
    clear PZ11
    clear PG10
    have HY7 := hide ho7.ints
    clear ho7 hb7
    go_wp2_with fail
    refine (eqIntS_yes A14 A7 n3 c14 n3 c7 u6.heap.size u6.heap.size af af u6 PZ12.out.o.ints HY7.out (by unfold maxLen; omega) (by unfold maxLen; omega) rfl).mono ?_
    rintro e u7 ⟨rfl, z7, rfl⟩
    have PE15 := hide (PE14.out.next (below_drewN (Below.refl _ _) z7))
    have PQ15 := hide (PQ14.out.next (below_drewN (Below.refl _ _) z7))
    have PX14 := hide (PX13.out.next (below_drewN (Below.refl _ _) z7))
    have PY13 := hide (PY12.out.next (below_drewN (Below.refl _ _) z7))
    have PZ13 := hide (PZ12.out.next (below_drewN (Below.refl _ _) z7))
    have PG12 := hide (PG11.out.next (below_drewN (Below.refl _ _) z7))
    clear PE14
    clear PQ14
    clear PX13
    clear PY12
    clear PZ12
    clear PG11
    clear HY7
    have HM1 := hide (show mvN (1 + (q3.n : Int)) q3.qs ≤ 3000000 by
      have h := mvN_add 0 (1 + (q3.n : Int)) q3.qs
      rw [Int.zero_add] at h
      rw [h, mvN_vs 0 HV3.out.2.1]
      have h1 := HMB.out
      have h2 := HV3.out.2.2.1
      omega)
    obtain ⟨x0, x1⟩ := PX14.out.cells
    go_wp2_with fail
    refine (markMod_any q3 wc.heap.size g12 1 (u6.drewN z7) PX14.out.o PX14.out.l (Nat.le_trans PX14.out.bh PX14.out.le) (by omega) (Int.le_trans HM1.out (by omega)) (by omega) (by omega)).mono ?_
    rintro e u8 ⟨rfl, _, hc8, hk8⟩
    clear PX14
    have PE16 := hide (PE15.out.step hc8.below (by omega))
    have PQ16 := hide (PQ15.out.step hc8.below (by omega) (by omega))
    have PY14 := hide (PY13.out.chg hc8 hk8 (by omega))
    have PZ14 := hide (PZ13.out.chg hc8 (by omega))
    have PG13 := hide (PG12.out.chg hc8 hk8 (by omega))
    clear PE15
    clear PQ15
    clear PY13
    clear PZ13
    clear PG12
    clear hc8 hk8 x0 x1
    obtain ⟨M1, hM1⟩ : ∃ M, mvN (1 + (q3.n : Int)) q3.qs = M := ⟨_, rfl⟩
    have hM10 : 0 ≤ M1 := by rw [← hM1]; exact Int.le_trans (show (0 : Int) ≤ 1 + (q3.n : Int) by omega) (mvN_ge _ _)
    have hM11 : M1 ≤ 3000000 := by rw [← hM1]; exact HM1.out
    rw [hM1]
    clear hM1 HM1
    obtain ⟨x0, x1, x2⟩ := PY14.out.cells
    go_wp2_with fail
    refine (markEvent_any K PB LB pn pd ln ld W4.heap.size g13 M1 ps ls u8 PY14.out.p PY14.out.o PY14.out.lp PY14.out.ll (Nat.le_trans PY14.out.bh PY14.out.le) hM10 (by omega) hpn hln).mono ?_
    rintro e u9 ⟨rfl, hc9, hk9⟩
    clear PY14
    have PE17 := hide (PE16.out.step hc9.below (by omega))
    have PQ17 := hide (PQ16.out.step hc9.below (by omega) (by omega))
    have PZ15 := hide (PZ14.out.chg hc9 (by omega))
    have PG14 := hide (PG13.out.chg hc9 hk9 (by omega))
    clear PE16
    clear PQ16
    clear PZ14
    clear PG13
    clear hc9 hk9 x0 x1 x2
    obtain ⟨M2, hM2⟩ : ∃ M, M1 + ((pn * 2 : Nat) : Int) + (ln : Int) = M := ⟨_, rfl⟩
    have hM20 : 0 ≤ M2 := by omega
    have hM21 : M2 ≤ 10000000 := by omega
    rw [hM2]
    clear hM2
    go_wp2_with fail
    refine (mark_any A14 n3 c14 W5.heap.size M2 af u9 PZ15.out.o hM20 (by omega) hn39).mono ?_
    rintro e u10 ⟨rfl, ho10, hg10'⟩
    have hc10 := (ChgN.refl W5.heap.size B6 u9).grown hg10' (Nat.le_trans PZ15.out.bh PZ15.out.le) (fun b e => ⟨(PZ15.out.o.block b e).1, PZ15.out.l b e⟩)
    have hk10 := row_kt PZ15.out.o.2 hg10' (by decide) (by decide)
    clear PZ15
    have PE18 := hide (PE17.out.step hc10.below (by omega))
    have PQ18 := hide (PQ17.out.step hc10.below (by omega) (by omega))
    have PG15 := hide (PG14.out.chg hc10 hk10 (by omega))
    clear PE17
    clear PQ17
    clear PG14
    clear hc10 hk10 ho10 hg10'
    obtain ⟨M3, hM3⟩ : ∃ M, M2 + (n3 : Int) = M := ⟨_, rfl⟩
    have hM30 : ¬ M3 < 0 := by omega
    rw [hM3]
    clear hM3
    obtain ⟨x0, x1⟩ := PG15.out.cells
    obtain ⟨x2, x3⟩ := PQ18.out.cells
    go_wp2_with fail
    refine (eqMod_yes q5 q1 _ _ _ PG15.out.o.mdi PQ18.out.m (Nat.le_refl _) PQ18.out.le hm51 HV5.out.1 HV5.out.2).mono ?_
    rintro e u11 ⟨rfl, hbb⟩
    have PE19 := hide (PE18.out.next hbb)
    have PQ19 := hide (PQ18.out.next hbb)
    have PG16 := hide (PG15.out.next hbb)
    clear PE18
    clear PQ18
    clear PG15
    clear hbb x0 x1 x2 x3
    obtain ⟨x0, x1⟩ := PG16.out.cells
    have HMV := hide (HSM.out.mv PG16.out.o.mdi)
    go_wp2_with fail
    refine (markMod_any q5 B6 g15 1 u11 PG16.out.o PG16.out.l (Nat.le_trans PG16.out.bh PG16.out.le) (by omega) HMV.out hn51 hm51).mono ?_
    rintro e u12 ⟨rfl, ho12, hc12, hk12⟩
    have PH1 := hide (show EQ u12 u12.heap.size g15 (mkM 1 q5) from ⟨ho12.mdi, (hk12 _ _).1 PG16.out.k, Nat.le_refl _⟩)
    clear PG16
    have PE20 := hide (PE19.out.step hc12.below (by omega))
    have PQ20 := hide (PQ19.out.step hc12.below (by omega) (by omega))
    clear PE19
    clear PQ19
    clear ho12 hc12 hk12 x0 x1
    obtain ⟨M, hM⟩ : ∃ M, mvN (1 + (q5.n : Int)) q5.qs = M := ⟨_, rfl⟩
    have hM0 : 0 ≤ M := by rw [← hM]; exact Int.le_trans (show (0 : Int) ≤ 1 + (q5.n : Int) by omega) (mvN_ge _ _)
    have HMM := hide hM
    rw [hM]
    clear hM
    have hMneg : ¬ M < 0 := by omega
    obtain ⟨x0, x1⟩ : u12.cell? ⟨g15, 0, none⟩ = some (.slice q5.A q5.n q5.c) ∧ u12.cell? ⟨g15, 1, none⟩ = some (.slice q5.P q5.m q5.d) := PH1.out.cells
    go_wp2_with fail
    refine (heldMod_any q5 _ 1 u12 PH1.out.m.now PH1.out.m.past PH1.out.le (by omega) HMV.out hn51 hm51).mono ?_
    rw [HMM.out]
    rintro e w22 ⟨rfl, hbh⟩
    have PE21 := hide (PE20.out.next hbh)
    have PQ21 := hide (PQ20.out.next hbh)
    have PH2 := hide (PH1.out.next hbh)
    clear PE20
    clear PQ20
    clear PH1
    clear hbh x0 x1
    have HE22 := hide PE21.out
    clear PE21
    go_upto_region 37 with (fail)
    have HB1 := hide (below_drewN (Below.refl w22.heap.size w22) 1)
    have HB2 := hide ((below_drewN (Below.refl w22.heap.size w22) 1).alloc (Nat.le_refl _) (.cells #[.slice none 0 0, .slice none 0 0] 27))
    have HC := hide fun (W' : World) (hb : Below w22.heap.size w22 W') => (HE22.out.next hb).cells
    have HTM := hide fun (W' : World) (hb : Below w22.heap.size w22 W') => toModel_any q w.heap.size W' (HE22.out.next hb).m (HE22.out.next hb).b.size hqn hqm HL.out
    have HTE := hide fun (W' : World) (hb : Below w22.heap.size w22 W') => toEvent_any K PA LA pn pc ln lc w.heap.size ps ls W' (HE22.out.next hb).p (HE22.out.next hb).l (HE22.out.next hb).b.size hpn hln
    have HTI := hide fun (W' : World) (hb : Below w22.heap.size w22 W') => toInts_any A3 n3 c3 w.heap.size af W' (HE22.out.next hb).a (HE22.out.next hb).b.size hn32
    have HDO := hide fun (W' : World) (q3 : Mq) (hv : q3.xs = q.xs ∧ vsN q3.qs = vsN q.qs ∧ q3.n = q.n ∧ q3.m = q.m) (PB LB A5 : Option Addr) (pd ld c5 : Nat) (hm : MdI W' W'.heap.size q3) (hp : Ints W' W'.heap.size PB (pn * 2) ps) (ha : Ints W' W'.heap.size A5 n3 af) (hnil : A5 = none → n3 = 0 ∧ c5 = 0) =>
      (show Calls Try.prog 16 #[.agg #[.slice q3.A q3.n q3.c, .slice q3.P q3.m q3.d], .agg #[.int .i64 K, .slice PB pn pd, .slice LB ln ld], .bool dn, .slice A5 n3 c5] W' (MPost W' (doV q.xs (vsN q.qs) K pn ps dn af)) from by
        have h := implDo q3 W'.heap.size W' PB LB A5 pn pd ln ld n3 c5 ps af K dn hm (Nat.le_refl _) hp ha hnil (by omega) (by omega)
        rw [hv.1, hv.2.1] at h
        exact h)
    obtain ⟨y0, y1, y2, y3, y4⟩ := HC.out w22 (Below.refl _ _)
    go_cut [20, 21] from 117 to 128 (fun x k wx => Hid (MidR w22 wx (doV q.xs (vsN q.qs) K pn ps dn af) x k))
    case first =>
      go_region_held3 (fun W' => W'.cell? ⟨w.heap.size, 0, none⟩ = some (.slice q.A q.n q.c) ∧ W'.cell? ⟨w.heap.size, 1, none⟩ = some (.slice q.P q.m q.d) ∧ W'.cell? ⟨w.heap.size + 1, 0, none⟩ = some (.int .i64 K) ∧ W'.cell? ⟨w.heap.size + 1, 1, none⟩ = some (.slice PA pn pc) ∧ W'.cell? ⟨w.heap.size + 1, 2, none⟩ = some (.slice LA ln lc))
        (first
          | (with_reducible exact HK6.out)
          | (with_reducible exact HK5.out)
          | (with_reducible exact HK4.out)
          | (with_reducible exact HK3.out)
          | (exact HC.out _ (HW6.out.alloc HW6.out.size _))
          | (exact HC.out _ (HW5.out.alloc HW5.out.size _))
          | (exact HC.out _ (HW4.out.alloc HW4.out.size _))
          | (exact HC.out _ (HW3.out.alloc HW3.out.size _))
          | (exact HC.out _ (HW6.out.grown (grown2 w6 w22.heap.size _ _) HW6.out.size (fun g e => by injection e with e; omega)))
          | (exact HC.out _ (HW6.out.grown (grown2 w6 w3.heap.size _ _) HW6.out.size (fun g e => by injection e with e; have := HW3.out.size; omega)))
          | (exact HC.out _ (HW6.out.grown (grown2 w6 w4.heap.size _ _) HW6.out.size (fun g e => by injection e with e; have := HW4.out.size; omega)))
          | (exact HC.out _ (HW6.out.grown (grown2 w6 w5.heap.size _ _) HW6.out.size (fun g e => by injection e with e; have := HW5.out.size; omega)))
          | go_keep)
        ((first
          | (go_at_call 27; refine (HTM.out (w22.drewN 1) HB1.out).mono ?_; rintro e w3 ⟨q3, rfl, ho3, hx3, hv3, hn3, hm3, hb3⟩
             have HW3 := hide (HB1.out.trans hb3)
             have HK3 := hide (HC.out w3 HW3.out)
             have HO3 := hide (show OwnM w3 w22.heap.size q3 from ho3)
             have HV3 := hide (And.intro hx3 (And.intro hv3 (And.intro hn3 hm3)))
             have HX3 := hide True.intro
             clear ho3 hx3 hv3 hn3 hm3 hb3
             unfold Mq.val)
          | (go_at_call 27; refine (HTM.out _ HB2.out).mono ?_; rintro e w3 ⟨q3, rfl, ho3, hx3, hv3, hn3, hm3, hb3⟩
             have HW3 := hide (HB2.out.trans (hb3.mono (by simp)))
             have HK3 := hide (HC.out w3 HW3.out)
             have HO3 := hide (show OwnM w3 w22.heap.size q3 from ho3.mono (by simp))
             have HV3 := hide (And.intro hx3 (And.intro hv3 (And.intro hn3 hm3)))
             have HX3 := hide (show Blk w3 w22.heap.size 27 #[.slice none 0 0, .slice none 0 0] from (Blk.new (w22.drewN 1) 27 #[.slice none 0 0, .slice none 0 0]).below hb3 (by simp))
             clear ho3 hx3 hv3 hn3 hm3 hb3
             unfold Mq.val)
          | (go_at_call 28; refine (HTE.out w3 HW3.out).mono ?_; rintro e w4 ⟨PB, LB, pd, ld, rfl, hp4, hl4, hb4⟩
             have HW4 := hide (HW3.out.trans (hb4.mono HW3.out.size))
             have HK4 := hide (HC.out w4 HW4.out)
             have HO4 := hide (HO3.out.below hb4)
             have HP4 := hide hp4
             have HL4 := hide hl4
             first | (have HX4 := hide (HX3.out.below hb4 HX3.out.lt)) | (have HX4 := hide True.intro)
             clear hp4 hl4 hb4)
          | (go_at_call 28; refine (HTE.out _ (HW3.out.alloc HW3.out.size (.cells #[.slice none 0 0, .slice none 0 0] 27))).mono ?_; rintro e w4 ⟨PB, LB, pd, ld, rfl, hp4, hl4, hb4⟩
             have HW4 := hide ((HW3.out.alloc HW3.out.size (.cells #[.slice none 0 0, .slice none 0 0] 27)).trans (hb4.mono (HW3.out.alloc HW3.out.size (.cells #[.slice none 0 0, .slice none 0 0] 27)).size))
             have HK4 := hide (HC.out w4 HW4.out)
             have HO4 := hide ((HO3.out.alloc (.cells #[.slice none 0 0, .slice none 0 0] 27)).below hb4)
             have HP4 := hide (hp4.mono (b' := w3.heap.size) (by simp))
             have HL4 := hide (hl4.mono (b' := w3.heap.size) (by simp))
             have HX4 := hide ((Blk.new w3 27 #[.slice none 0 0, .slice none 0 0]).below hb4 (by simp))
             clear hp4 hl4 hb4)
          | (go_at_call 19; refine (HTI.out w4 HW4.out).mono ?_; rintro e w5 ⟨A5, c5, rfl, ho5, hb5⟩
             have HW5 := hide (HW4.out.trans (hb5.mono HW4.out.size))
             have HK5 := hide (HC.out w5 HW5.out)
             have HO5 := hide (HO4.out.below hb5)
             have HP5 := hide (HP4.out.below hb5)
             have HL5 := hide (HL4.out.below hb5)
             have HA5 := hide ho5
             first | (have HX5 := hide (HX4.out.below hb5 HX4.out.lt)) | (have HX5 := hide True.intro)
             clear ho5 hb5)
          | (go_at_call 19; refine (HTI.out _ (HW4.out.alloc HW4.out.size (.cells #[.slice none 0 0, .slice none 0 0] 27))).mono ?_; rintro e w5 ⟨A5, c5, rfl, ho5, hb5⟩
             have HW5 := hide ((HW4.out.alloc HW4.out.size (.cells #[.slice none 0 0, .slice none 0 0] 27)).trans (hb5.mono (HW4.out.alloc HW4.out.size (.cells #[.slice none 0 0, .slice none 0 0] 27)).size))
             have HK5 := hide (HC.out w5 HW5.out)
             have HO5 := hide ((HO4.out.alloc (.cells #[.slice none 0 0, .slice none 0 0] 27)).below hb5)
             have HP5 := hide ((HP4.out.alloc (.cells #[.slice none 0 0, .slice none 0 0] 27)).below hb5)
             have HL5 := hide ((HL4.out.alloc (.cells #[.slice none 0 0, .slice none 0 0] 27)).below hb5)
             have HA5 := hide (ho5.mono (b' := w4.heap.size) (by simp))
             have HX5 := hide ((Blk.new w4 27 #[.slice none 0 0, .slice none 0 0]).below hb5 (by simp))
             clear ho5 hb5)
          | (go_at_call 16; refine (HDO.out w5 q3 HV3.out PB LB A5 pd ld c5 HO5.out.mdi HP5.out.ints HA5.out.ints (fun e => by have h1 := own_nilc HA5.out e; have h2 := HA5.out.cap.1; omega)).mono ?_; rintro e w6 ⟨q1, rfl, hm6, hx6, hq6, hb6⟩
             have HX6 := hide (HX5.out.below hb6 HX5.out.lt)
             have HW6 := hide (HW5.out.trans (hb6.mono HW5.out.size))
             have HK6 := hide (HC.out w6 HW6.out)
             have HM6 := hide hm6
             have HY6 := hide (And.intro hx6 hq6)
             obtain ⟨⟨t0, t1⟩, g0, g1⟩ := blk2X HX6.out
             clear hm6 hx6 hq6 hb6
             unfold Mq.val)
          | (go_at_call 16; refine (HDO.out w5 q3 HV3.out PB LB A5 pd ld c5 HO5.out.mdi HP5.out.ints HA5.out.ints (fun e => by have h1 := own_nilc HA5.out e; have h2 := HA5.out.cap.1; omega)).mono ?_; rintro e w6 ⟨q1, rfl, hm6, hx6, hq6, hb6⟩
             have HX6 := hide True.intro
             obtain ⟨⟨t0, t1⟩, g0, g1⟩ := blk2X (Blk.new w6 27 #[.slice none 0 0, .slice none 0 0])
             have HW6 := hide (HW5.out.trans (hb6.mono HW5.out.size))
             have HK6 := hide (HC.out w6 HW6.out)
             have HM6 := hide hm6
             have HY6 := hide (And.intro hx6 hq6)
             clear hm6 hx6 hq6 hb6
             unfold Mq.val)
          | (go_at_call 16; refine (HDO.out (w5.alloc (.cells #[.slice none 0 0, .slice none 0 0] 27)) q3 HV3.out PB LB A5 pd ld c5 ((HO5.out.alloc (.cells #[.slice none 0 0, .slice none 0 0] 27)).mdi) ((HP5.out.alloc (.cells #[.slice none 0 0, .slice none 0 0] 27)).ints) ((HA5.out.alloc (.cells #[.slice none 0 0, .slice none 0 0] 27)).ints) (fun e => by have h1 := own_nilc HA5.out e; have h2 := HA5.out.cap.1; omega)).mono ?_; rintro e w6 ⟨q1, rfl, hm6, hx6, hq6, hb6⟩
             have HX6 := hide ((Blk.new w5 27 #[.slice none 0 0, .slice none 0 0]).below hb6 (by simp))
             have HW6 := hide ((HW5.out.alloc HW5.out.size (.cells #[.slice none 0 0, .slice none 0 0] 27)).trans (hb6.mono (HW5.out.alloc HW5.out.size (.cells #[.slice none 0 0, .slice none 0 0] 27)).size))
             have HK6 := hide (HC.out w6 HW6.out)
             have HM6 := hide hm6
             have HY6 := hide (And.intro hx6 hq6)
             obtain ⟨⟨t0, t1⟩, g0, g1⟩ := blk2X HX6.out
             clear hm6 hx6 hq6 hb6
             unfold Mq.val)))
      all_goals
        go_wp2
        go_meet
        have hw3 := HW3.out.size
        have hw4 := HW4.out.size
        have hw5 := HW5.out.size
        first
          | exact midR_put HW6.out HX6.out HM6.out HY6.out.1 HY6.out.2 (by omega)
          | exact midR_new HW6.out HM6.out HY6.out.1 HY6.out.2
    case rest =>
      clear HB1 HB2 HC HTM HTE HTI HDO y0 y1 y2 y3 y4
      obtain ⟨g20, q6, rfl, rfl, hb20, hq6, hx6, hv6⟩ := hcut.out
      have PQ22 := hide (PQ21.out.next hb20)
      have PH3 := hide (PH2.out.next hb20)
      have HE23 := hide (HE22.out.next hb20)
      have PR := hide hq6
      have HV6 := hide (And.intro (hx6.trans HV1.out.1.symm) (hv6.trans HV1.out.2.symm))
      have hm61 : q6.m ≤ 1000000000 := by
        have h := congrArg List.length (hv6.trans (HV1.out.2.symm.trans HV5.out.2.symm))
        rw [vsN_length, vsN_length, hq6.m.past.1] at h
        have h2 := PH3.out.m.past.1
        unfold mkM at h2
        simp only [markN_length] at h2
        omega
      clear hcut hb20 hq6 hx6 hv6 HE22
      rw [HRR.out, HOKK.out]
      obtain ⟨x0, x1⟩ := PR.out.cells
      obtain ⟨x2, x3⟩ := PQ22.out.cells
      go_wp2_with fail
      refine (eqMod_yes q6 q1 _ _ _ PR.out.m PQ22.out.m PR.out.le PQ22.out.le hm61 HV6.out.1 HV6.out.2).mono ?_
      rintro e w24 ⟨rfl, hbb⟩
      have PH9 := hide (PH3.out.next hbb)
      have HE24 := hide (HE23.out.next hbb)
      clear hbb x0 x1 x2 x3 PR
      obtain ⟨x0, x1⟩ : w24.cell? ⟨g15, 0, none⟩ = some (.slice q5.A q5.n q5.c) ∧ w24.cell? ⟨g15, 1, none⟩ = some (.slice q5.P q5.m q5.d) := PH9.out.cells
      go_wp2_with fail
      refine (heldMod_any q5 _ 1 w24 PH9.out.m.now PH9.out.m.past PH9.out.le (by omega) HMV.out hn51 hm51).mono ?_
      rw [HMM.out]
      rintro e w25 ⟨rfl, hbh⟩
      have HB25 := hide (HE24.out.next hbh).b
      clear hbh x0 x1
      go_wp2
      go_ret
      exact ⟨rfl, HB25.out⟩
end Go.Proofs.Ytiopbgenkalfaaa
