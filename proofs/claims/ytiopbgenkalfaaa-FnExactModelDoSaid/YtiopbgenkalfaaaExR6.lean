/-
  The exact laws' helpers on models and events that came in: counts, copies.
-/
import Derived.Test.YtiopbgenkalfaaaExR3
import Derived.Test.YtiopbgenkalfaaaRec
namespace Go.Proofs.Ytiopbgenkalfaaa
open Go.RowKit
set_option linter.unusedVariables false
set_option maxRecDepth 100000

set_option maxHeartbeats 1600000 in
theorem szModel_any (q : Mq) (B : Nat) (w : World) (h : MdI w B q) (hB : B ≤ w.heap.size) :
    Calls Try.prog 25 #[.agg #[.slice q.A q.n q.c, .slice q.P q.m q.d], .int .i64 1048576] w fun e w' => ∃ r : Int, e = .returned (.int .i64 r) ∧ r ≤ 1048576 ∧ -1 ≤ r ∧ (0 ≤ r → (q.n : Int) + (q.m : Int) + mvN 0 q.qs + r ≤ 1048576) ∧ Below w.heap.size w w' := by
  have hnm : q.n ≤ 9223372036854775807 := by have := h.nc; unfold maxLen at this; omega
  have HMD := hide h.md
  have HK := hide ((Kp.refl w).push 47 #[.slice q.A q.n q.c, .slice q.P q.m q.d])
  have HP := hide (h.past.alloc hB (.cells #[.slice q.A q.n q.c, .slice q.P q.m q.d] 47))
  clear h
  go_enter Try.func25, Try.ntmps25
  go_upto_region 1 with (fail)
  generalize w.alloc (.cells #[.slice q.A q.n q.c, .slice q.P q.m q.d] 47) = W at HK HP ⊢
  obtain ⟨⟨z0, z1⟩, _, _⟩ := HK.out.cells2
  go_wp2_with fail
  refine (szInt_var q.A q.n q.c 1048576 W hnm (by omega) (by omega)).mono ?_
  rintro e w1 ⟨⟨r, rfl, hr1, hr2, hr3⟩, rfl⟩
  have HR3 := hide hr3
  clear hr3
  by_cases hneg : r < 0
  · go_wp2
    go_ret
    exact ⟨-1, rfl, by omega, by omega, fun h2 => absurd h2 (by omega), HK.out.below⟩
  · go_wp2_with fail
    refine (szIntSS_any q.P q.m q.d B r q.qs W HP.out HMD.out.1 HMD.out.2 (by omega) (by omega)).mono ?_
    rintro e w2 ⟨r2, rfl, hs1, hs2, hs3, rfl⟩
    have HS3 := hide hs3
    clear hs3
    by_cases hneg2 : r2 < 0
    · go_wp2
      go_ret
      exact ⟨-1, rfl, by omega, by omega, fun h2 => absurd h2 (by omega), HK.out.below⟩
    · go_wp2
      go_ret
      exact ⟨r2, rfl, by omega, by omega, fun h2 => by (have h3 := (HS3.out h2).2; have h4 := HR3.out (by omega); omega), HK.out.below⟩

set_option maxHeartbeats 1600000 in
theorem szEvent_any (K : Int) (PA LA : Option Addr) (pn pc ln lc : Nat) (l : Int) (w : World) (hp : pn ≤ 9223372036854775807) (hl : ln ≤ 9223372036854775807) (h0 : 0 ≤ l) (h1 : l ≤ 1048576) :
    Calls Try.prog 26 #[.agg #[.int .i64 K, .slice PA pn pc, .slice LA ln lc], .int .i64 l] w fun e w' => ∃ r : Int, e = .returned (.int .i64 r) ∧ r ≤ l ∧ -1 ≤ r ∧ (0 ≤ r → (pn : Int) + (ln : Int) + r ≤ l) ∧ Below w.heap.size w w' := by
  have HK := hide ((Kp.refl w).push 50 #[.int .i64 K, .slice PA pn pc, .slice LA ln lc])
  go_enter Try.func26, Try.ntmps26
  go_upto_region 1 with (fail)
  generalize w.alloc (.cells #[.int .i64 K, .slice PA pn pc, .slice LA ln lc] 50) = W at HK ⊢
  obtain ⟨⟨z0, z1, z2⟩, _, _, _⟩ := HK.out.cells3
  go_wp2_with fail
  refine (szPair_varN PA pn pc l W hp h0 h1).mono ?_
  rintro e w1 ⟨⟨r, rfl, hr1, hr2, hr3⟩, rfl⟩
  have HR3 := hide hr3
  clear hr3
  by_cases hneg : r < 0
  · go_wp2
    go_ret
    exact ⟨-1, rfl, by omega, by omega, fun h2 => absurd h2 (by omega), HK.out.below⟩
  · go_wp2_with fail
    refine (szInt_var LA ln lc r W hl (by omega) (by omega)).mono ?_
    rintro e w2 ⟨⟨r2, rfl, hs1, hs2, hs3⟩, rfl⟩
    have HS3 := hide hs3
    clear hs3
    by_cases hneg2 : r2 < 0
    · go_wp2
      go_ret
      exact ⟨-1, rfl, by omega, by omega, fun h2 => absurd h2 (by omega), HK.out.below⟩
    · go_wp2
      go_ret
      exact ⟨r2, rfl, by omega, by omega, fun h2 => by (have h3 := HS3.out h2; have h4 := HR3.out (by omega); omega), HK.out.below⟩

theorem grownC (W : World) (g i : Nat) (u : Value) : W.grownBy (W.setCell ⟨g, i, none⟩ u) (some g) :=
  ⟨(grown_refl W none).os, (grown_refl W none).tape, (grown_refl W none).output, by simp [World.setCell], fun q hq hne => Below.heap_setCell W ⟨g, i, none⟩ u q (fun e => hne (by rw [e]))⟩
/-- a model by value, in new rows -/
def MCopy (w : World) (q : Mq) (e : Ending) (w' : World) : Prop :=
  ∃ q2 : Mq, e = .returned q2.val ∧ OwnM w' w.heap.size q2 ∧ q2.xs = q.xs ∧ vsN q2.qs = vsN q.qs ∧ q2.n = q.n ∧ q2.m = q.m ∧ Below w.heap.size w w'

set_option maxHeartbeats 3200000 in
theorem toModel_any (q : Mq) (B : Nat) (w : World) (h : MdI w B q) (hB : B ≤ w.heap.size) (hn : q.n ≤ 1048576) (hm : q.m ≤ 1048576) (hl : ∀ r ∈ q.qs, r.ps.length ≤ 1000000000) :
    Calls Try.prog 27 #[.agg #[.slice q.A q.n q.c, .slice q.P q.m q.d]] w (MCopy w q) := by
  obtain ⟨W, hW⟩ : ∃ W, ((w.alloc (.cells #[.slice q.A q.n q.c, .slice q.P q.m q.d] 47)).alloc (.cells #[.slice none 0 0, .slice none 0 0] 27)).alloc (.cells #[.slice none 0 0, .slice none 0 0] 27) = W := ⟨_, rfl⟩
  have HSZ := hide (show W.heap.size = w.heap.size + 1 + 1 + 1 by rw [← hW]; simp)
  have HK := hide (show Kp w W [(w.heap.size + 1 + 1, 27, #[.slice none 0 0, .slice none 0 0]), (w.heap.size + 1, 27, #[.slice none 0 0, .slice none 0 0]), (w.heap.size, 47, #[.slice q.A q.n q.c, .slice q.P q.m q.d])] by
    rw [← hW]
    exact (((Kp.refl w).push _ _).pushN _ (by simp) _ _).pushN _ (by simp) _ _)
  have HM := hide (h.below HK.out.below hB)
  have HL := hide hl
  clear h hl
  go_enter Try.func27, Try.ntmps27
  go_upto_region 2 with (fail)
  clear hW
  have hBW : B ≤ W.heap.size := by have := HSZ.out; omega
  obtain ⟨⟨z0, z1⟩, _, _⟩ := HK.out.tl.tl.cells2
  go_wp2_with fail
  refine (toInts_any q.A q.n q.c B q.xs W HM.out.now hBW (by omega)).mono ?_
  rintro e w1 ⟨A2, c2, rfl, ho2, hb2⟩
  have HS2 := hide (hb2.size)
  have HK2 := hide (HK.out.step hb2)
  have HM2 := hide (HM.out.below hb2 hBW)
  have HO2 := hide ho2
  have HLT := hide (fun g e => (ho2.block g e).2)
  clear HK HM ho2 hb2 z0 z1
  obtain ⟨⟨y0, y1⟩, f0, f1⟩ := HK2.out.cells2
  go_upto_region 3 with (fail)
  have hBw1 : w.heap.size + 1 + 1 + 1 ≤ w1.heap.size := by have := HSZ.out; have := HS2.out; omega
  have HG3 := hide (grownC w1 (w.heap.size + 1 + 1) 0 (.slice A2 q.n c2))
  have HK3 := hide (HK2.out.put (by simp; omega) 0 (.slice A2 q.n c2))
  have HO3 := hide (HO2.out.kept HG3.out (fun g e e2 => by (have h1 := (HO2.out.block g e2).1; have h2 := HSZ.out; injection e with e; omega)))
  have HM3 := hide (HM2.out.below ((Below.refl w.heap.size w1).grown HG3.out (by omega) (fun g e => by injection e with e; omega)) hB)
  generalize w1.setCell ⟨w.heap.size + 1 + 1, 0, none⟩ (.slice A2 q.n c2) = W3 at HG3 HK3 HO3 HM3 ⊢
  clear y0 y1 f0 f1
  have hs3 := HG3.out.size
  obtain ⟨⟨z0, z1⟩, _, _⟩ := HK3.out.tl.tl.cells2
  go_wp2_with fail
  refine (toIntSS_any q.P q.m q.d B q.qs W3 HM3.out.past (by omega) (by omega) HL.out).mono ?_
  rintro e w4 ⟨P2, d2, qs2, rfl, ho4, hv4, hb4⟩
  have HV := hide hv4
  have hs4 := hb4.size
  have HK4 := hide (show Kp w w4 [(w.heap.size + 1 + 1, 27, #[.slice A2 q.n c2, .slice none 0 0]), (w.heap.size + 1, 27, #[.slice none 0 0, .slice none 0 0]), (w.heap.size, 47, #[.slice q.A q.n q.c, .slice q.P q.m q.d])] from HK3.out.step hb4)
  have HO4 := hide (HO3.out.below hb4)
  have HP4 := hide ho4
  clear HK3 ho4 hv4 hb4 z0 z1 HO3 HM3 HK2 HM2 HO2 HG3
  obtain ⟨⟨y0, y1⟩, f0, f1⟩ := HK4.out.cells2
  go_upto_region 4 with (fail)
  have HG5 := hide (grownC w4 (w.heap.size + 1 + 1) 1 (.slice P2 q.m d2))
  have HK5 := hide (show Kp w (w4.setCell ⟨w.heap.size + 1 + 1, 1, none⟩ (.slice P2 q.m d2)) [(w.heap.size + 1 + 1, 27, #[.slice A2 q.n c2, .slice P2 q.m d2]), (w.heap.size + 1, 27, #[.slice none 0 0, .slice none 0 0]), (w.heap.size, 47, #[.slice q.A q.n q.c, .slice q.P q.m q.d])] from HK4.out.put (by simp; omega) 1 (.slice P2 q.m d2))
  have HQ5 := hide (show OwnM w4 W.heap.size ⟨A2, q.n, c2, P2, q.m, d2, q.xs, qs2⟩ from
    ⟨HO4.out, HP4.out.mono (by have := HS2.out; omega), fun k r hr g hg e => by (have h1 := (HP4.out.wblock hr g hg).1; have h2 := (HO4.out.block g e); have h3 := HLT.out g e; omega)⟩)
  have HQ6 := hide (HQ5.out.old HG5.out (by have := HSZ.out; omega))
  have HV6 := hide HV.out
  generalize w4.setCell ⟨w.heap.size + 1 + 1, 1, none⟩ (.slice P2 q.m d2) = W5 at HG5 HK5 HQ6 ⊢
  clear y0 y1 f0 f1 HK4 HO4 HP4 HQ5
  obtain ⟨⟨o0, o1⟩, _, _⟩ := HK5.out.cells2
  obtain ⟨⟨r0, r1⟩, f0, f1⟩ := HK5.out.tl.cells2
  have HKE := hide (HK5.out.swap.put2 (by simp) (.slice A2 q.n c2) (.slice P2 q.m d2))
  have HQE := hide (HQ6.out.old (grown2 W5 (w.heap.size + 1) (.slice A2 q.n c2) (.slice P2 q.m d2)) (by have := HSZ.out; omega))
  obtain ⟨⟨q0, q1⟩, _, _⟩ := HKE.out.cells2
  go_wp2
  refine bodyPost_ret (v := .agg #[.slice A2 q.n c2, .slice P2 q.m d2]) (by simp [results, Try.results27, go_sem, q0, q1]) rfl ?_
  exact ⟨⟨A2, q.n, c2, P2, q.m, d2, q.xs, qs2⟩, rfl, HQE.out.mono (by have := HSZ.out; omega), rfl, HV6.out, rfl, rfl, HKE.out.below⟩
/-- an event by value, its slices in new rows -/
def ECopy (w : World) (K : Int) (pn ln : Nat) (ps ls : List Int) (e : Ending) (w' : World) : Prop :=
  ∃ (PB LB : Option Addr) (pd ld : Nat), e = .returned (.agg #[.int .i64 K, .slice PB pn pd, .slice LB ln ld]) ∧ OwnR w' w.heap.size 42 2 PB pn pd ps ∧ Own w' w.heap.size LB ln ld ls ∧ Below w.heap.size w w'
theorem Kp.put3 {w W : World} {g : Nat} {t : TypeId} {u v x : Value} {L : List (Nat × TypeId × Array Value)} (h : Kp w W ((g, t, #[u, v, x]) :: L)) (hne : ∀ p ∈ L, p.1 ≠ g) (u' v' x' : Value) :
    Kp w (((W.setCell ⟨g, 0, none⟩ u').setCell ⟨g, 1, none⟩ v').setCell ⟨g, 2, none⟩ x') ((g, t, #[u', v', x']) :: L) := ((h.put hne 0 u').put hne 1 v').put hne 2 x'
theorem grownC3 (W : World) (g : Nat) (u v x : Value) : W.grownBy (((W.setCell ⟨g, 0, none⟩ u).setCell ⟨g, 1, none⟩ v).setCell ⟨g, 2, none⟩ x) (some g) := by
  have s : ∀ (w0 w1 : World) (i : Nat) (u : Value), w0.grownBy w1 (some g) → w0.grownBy (w1.setCell ⟨g, i, none⟩ u) (some g) := fun w0 w1 i u h =>
    ⟨h.os, h.tape, h.output, by simpa [World.setCell] using h.size, fun q hq hne => (Below.heap_setCell w1 ⟨g, i, none⟩ u q (fun e => hne (by rw [e]))).trans (h.block q hq hne)⟩
  exact s _ _ _ _ (s _ _ _ _ (s _ _ _ _ (grown_refl W _)))

set_option maxHeartbeats 3200000 in
theorem toEvent_any (K : Int) (PA LA : Option Addr) (pn pc ln lc B : Nat) (ps ls : List Int) (w : World) (hp : Ints w B PA (pn * 2) ps) (hl : Ints w B LA ln ls) (hB : B ≤ w.heap.size) (hpn : pn ≤ 1048576) (hln : ln ≤ 1048576) :
    Calls Try.prog 28 #[.agg #[.int .i64 K, .slice PA pn pc, .slice LA ln lc]] w (ECopy w K pn ln ps ls) := by
  obtain ⟨W, hW⟩ : ∃ W, ((w.alloc (.cells #[.int .i64 K, .slice PA pn pc, .slice LA ln lc] 50)).alloc (.cells #[.int .i64 0, .slice none 0 0, .slice none 0 0] 35)).alloc (.cells #[.int .i64 K, .slice none 0 0, .slice none 0 0] 35) = W := ⟨_, rfl⟩
  have HSZ := hide (show W.heap.size = w.heap.size + 1 + 1 + 1 by rw [← hW]; simp)
  have HK := hide (show Kp w W [(w.heap.size + 1 + 1, 35, #[.int .i64 K, .slice none 0 0, .slice none 0 0]), (w.heap.size + 1, 35, #[.int .i64 0, .slice none 0 0, .slice none 0 0]), (w.heap.size, 50, #[.int .i64 K, .slice PA pn pc, .slice LA ln lc])] by
    rw [← hW]
    exact (((Kp.refl w).push _ _).pushN _ (by simp) _ _).pushN _ (by simp) _ _)
  have HP := hide (hp.below HK.out.below hB)
  have HL := hide (hl.below HK.out.below hB)
  clear hp hl
  go_enter Try.func28, Try.ntmps28
  go_upto_region 3 with (fail)
  clear hW
  have hBW : B ≤ W.heap.size := by have := HSZ.out; omega
  obtain ⟨⟨z0, z1, z2⟩, _, _, _⟩ := HK.out.tl.tl.cells3
  go_wp2_with fail
  refine (toPairS_any PA pn pc B ps W HP.out hBW (by omega)).mono ?_
  rintro e w1 ⟨A2, c2, rfl, ho2, hb2⟩
  have HS2 := hide (hb2.size)
  have HK2 := hide (HK.out.step hb2)
  have HL2 := hide (HL.out.below hb2 hBW)
  have HO2 := hide ho2
  have HLT := hide (fun g e => (ho2.block g e).2)
  clear HK HP HL ho2 hb2 z0 z1 z2
  obtain ⟨⟨y0, y1, y2⟩, f0, f1, f2⟩ := HK2.out.cells3
  go_upto_region 4 with (fail)
  have hBw1 : w.heap.size + 1 + 1 + 1 ≤ w1.heap.size := by have := HSZ.out; have := HS2.out; omega
  have HG3 := hide (grownC w1 (w.heap.size + 1 + 1) 1 (.slice A2 pn c2))
  have HK3 := hide (HK2.out.put (by simp; omega) 1 (.slice A2 pn c2))
  have HO3 := hide (HO2.out.kept HG3.out (fun g e e2 => by (have h1 := (HO2.out.block g e2).1; have h2 := HSZ.out; injection e with e; omega)))
  have HL3 := hide (HL2.out.below ((Below.refl w.heap.size w1).grown HG3.out (by omega) (fun g e => by injection e with e; omega)) hB)
  generalize w1.setCell ⟨w.heap.size + 1 + 1, 1, none⟩ (.slice A2 pn c2) = W3 at HG3 HK3 HO3 HL3 ⊢
  clear y0 y1 y2 f0 f1 f2
  have hs3 := HG3.out.size
  obtain ⟨⟨z0, z1, z2⟩, _, _, _⟩ := HK3.out.tl.tl.cells3
  go_wp2_with fail
  refine (toInts_any LA ln lc B ls W3 HL3.out (by omega) (by omega)).mono ?_
  rintro e w4 ⟨P2, d2, rfl, ho4, hb4⟩
  have hs4 := hb4.size
  have HK4 := hide (show Kp w w4 [(w.heap.size + 1 + 1, 35, #[.int .i64 K, .slice A2 pn c2, .slice none 0 0]), (w.heap.size + 1, 35, #[.int .i64 0, .slice none 0 0, .slice none 0 0]), (w.heap.size, 50, #[.int .i64 K, .slice PA pn pc, .slice LA ln lc])] from HK3.out.step hb4)
  have HO4 := hide (HO3.out.below hb4)
  have HP4 := hide ho4
  clear HK3 ho4 hb4 z0 z1 z2 HO3 HL3 HK2 HL2 HO2 HG3
  obtain ⟨⟨y0, y1, y2⟩, f0, f1, f2⟩ := HK4.out.cells3
  go_upto_region 5 with (fail)
  have HG5 := hide (grownC w4 (w.heap.size + 1 + 1) 2 (.slice P2 ln d2))
  have HK5 := hide (show Kp w (w4.setCell ⟨w.heap.size + 1 + 1, 2, none⟩ (.slice P2 ln d2)) [(w.heap.size + 1 + 1, 35, #[.int .i64 K, .slice A2 pn c2, .slice P2 ln d2]), (w.heap.size + 1, 35, #[.int .i64 0, .slice none 0 0, .slice none 0 0]), (w.heap.size, 50, #[.int .i64 K, .slice PA pn pc, .slice LA ln lc])] from HK4.out.put (by simp; omega) 2 (.slice P2 ln d2))
  have HO5 := hide (HO4.out.kept HG5.out (fun g e e2 => by (have h1 := (HO4.out.block g e2).1; have h2 := HSZ.out; injection e with e; omega)))
  have HP5 := hide (HP4.out.kept HG5.out (fun g e e2 => by (have h1 := (HP4.out.block g e2).1; have h2 := HSZ.out; injection e with e; omega)))
  generalize w4.setCell ⟨w.heap.size + 1 + 1, 2, none⟩ (.slice P2 ln d2) = W5 at HG5 HK5 HO5 HP5 ⊢
  clear y0 y1 y2 f0 f1 f2 HK4 HO4 HP4
  obtain ⟨⟨o0, o1, o2⟩, _, _, _⟩ := HK5.out.cells3
  obtain ⟨⟨r0, r1, r2⟩, f0, f1, f2⟩ := HK5.out.tl.cells3
  have HKE := hide (HK5.out.swap.put3 (by simp) (.int .i64 K) (.slice A2 pn c2) (.slice P2 ln d2))
  have HG6 := hide (grownC3 W5 (w.heap.size + 1) (.int .i64 K) (.slice A2 pn c2) (.slice P2 ln d2))
  have HOE := hide (HO5.out.kept HG6.out (fun g e e2 => by (have h1 := (HO5.out.block g e2).1; have h2 := HSZ.out; injection e with e; omega)))
  have HPE := hide (HP5.out.kept HG6.out (fun g e e2 => by (have h1 := (HP5.out.block g e2).1; have h2 := HSZ.out; injection e with e; omega)))
  obtain ⟨⟨q0, q1, q2⟩, _, _, _⟩ := HKE.out.cells3
  go_wp2
  refine bodyPost_ret (v := .agg #[.int .i64 K, .slice A2 pn c2, .slice P2 ln d2]) (by simp [results, Try.results28, go_sem, q0, q1, q2]) rfl ?_
  exact ⟨A2, P2, c2, d2, rfl, HOE.out.mono (by have := HSZ.out; omega), HPE.out.mono (by have := HSZ.out; have := HS2.out; omega), HKE.out.below⟩
end Go.Proofs.Ytiopbgenkalfaaa
