/-
  The program's MapApply.
-/
import Derived.Test.YtcocboigjfjnfabImpM4
import Derived.Test.YtcocboigjfjnfabSpecM6
namespace Go.Proofs.Ytcocboigjfjnfab
open Go.RowKit
set_option linter.unusedVariables false
set_option maxRecDepth 100000

theorem ap_zone {z a : Int} {n : Nat} {k : Int} (h : k = 3 + (n : Int) + 1) : (inB z 0 3 && inB a 0 (64 - k)) = (inB z 0 3 && inB a 0 (60 - (n : Int))) := by
  rw [show 64 - k = 60 - (n : Int) by omega]
theorem ap_no34 {ms : List Wh} {kd sq z a : Int} {xs : List Int} (h : (inB z 0 3 && inB a 0 (60 - xs.length)) = false) : apOk ms kd sq xs z a = false := by
  rw [Bool.and_eq_false_iff] at h
  rcases h with h | h
  · exact ap_no3 h
  · exact ap_no4 h

set_option maxHeartbeats 6400000 in
theorem implMA1 (A F : Option Addr) (n c fn fc B BF : Nat) (ms : List Wh) (kd sq z a : Int) (xs : List Int) (w : World) (hr : MpI w B A n ms) (hf : Ints w BF F fn xs) (hB : B ≤ w.heap.size) (hBF : BF ≤ w.heap.size) (hn : n ≤ 1000000000) (hfn : fn ≤ 1000000000) (hfc : fn ≤ fc) (hfm : fc ≤ 9223372036854775807) (h1 : mpV ms = false) :
    Calls Try.prog 11 #[.slice A n c, .agg #[.int .i64 kd, .int .i64 sq, .slice F fn fc], .int .i64 z, .int .i64 a] w (ApPost w (apOk ms kd sq xs z a) (apM ms kd sq xs z a)) := by
  have HR := hide hr
  have HF := hide hf
  have HL := hide hf.1
  have HRL := hide hr.1
  clear hr hf
  obtain ⟨W0, hW0⟩ : ∃ W0, w.alloc (.cells #[.int .i64 kd, .int .i64 sq, .slice F fn fc] 32) = W0 := ⟨_, rfl⟩
  have HSW := hide (show W0.heap.size = w.heap.size + 1 by rw [← hW0]; simp)
  have HW0 := hide (show Below w.heap.size w W0 by rw [← hW0]; exact below_new w _)
  have HQ : Hid (∀ W : World, Below W0.heap.size W0 W → (W.cell? ⟨w.heap.size, 0, none⟩ = some (.int .i64 kd) ∧ W.cell? ⟨w.heap.size, 1, none⟩ = some (.int .i64 sq) ∧ W.cell? ⟨w.heap.size, 2, none⟩ = some (.slice F fn fc)) ∧ Below w.heap.size w W) := by
    intro W h
    have hb : Blk W0 w.heap.size 32 #[.int .i64 kd, .int .i64 sq, .slice F fn fc] := by rw [← hW0]; exact Blk.new w _ _
    have hb2 := hb.below h (by have := HSW.out; omega)
    exact ⟨⟨by rw [hb2.cell]; rfl, by rw [hb2.cell]; rfl, by rw [hb2.cell]; rfl⟩, HW0.out.trans (h.mono HW0.out.size)⟩
  have HV := hide (implMV A n c B ms W0 (HR.out.below HW0.out hB) (Nat.le_trans hB HW0.out.size) hn)
  have HE := hide (ap_no1 (kd := kd) (sq := sq) (z := z) (a := a) (xs := xs) h1)
  rw [h1] at HV
  clear h1
  go_enter Try.func11, Try.ntmps11
  go_wp2_with fail
  refine HV.out.mono ?_
  rintro e w1 ⟨rfl, hb1⟩
  have HB1 := hide (HQ.out w1 hb1).2
  clear hb1
  go_wp2
  go_ret2
  exact ⟨none, 0, 0, ret_pair HE.out.symm, by rw [ap_no HE.out]; exact MpR.nil_ w1 _, HB1.out⟩

set_option maxHeartbeats 6400000 in
theorem implMA2 (A F : Option Addr) (n c fn fc B BF : Nat) (ms : List Wh) (kd sq z a : Int) (xs : List Int) (w : World) (hr : MpI w B A n ms) (hf : Ints w BF F fn xs) (hB : B ≤ w.heap.size) (hBF : BF ≤ w.heap.size) (hn : n ≤ 1000000000) (hfn : fn ≤ 1000000000) (hfc : fn ≤ fc) (hfm : fc ≤ 9223372036854775807) (h1 : mpV ms = true) (h2 : validF kd sq xs = false) :
    Calls Try.prog 11 #[.slice A n c, .agg #[.int .i64 kd, .int .i64 sq, .slice F fn fc], .int .i64 z, .int .i64 a] w (ApPost w (apOk ms kd sq xs z a) (apM ms kd sq xs z a)) := by
  have HR := hide hr
  have HF := hide hf
  have HL := hide hf.1
  have HRL := hide hr.1
  clear hr hf
  obtain ⟨W0, hW0⟩ : ∃ W0, w.alloc (.cells #[.int .i64 kd, .int .i64 sq, .slice F fn fc] 32) = W0 := ⟨_, rfl⟩
  have HSW := hide (show W0.heap.size = w.heap.size + 1 by rw [← hW0]; simp)
  have HW0 := hide (show Below w.heap.size w W0 by rw [← hW0]; exact below_new w _)
  have HQ : Hid (∀ W : World, Below W0.heap.size W0 W → (W.cell? ⟨w.heap.size, 0, none⟩ = some (.int .i64 kd) ∧ W.cell? ⟨w.heap.size, 1, none⟩ = some (.int .i64 sq) ∧ W.cell? ⟨w.heap.size, 2, none⟩ = some (.slice F fn fc)) ∧ Below w.heap.size w W) := by
    intro W h
    have hb : Blk W0 w.heap.size 32 #[.int .i64 kd, .int .i64 sq, .slice F fn fc] := by rw [← hW0]; exact Blk.new w _ _
    have hb2 := hb.below h (by have := HSW.out; omega)
    exact ⟨⟨by rw [hb2.cell]; rfl, by rw [hb2.cell]; rfl, by rw [hb2.cell]; rfl⟩, HW0.out.trans (h.mono HW0.out.size)⟩
  have HV := hide (implMV A n c B ms W0 (HR.out.below HW0.out hB) (Nat.le_trans hB HW0.out.size) hn)
  rw [h1] at HV
  have HE := hide (ap_no2 (ms := ms) (z := z) (a := a) h2)
  have HC := hide fun (W : World) (h : Below w.heap.size w W) => record_no kd sq F fn fc BF xs W (HF.out.below h hBF) (Nat.le_trans hBF h.size) hfn h2
  clear h1 h2
  go_enter Try.func11, Try.ntmps11
  go_wp2_with fail
  refine HV.out.mono ?_
  rintro e w1 ⟨rfl, hb1⟩
  obtain ⟨⟨hq0, hq1, hq2⟩, hB1⟩ := HQ.out w1 hb1
  have HB1 := hide hB1
  clear hb1 hB1
  go_wp2_with fail
  refine (HC.out w1 HB1.out).mono ?_
  rintro e w2 ⟨rfl, hb2⟩
  have HB2 := hide (HB1.out.trans (hb2.mono HB1.out.size))
  clear hb2
  go_wp2
  go_ret2
  exact ⟨none, 0, 0, ret_pair HE.out.symm, by rw [ap_no HE.out]; exact MpR.nil_ w2 _, HB2.out⟩

set_option maxHeartbeats 6400000 in
theorem implMA3 (A F : Option Addr) (n c fn fc B BF : Nat) (ms : List Wh) (kd sq z a : Int) (xs : List Int) (w : World) (hr : MpI w B A n ms) (hf : Ints w BF F fn xs) (hB : B ≤ w.heap.size) (hBF : BF ≤ w.heap.size) (hn : n ≤ 1000000000) (hfn : fn ≤ 1000000000) (hfc : fn ≤ fc) (hfm : fc ≤ 9223372036854775807) (h1 : mpV ms = true) (h2 : validF kd sq xs = true) (hk : kd = 1) :
    Calls Try.prog 11 #[.slice A n c, .agg #[.int .i64 kd, .int .i64 sq, .slice F fn fc], .int .i64 z, .int .i64 a] w (ApPost w (apOk ms kd sq xs z a) (apM ms kd sq xs z a)) := by
  have HR := hide hr
  have HF := hide hf
  have HL := hide hf.1
  have HRL := hide hr.1
  clear hr hf
  obtain ⟨W0, hW0⟩ : ∃ W0, w.alloc (.cells #[.int .i64 kd, .int .i64 sq, .slice F fn fc] 32) = W0 := ⟨_, rfl⟩
  have HSW := hide (show W0.heap.size = w.heap.size + 1 by rw [← hW0]; simp)
  have HW0 := hide (show Below w.heap.size w W0 by rw [← hW0]; exact below_new w _)
  have HQ : Hid (∀ W : World, Below W0.heap.size W0 W → (W.cell? ⟨w.heap.size, 0, none⟩ = some (.int .i64 kd) ∧ W.cell? ⟨w.heap.size, 1, none⟩ = some (.int .i64 sq) ∧ W.cell? ⟨w.heap.size, 2, none⟩ = some (.slice F fn fc)) ∧ Below w.heap.size w W) := by
    intro W h
    have hb : Blk W0 w.heap.size 32 #[.int .i64 kd, .int .i64 sq, .slice F fn fc] := by rw [← hW0]; exact Blk.new w _ _
    have hb2 := hb.below h (by have := HSW.out; omega)
    exact ⟨⟨by rw [hb2.cell]; rfl, by rw [hb2.cell]; rfl, by rw [hb2.cell]; rfl⟩, HW0.out.trans (h.mono HW0.out.size)⟩
  have HV := hide (implMV A n c B ms W0 (HR.out.below HW0.out hB) (Nat.le_trans hB HW0.out.size) hn)
  rw [h1] at HV
  have HC := hide fun (W : World) (h : Below w.heap.size w W) => record_hot kd sq F fn fc BF xs W (HF.out.below h hBF) (Nat.le_trans hBF h.size) hfn hfc hfm h2 hk
  have hlen : xs.length ≤ 18 := by have := (validF_iff.1 h2).2.2.1; omega
  obtain ⟨v, hv⟩ : ∃ v, bodyOk kd xs = v := ⟨_, rfl⟩
  have HBV := hide hv
  have HMV := hide h1
  have HFV := hide h2
  have hn12 : n = 12 := HRL.out.symm.trans (mpV_iff.1 h1).2
  subst hn12
  obtain ⟨ad, hA, _, _⟩ := HR.out.2.2 (by omega)
  subst hA
  clear h1 h2
  subst hk
  go_enter Try.func11, Try.ntmps11
  go_wp2_with fail
  refine HV.out.mono ?_
  rintro e w1 ⟨rfl, hb1⟩
  obtain ⟨⟨hq0, hq1, hq2⟩, hB1⟩ := HQ.out w1 hb1
  have HB1 := hide hB1
  clear hb1 hB1
  go_wp2_with fail
  refine (HC.out w1 HB1.out).mono ?_
  rintro e w2 ⟨A5, N, c5, rfl, ho5, hb5⟩
  have HB2 := hide (HB1.out.trans (hb5.mono HB1.out.size))
  have HS1 := hide HB1.out.size
  have HO5 := hide ho5
  clear ho5 hb5
  rw [hv] at HO5 ⊢
  rcases v with _ | _
  · have HE := hide (ap_no5 (ms := ms) (sq := sq) (z := z) (a := a) hv)
    clear hv
    go_wp2
    go_ret2
    exact ⟨none, 0, 0, ret_pair HE.out.symm, by rw [ap_no HE.out]; exact MpR.nil_ w2 _, HB2.out⟩
  have hN : xs.length = N * 2 := HO5.out.1
  have hN9 : N ≤ 18 := by omega
  have HRI := hide (show RecsI 2 9 fldP xs N by
    have h := hv
    unfold bodyOk at h
    rw [if_pos rfl] at h
    have h2 := recs_of h
    rwa [show xs.length / 2 = N by rw [hN]; omega] at h2)
  have HZ := hide (ap_zone (z := z) (a := a) (n := xs.length) (k := 3 + 2 * (N : Int) + 1) (by rw [hN]; omega))
  have HRN := hide (show recN 1 xs = N by unfold recN; rw [if_pos rfl, hN]; omega)
  have hsz : 0 ≤ 3 + 2 * (N : Int) + 1 ∧ 3 + 2 * (N : Int) + 1 ≤ 1000 := by omega
  have HSZ := hide hsz
  clear hv hN hlen hsz
  obtain ⟨Q, hQ⟩ : ∃ Q, 3 + 2 * (N : Int) + 1 = Q := ⟨_, rfl⟩
  rw [hQ] at HZ HSZ
  rcases h3 : (inB z 0 3 && inB a 0 (64 - Q)) with _ | _
  · have HE := hide (ap_no34 (ms := ms) (kd := 1) (sq := sq) (HZ.out.symm.trans h3))
    have HZC := hide (fun W => h3 ▸ zoneHas_any z a Q W HSZ.out)
    clear h3
    go_wp2_with fail
    refine (sizeHot_any A5 N c5 w2 hN9).mono ?_
    rintro e w3 ⟨rfl, hb3⟩
    have HB3 := hide (HB2.out.trans (hb3.mono HB2.out.size))
    clear hb3
    rw [hQ]
    clear hQ
    go_wp2_with fail
    refine (HZC.out w3).mono ?_
    rintro e w' ⟨rfl, rfl⟩
    go_wp2
    go_ret2
    exact ⟨none, 0, 0, ret_pair HE.out.symm, by rw [ap_no HE.out]; exact MpR.nil_ _ _, HB3.out⟩
  · have HZC := hide (fun W => h3 ▸ zoneHas_any z a Q W HSZ.out)
    have h34 := HZ.out.symm.trans h3
    rw [Bool.and_eq_true] at h34
    have HE := hide (ap_yes (ms := ms) (kd := 1) (sq := sq) HMV.out HFV.out h34.1 h34.2 HBV.out)
    have ha : 0 ≤ a ∧ a ≤ 60 := by have := inB_iff.1 h34.2; omega
    clear h3 h34
    go_wp2_with fail
    refine (sizeHot_any A5 N c5 w2 hN9).mono ?_
    rintro e w3 ⟨rfl, hb3⟩
    have HB3 := hide (HB2.out.trans (hb3.mono HB2.out.size))
    have HI3 := hide (HO5.out.ints.below hb3 (Nat.le_refl _))
    have HS3 := hide hb3.size
    clear hb3
    rw [hQ]
    clear hQ
    go_wp2_with fail
    refine (HZC.out w3).mono ?_
    rintro e w' ⟨rfl, rfl⟩
    go_wp2_with fail
    refine (cloneM_any ad 12 c B ms _ (HR.out.below HB3.out hB) (Nat.le_trans hB HB3.out.size) (by omega)).mono ?_
    rintro e w4 ⟨A4, c4, rfl, ho4, hb4⟩
    obtain ⟨g, rfl, hg0, hgl⟩ := ho4.2.shape (by omega)
    have HTC := hide (tellHot _ g c4 ms A5 N c5 w2.heap.size z a xs w4 ho4 (HI3.out.below hb4 HS3.out) (Nat.le_trans HS3.out hg0) HRI.out ha)
    have HB4 := hide (HB3.out.trans (hb4.mono HB3.out.size))
    have HG := hide (Nat.le_trans HB3.out.size hg0)
    have HB3S := hide HB3.out.size
    clear ho4 hb4
    go_wp2_with fail
    refine HTC.out.mono ?_
    rintro e w5 ⟨rfl, ht⟩
    have HT := hide ht
    have HB5 := hide (HB4.out.grown ht.gr HB4.out.size (by intro q hq; injection hq with hq; have := HG.out; omega))
    have HEQ := hide (show apM ms 1 sq xs z a = puts (blkAt 2 xs) (hotE z a xs) N ms by rw [HE.out.2, HRN.out]; unfold apK; rw [if_pos rfl])
    clear ht
    go_wp2
    go_ret2
    exact ⟨some ⟨g, 0, none⟩, 12, c4, ret_pair HE.out.1.symm, by rw [HEQ.out]; exact HT.out.own.mono HB3S.out, HB5.out⟩

set_option maxHeartbeats 6400000 in
theorem implMA4 (A F : Option Addr) (n c fn fc B BF : Nat) (ms : List Wh) (kd sq z a : Int) (xs : List Int) (w : World) (hr : MpI w B A n ms) (hf : Ints w BF F fn xs) (hB : B ≤ w.heap.size) (hBF : BF ≤ w.heap.size) (hn : n ≤ 1000000000) (hfn : fn ≤ 1000000000) (hfc : fn ≤ fc) (hfm : fc ≤ 9223372036854775807) (h1 : mpV ms = true) (h2 : validF kd sq xs = true) (hk : kd ≠ 1) :
    Calls Try.prog 11 #[.slice A n c, .agg #[.int .i64 kd, .int .i64 sq, .slice F fn fc], .int .i64 z, .int .i64 a] w (ApPost w (apOk ms kd sq xs z a) (apM ms kd sq xs z a)) := by
  have HR := hide hr
  have HF := hide hf
  have HL := hide hf.1
  have HRL := hide hr.1
  clear hr hf
  obtain ⟨W0, hW0⟩ : ∃ W0, w.alloc (.cells #[.int .i64 kd, .int .i64 sq, .slice F fn fc] 32) = W0 := ⟨_, rfl⟩
  have HSW := hide (show W0.heap.size = w.heap.size + 1 by rw [← hW0]; simp)
  have HW0 := hide (show Below w.heap.size w W0 by rw [← hW0]; exact below_new w _)
  have HQ : Hid (∀ W : World, Below W0.heap.size W0 W → (W.cell? ⟨w.heap.size, 0, none⟩ = some (.int .i64 kd) ∧ W.cell? ⟨w.heap.size, 1, none⟩ = some (.int .i64 sq) ∧ W.cell? ⟨w.heap.size, 2, none⟩ = some (.slice F fn fc)) ∧ Below w.heap.size w W) := by
    intro W h
    have hb : Blk W0 w.heap.size 32 #[.int .i64 kd, .int .i64 sq, .slice F fn fc] := by rw [← hW0]; exact Blk.new w _ _
    have hb2 := hb.below h (by have := HSW.out; omega)
    exact ⟨⟨by rw [hb2.cell]; rfl, by rw [hb2.cell]; rfl, by rw [hb2.cell]; rfl⟩, HW0.out.trans (h.mono HW0.out.size)⟩
  have HV := hide (implMV A n c B ms W0 (HR.out.below HW0.out hB) (Nat.le_trans hB HW0.out.size) hn)
  rw [h1] at HV
  have HC := hide fun (W : World) (h : Below w.heap.size w W) => record_cold kd sq F fn fc BF xs W (HF.out.below h hBF) (Nat.le_trans hBF h.size) hfn hfc hfm h2 hk
  have hlen : xs.length ≤ 18 := by have := (validF_iff.1 h2).2.2.1; omega
  obtain ⟨v, hv⟩ : ∃ v, bodyOk kd xs = v := ⟨_, rfl⟩
  have HBV := hide hv
  have HMV := hide h1
  have HFV := hide h2
  have hn12 : n = 12 := HRL.out.symm.trans (mpV_iff.1 h1).2
  subst hn12
  obtain ⟨ad, hA, _, _⟩ := HR.out.2.2 (by omega)
  subst hA
  clear h1 h2

  go_enter Try.func11, Try.ntmps11
  go_wp2_with fail
  refine HV.out.mono ?_
  rintro e w1 ⟨rfl, hb1⟩
  obtain ⟨⟨hq0, hq1, hq2⟩, hB1⟩ := HQ.out w1 hb1
  have HB1 := hide hB1
  clear hb1 hB1
  go_wp2_with fail
  refine (HC.out w1 HB1.out).mono ?_
  rintro e w2 ⟨A5, N, c5, rfl, ho5, hb5⟩
  have HB2 := hide (HB1.out.trans (hb5.mono HB1.out.size))
  have HS1 := hide HB1.out.size
  have HO5 := hide ho5
  clear ho5 hb5
  rw [hv] at HO5 ⊢
  rcases v with _ | _
  · have HE := hide (ap_no5 (ms := ms) (sq := sq) (z := z) (a := a) hv)
    clear hv
    go_wp2
    go_ret2
    exact ⟨none, 0, 0, ret_pair HE.out.symm, by rw [ap_no HE.out]; exact MpR.nil_ w2 _, HB2.out⟩
  have hN : xs.length = N * 3 := HO5.out.1
  have hN9 : N ≤ 18 := by omega
  have HRI := hide (show RecsI 3 6 fldC xs N by
    have h := hv
    unfold bodyOk at h
    rw [if_neg hk] at h
    have h2 := recs_of h
    rwa [show xs.length / 3 = N by rw [hN]; omega] at h2)
  have HZ := hide (ap_zone (z := z) (a := a) (n := xs.length) (k := 3 + 3 * (N : Int) + 1) (by rw [hN]; omega))
  have HRN := hide (show recN kd xs = N by unfold recN; rw [if_neg hk, hN]; omega)
  have hsz : 0 ≤ 3 + 3 * (N : Int) + 1 ∧ 3 + 3 * (N : Int) + 1 ≤ 1000 := by omega
  have HSZ := hide hsz
  clear hv hN hlen hsz
  obtain ⟨Q, hQ⟩ : ∃ Q, 3 + 3 * (N : Int) + 1 = Q := ⟨_, rfl⟩
  rw [hQ] at HZ HSZ
  rcases h3 : (inB z 0 3 && inB a 0 (64 - Q)) with _ | _
  · have HE := hide (ap_no34 (ms := ms) (kd := kd) (sq := sq) (HZ.out.symm.trans h3))
    have HZC := hide (fun W => h3 ▸ zoneHas_any z a Q W HSZ.out)
    clear h3
    go_wp2_with fail
    refine (sizeCold_any A5 N c5 w2 hN9).mono ?_
    rintro e w3 ⟨rfl, hb3⟩
    have HB3 := hide (HB2.out.trans (hb3.mono HB2.out.size))
    clear hb3
    rw [hQ]
    clear hQ
    go_wp2_with fail
    refine (HZC.out w3).mono ?_
    rintro e w' ⟨rfl, rfl⟩
    go_wp2
    go_ret2
    exact ⟨none, 0, 0, ret_pair HE.out.symm, by rw [ap_no HE.out]; exact MpR.nil_ _ _, HB3.out⟩
  · have HZC := hide (fun W => h3 ▸ zoneHas_any z a Q W HSZ.out)
    have h34 := HZ.out.symm.trans h3
    rw [Bool.and_eq_true] at h34
    have HE := hide (ap_yes (ms := ms) (kd := kd) (sq := sq) HMV.out HFV.out h34.1 h34.2 HBV.out)
    have ha : 0 ≤ a ∧ a ≤ 60 := by have := inB_iff.1 h34.2; omega
    clear h3 h34
    go_wp2_with fail
    refine (sizeCold_any A5 N c5 w2 hN9).mono ?_
    rintro e w3 ⟨rfl, hb3⟩
    have HB3 := hide (HB2.out.trans (hb3.mono HB2.out.size))
    have HI3 := hide (HO5.out.ints.below hb3 (Nat.le_refl _))
    have HS3 := hide hb3.size
    clear hb3
    rw [hQ]
    clear hQ
    go_wp2_with fail
    refine (HZC.out w3).mono ?_
    rintro e w' ⟨rfl, rfl⟩
    go_wp2_with fail
    refine (cloneM_any ad 12 c B ms _ (HR.out.below HB3.out hB) (Nat.le_trans hB HB3.out.size) (by omega)).mono ?_
    rintro e w4 ⟨A4, c4, rfl, ho4, hb4⟩
    obtain ⟨g, rfl, hg0, hgl⟩ := ho4.2.shape (by omega)
    have HTC := hide (tellCold _ g c4 ms A5 N c5 w2.heap.size z a xs w4 ho4 (HI3.out.below hb4 HS3.out) (Nat.le_trans HS3.out hg0) HRI.out ha)
    have HB4 := hide (HB3.out.trans (hb4.mono HB3.out.size))
    have HG := hide (Nat.le_trans HB3.out.size hg0)
    have HB3S := hide HB3.out.size
    clear ho4 hb4
    go_wp2_with fail
    refine HTC.out.mono ?_
    rintro e w5 ⟨rfl, ht⟩
    have HT := hide ht
    have HB5 := hide (HB4.out.grown ht.gr HB4.out.size (by intro q hq; injection hq with hq; have := HG.out; omega))
    have HEQ := hide (show apM ms kd sq xs z a = puts (blkAt 3 xs) (coldE z a xs) N ms by rw [HE.out.2, HRN.out]; unfold apK; rw [if_neg hk])
    clear ht
    go_wp2
    go_ret2
    exact ⟨some ⟨g, 0, none⟩, 12, c4, ret_pair HE.out.1.symm, by rw [HEQ.out]; exact HT.out.own.mono HB3S.out, HB5.out⟩

theorem implMA (A F : Option Addr) (n c fn fc B BF : Nat) (ms : List Wh) (kd sq z a : Int) (xs : List Int) (w : World) (hr : MpI w B A n ms) (hf : Ints w BF F fn xs) (hB : B ≤ w.heap.size) (hBF : BF ≤ w.heap.size) (hn : n ≤ 1000000000) (hfn : fn ≤ 1000000000) (hfc : fn ≤ fc) (hfm : fc ≤ 9223372036854775807) :
    Calls Try.prog 11 #[.slice A n c, .agg #[.int .i64 kd, .int .i64 sq, .slice F fn fc], .int .i64 z, .int .i64 a] w (ApPost w (apOk ms kd sq xs z a) (apM ms kd sq xs z a)) := by
  rcases h1 : mpV ms with _ | _
  · exact implMA1 A F n c fn fc B BF ms kd sq z a xs w hr hf hB hBF hn hfn hfc hfm h1
  rcases h2 : validF kd sq xs with _ | _
  · exact implMA2 A F n c fn fc B BF ms kd sq z a xs w hr hf hB hBF hn hfn hfc hfm h1 h2
  by_cases hk : kd = 1
  · exact implMA3 A F n c fn fc B BF ms kd sq z a xs w hr hf hB hBF hn hfn hfc hfm h1 h2 hk
  · exact implMA4 A F n c fn fc B BF ms kd sq z a xs w hr hf hB hBF hn hfn hfc hfm h1 h2 hk
end Go.Proofs.Ytcocboigjfjnfab
