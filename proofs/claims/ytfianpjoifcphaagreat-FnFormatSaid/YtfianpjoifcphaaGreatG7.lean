/-
  Texts in one: ImpM5, ImpN4. Plain.
-/
import Derived.Test.YtfianpjoifcphaaGreatImpM4
import Derived.Test.YtfianpjoifcphaaGreatG4
import Derived.Test.YtfianpjoifcphaaGreatSpecN4
/- ImpM5 -/
namespace Go.Proofs.YtfianpjoifcphaaGreat
open Go.RowKit
set_option linter.unusedVariables false
set_option maxRecDepth 100000

theorem ap_zone {z a : Int} {n : Nat} {k : Int} (h : k = 3 + (n : Int) + 1) : (inB z 0 3 && inB a 0 (64 - k)) = (inB z 0 3 && inB a 0 (60 - (n : Int))) := by
  rw [show 64 - k = 60 - (n : Int) by omega]
theorem ap_no34 {ms : List Wh} {kd sq z a : Int} {xs : List Int} (h : (inB z 0 3 && inB a 0 (60 - xs.length)) = false) : apOk ms kd sq xs z a = false := by
  rw [Bool.and_eq_false_iff] at h
  rcases h with h | h
  · exact ap_no3 h
  · exact ap_no4 h

set_option maxHeartbeats 6400000 in
theorem implMA1 (A F : Option Addr) (n c fn fc B BF : Nat) (ms : List Wh) (kd sq z a : Int) (xs : List Int) (w : World) (hr : MpI w B A n ms) (hf : Ints w BF F fn xs) (hB : B ≤ w.heap.size) (hBF : BF ≤ w.heap.size) (hn : n ≤ 1000000000) (hfn : fn ≤ 1000000000) (hfc : fn ≤ fc) (hfm : fc ≤ 9223372036854775807) (h1 : mpV ms = false) :
    Calls Tryz.prog 168 #[.slice A n c, .agg #[.int .i64 kd, .int .i64 sq, .slice F fn fc], .int .i64 z, .int .i64 a] w (ApPost w (apOk ms kd sq xs z a) (apM ms kd sq xs z a)) := by
  have HR := hide hr
  have HF := hide hf
  have HL := hide hf.1
  have HRL := hide hr.1
  clear hr hf
  obtain ⟨W0, hW0⟩ : ∃ W0, w.alloc (.cells #[.int .i64 kd, .int .i64 sq, .slice F fn fc] 128) = W0 := ⟨_, rfl⟩
  have HSW := hide (show W0.heap.size = w.heap.size + 1 by rw [← hW0]; simp)
  have HW0 := hide (show Below w.heap.size w W0 by rw [← hW0]; exact below_new w _)
  have HQ : Hid (∀ W : World, Below W0.heap.size W0 W → (W.cell? ⟨w.heap.size, 0, none⟩ = some (.int .i64 kd) ∧ W.cell? ⟨w.heap.size, 1, none⟩ = some (.int .i64 sq) ∧ W.cell? ⟨w.heap.size, 2, none⟩ = some (.slice F fn fc)) ∧ Below w.heap.size w W) := by
    intro W h
    have hb : Blk W0 w.heap.size 128 #[.int .i64 kd, .int .i64 sq, .slice F fn fc] := by rw [← hW0]; exact Blk.new w _ _
    have hb2 := hb.below h (by have := HSW.out; omega)
    exact ⟨⟨by rw [hb2.cell]; rfl, by rw [hb2.cell]; rfl, by rw [hb2.cell]; rfl⟩, HW0.out.trans (h.mono HW0.out.size)⟩
  have HV := hide (implMV A n c B ms W0 (HR.out.below HW0.out hB) (Nat.le_trans hB HW0.out.size) hn)
  have HE := hide (ap_no1 (kd := kd) (sq := sq) (z := z) (a := a) (xs := xs) h1)
  rw [h1] at HV
  clear h1
  go_enter Tryz.func168, Tryz.ntmps168
  go_wp2_with fail
  refine HV.out.mono ?_
  rintro e w1 ⟨rfl, hb1⟩
  have HB1 := hide (HQ.out w1 hb1).2
  clear hb1
  go_wp2
  go_ret2
  exact ⟨none, 0, 0, ret_pair HE.out.symm, by rw [ap_no HE.out]; exact MpR.nil_ w1 _, HB1.out⟩

set_option maxHeartbeats 6400000 in
theorem implMA2 (A F : Option Addr) (n c fn fc B BF : Nat) (ms : List Wh) (kd sq z a : Int) (xs : List Int) (w : World) (hr : MpI w B A n ms) (hf : Ints w BF F fn xs) (hB : B ≤ w.heap.size) (hBF : BF ≤ w.heap.size) (hn : n ≤ 1000000000) (hfn : fn ≤ 1000000000) (hfc : fn ≤ fc) (hfm : fc ≤ 9223372036854775807) (h1 : mpV ms = true) (h2 : validF kd sq xs = false) :
    Calls Tryz.prog 168 #[.slice A n c, .agg #[.int .i64 kd, .int .i64 sq, .slice F fn fc], .int .i64 z, .int .i64 a] w (ApPost w (apOk ms kd sq xs z a) (apM ms kd sq xs z a)) := by
  have HR := hide hr
  have HF := hide hf
  have HL := hide hf.1
  have HRL := hide hr.1
  clear hr hf
  obtain ⟨W0, hW0⟩ : ∃ W0, w.alloc (.cells #[.int .i64 kd, .int .i64 sq, .slice F fn fc] 128) = W0 := ⟨_, rfl⟩
  have HSW := hide (show W0.heap.size = w.heap.size + 1 by rw [← hW0]; simp)
  have HW0 := hide (show Below w.heap.size w W0 by rw [← hW0]; exact below_new w _)
  have HQ : Hid (∀ W : World, Below W0.heap.size W0 W → (W.cell? ⟨w.heap.size, 0, none⟩ = some (.int .i64 kd) ∧ W.cell? ⟨w.heap.size, 1, none⟩ = some (.int .i64 sq) ∧ W.cell? ⟨w.heap.size, 2, none⟩ = some (.slice F fn fc)) ∧ Below w.heap.size w W) := by
    intro W h
    have hb : Blk W0 w.heap.size 128 #[.int .i64 kd, .int .i64 sq, .slice F fn fc] := by rw [← hW0]; exact Blk.new w _ _
    have hb2 := hb.below h (by have := HSW.out; omega)
    exact ⟨⟨by rw [hb2.cell]; rfl, by rw [hb2.cell]; rfl, by rw [hb2.cell]; rfl⟩, HW0.out.trans (h.mono HW0.out.size)⟩
  have HV := hide (implMV A n c B ms W0 (HR.out.below HW0.out hB) (Nat.le_trans hB HW0.out.size) hn)
  rw [h1] at HV
  have HE := hide (ap_no2 (ms := ms) (z := z) (a := a) h2)
  have HC := hide fun (W : World) (h : Below w.heap.size w W) => record_no kd sq F fn fc BF xs W (HF.out.below h hBF) (Nat.le_trans hBF h.size) hfn h2
  clear h1 h2
  go_enter Tryz.func168, Tryz.ntmps168
  go_wp2_with fail
  refine HV.out.mono ?_
  rintro e w1 ⟨rfl, hb1⟩
  obtain ⟨⟨hq0, hq1, hq2⟩, hB1⟩ := HQ.out w1 hb1
  have HB1 := hide hB1
  clear hb1 hB1
  go_wp2_with fail
  refine (HC.out w1 HB1.out).mono ?_
  rintro e w2 ⟨rfl, hb2⟩
  have HB2 := hide (HB1.out.trans (hb2.mono HB1.out.size))
  clear hb2
  go_wp2
  go_ret2
  exact ⟨none, 0, 0, ret_pair HE.out.symm, by rw [ap_no HE.out]; exact MpR.nil_ w2 _, HB2.out⟩

set_option maxHeartbeats 6400000 in
theorem implMA3 (A F : Option Addr) (n c fn fc B BF : Nat) (ms : List Wh) (kd sq z a : Int) (xs : List Int) (w : World) (hr : MpI w B A n ms) (hf : Ints w BF F fn xs) (hB : B ≤ w.heap.size) (hBF : BF ≤ w.heap.size) (hn : n ≤ 1000000000) (hfn : fn ≤ 1000000000) (hfc : fn ≤ fc) (hfm : fc ≤ 9223372036854775807) (h1 : mpV ms = true) (h2 : validF kd sq xs = true) (hk : kd = 1) :
    Calls Tryz.prog 168 #[.slice A n c, .agg #[.int .i64 kd, .int .i64 sq, .slice F fn fc], .int .i64 z, .int .i64 a] w (ApPost w (apOk ms kd sq xs z a) (apM ms kd sq xs z a)) := by
  have HR := hide hr
  have HF := hide hf
  have HL := hide hf.1
  have HRL := hide hr.1
  clear hr hf
  obtain ⟨W0, hW0⟩ : ∃ W0, w.alloc (.cells #[.int .i64 kd, .int .i64 sq, .slice F fn fc] 128) = W0 := ⟨_, rfl⟩
  have HSW := hide (show W0.heap.size = w.heap.size + 1 by rw [← hW0]; simp)
  have HW0 := hide (show Below w.heap.size w W0 by rw [← hW0]; exact below_new w _)
  have HQ : Hid (∀ W : World, Below W0.heap.size W0 W → (W.cell? ⟨w.heap.size, 0, none⟩ = some (.int .i64 kd) ∧ W.cell? ⟨w.heap.size, 1, none⟩ = some (.int .i64 sq) ∧ W.cell? ⟨w.heap.size, 2, none⟩ = some (.slice F fn fc)) ∧ Below w.heap.size w W) := by
    intro W h
    have hb : Blk W0 w.heap.size 128 #[.int .i64 kd, .int .i64 sq, .slice F fn fc] := by rw [← hW0]; exact Blk.new w _ _
    have hb2 := hb.below h (by have := HSW.out; omega)
    exact ⟨⟨by rw [hb2.cell]; rfl, by rw [hb2.cell]; rfl, by rw [hb2.cell]; rfl⟩, HW0.out.trans (h.mono HW0.out.size)⟩
  have HV := hide (implMV A n c B ms W0 (HR.out.below HW0.out hB) (Nat.le_trans hB HW0.out.size) hn)
  rw [h1] at HV
  have HC := hide fun (W : World) (h : Below w.heap.size w W) => record_hot kd sq F fn fc BF xs W (HF.out.below h hBF) (Nat.le_trans hBF h.size) hfn hfc hfm h2 hk
  have hlen : xs.length ≤ 18 := by have := (validF_iff.1 h2).2.2.1; omega
  obtain ⟨v, hv⟩ : ∃ v, bodyOk kd xs = v := ⟨_, rfl⟩
  have HBV := hide hv
  have HMV := hide h1
  have HFV := hide h2
  have hn12 : n = 12 := HRL.out.symm.trans (mpV_iff.1 h1).2
  subst hn12
  obtain ⟨ad, hA, _, _⟩ := HR.out.2.2 (by omega)
  subst hA
  clear h1 h2
  subst hk
  go_enter Tryz.func168, Tryz.ntmps168
  go_wp2_with fail
  refine HV.out.mono ?_
  rintro e w1 ⟨rfl, hb1⟩
  obtain ⟨⟨hq0, hq1, hq2⟩, hB1⟩ := HQ.out w1 hb1
  have HB1 := hide hB1
  clear hb1 hB1
  go_wp2_with fail
  refine (HC.out w1 HB1.out).mono ?_
  rintro e w2 ⟨A5, N, c5, rfl, ho5, hb5⟩
  have HB2 := hide (HB1.out.trans (hb5.mono HB1.out.size))
  have HS1 := hide HB1.out.size
  have HO5 := hide ho5
  clear ho5 hb5
  rw [hv] at HO5 ⊢
  rcases v with _ | _
  · have HE := hide (ap_no5 (ms := ms) (sq := sq) (z := z) (a := a) hv)
    clear hv
    go_wp2
    go_ret2
    exact ⟨none, 0, 0, ret_pair HE.out.symm, by rw [ap_no HE.out]; exact MpR.nil_ w2 _, HB2.out⟩
  have hN : xs.length = N * 2 := HO5.out.1
  have hN9 : N ≤ 18 := by omega
  have HRI := hide (show RecsI 2 9 fldP xs N by
    have h := hv
    unfold bodyOk at h
    rw [if_pos rfl] at h
    have h2 := recs_of h
    rwa [show xs.length / 2 = N by rw [hN]; omega] at h2)
  have HZ := hide (ap_zone (z := z) (a := a) (n := xs.length) (k := 3 + 2 * (N : Int) + 1) (by rw [hN]; omega))
  have HRN := hide (show recN 1 xs = N by unfold recN; rw [if_pos rfl, hN]; omega)
  have hsz : 0 ≤ 3 + 2 * (N : Int) + 1 ∧ 3 + 2 * (N : Int) + 1 ≤ 1000 := by omega
  have HSZ := hide hsz
  clear hv hN hlen hsz
  obtain ⟨Q, hQ⟩ : ∃ Q, 3 + 2 * (N : Int) + 1 = Q := ⟨_, rfl⟩
  rw [hQ] at HZ HSZ
  rcases h3 : (inB z 0 3 && inB a 0 (64 - Q)) with _ | _
  · have HE := hide (ap_no34 (ms := ms) (kd := 1) (sq := sq) (HZ.out.symm.trans h3))
    have HZC := hide (fun W => h3 ▸ zoneHas_any z a Q W HSZ.out)
    clear h3
    go_wp2_with fail
    refine (sizeHot_any A5 N c5 w2 hN9).mono ?_
    rintro e w3 ⟨rfl, hb3⟩
    have HB3 := hide (HB2.out.trans (hb3.mono HB2.out.size))
    clear hb3
    rw [hQ]
    clear hQ
    go_wp2_with fail
    refine (HZC.out w3).mono ?_
    rintro e w' ⟨rfl, rfl⟩
    go_wp2
    go_ret2
    exact ⟨none, 0, 0, ret_pair HE.out.symm, by rw [ap_no HE.out]; exact MpR.nil_ _ _, HB3.out⟩
  · have HZC := hide (fun W => h3 ▸ zoneHas_any z a Q W HSZ.out)
    have h34 := HZ.out.symm.trans h3
    rw [Bool.and_eq_true] at h34
    have HE := hide (ap_yes (ms := ms) (kd := 1) (sq := sq) HMV.out HFV.out h34.1 h34.2 HBV.out)
    have ha : 0 ≤ a ∧ a ≤ 60 := by have := inB_iff.1 h34.2; omega
    clear h3 h34
    go_wp2_with fail
    refine (sizeHot_any A5 N c5 w2 hN9).mono ?_
    rintro e w3 ⟨rfl, hb3⟩
    have HB3 := hide (HB2.out.trans (hb3.mono HB2.out.size))
    have HI3 := hide (HO5.out.ints.below hb3 (Nat.le_refl _))
    have HS3 := hide hb3.size
    clear hb3
    rw [hQ]
    clear hQ
    go_wp2_with fail
    refine (HZC.out w3).mono ?_
    rintro e w' ⟨rfl, rfl⟩
    go_wp2_with fail
    refine (cloneM_any ad 12 c B ms _ (HR.out.below HB3.out hB) (Nat.le_trans hB HB3.out.size) (by omega)).mono ?_
    rintro e w4 ⟨A4, c4, rfl, ho4, hb4⟩
    obtain ⟨g, rfl, hg0, hgl⟩ := ho4.2.shape (by omega)
    have HTC := hide (tellHot _ g c4 ms A5 N c5 w2.heap.size z a xs w4 ho4 (HI3.out.below hb4 HS3.out) (Nat.le_trans HS3.out hg0) HRI.out ha)
    have HB4 := hide (HB3.out.trans (hb4.mono HB3.out.size))
    have HG := hide (Nat.le_trans HB3.out.size hg0)
    have HB3S := hide HB3.out.size
    clear ho4 hb4
    go_wp2_with fail
    refine HTC.out.mono ?_
    rintro e w5 ⟨rfl, ht⟩
    have HT := hide ht
    have HB5 := hide (HB4.out.grown ht.gr HB4.out.size (by intro q hq; injection hq with hq; have := HG.out; omega))
    have HEQ := hide (show apM ms 1 sq xs z a = puts (blkAt 2 xs) (hotE z a xs) N ms by rw [HE.out.2, HRN.out]; unfold apK; rw [if_pos rfl])
    clear ht
    go_wp2
    go_ret2
    exact ⟨some ⟨g, 0, none⟩, 12, c4, ret_pair HE.out.1.symm, by rw [HEQ.out]; exact HT.out.own.mono HB3S.out, HB5.out⟩

set_option maxHeartbeats 6400000 in
theorem implMA4 (A F : Option Addr) (n c fn fc B BF : Nat) (ms : List Wh) (kd sq z a : Int) (xs : List Int) (w : World) (hr : MpI w B A n ms) (hf : Ints w BF F fn xs) (hB : B ≤ w.heap.size) (hBF : BF ≤ w.heap.size) (hn : n ≤ 1000000000) (hfn : fn ≤ 1000000000) (hfc : fn ≤ fc) (hfm : fc ≤ 9223372036854775807) (h1 : mpV ms = true) (h2 : validF kd sq xs = true) (hk : kd ≠ 1) :
    Calls Tryz.prog 168 #[.slice A n c, .agg #[.int .i64 kd, .int .i64 sq, .slice F fn fc], .int .i64 z, .int .i64 a] w (ApPost w (apOk ms kd sq xs z a) (apM ms kd sq xs z a)) := by
  have HR := hide hr
  have HF := hide hf
  have HL := hide hf.1
  have HRL := hide hr.1
  clear hr hf
  obtain ⟨W0, hW0⟩ : ∃ W0, w.alloc (.cells #[.int .i64 kd, .int .i64 sq, .slice F fn fc] 128) = W0 := ⟨_, rfl⟩
  have HSW := hide (show W0.heap.size = w.heap.size + 1 by rw [← hW0]; simp)
  have HW0 := hide (show Below w.heap.size w W0 by rw [← hW0]; exact below_new w _)
  have HQ : Hid (∀ W : World, Below W0.heap.size W0 W → (W.cell? ⟨w.heap.size, 0, none⟩ = some (.int .i64 kd) ∧ W.cell? ⟨w.heap.size, 1, none⟩ = some (.int .i64 sq) ∧ W.cell? ⟨w.heap.size, 2, none⟩ = some (.slice F fn fc)) ∧ Below w.heap.size w W) := by
    intro W h
    have hb : Blk W0 w.heap.size 128 #[.int .i64 kd, .int .i64 sq, .slice F fn fc] := by rw [← hW0]; exact Blk.new w _ _
    have hb2 := hb.below h (by have := HSW.out; omega)
    exact ⟨⟨by rw [hb2.cell]; rfl, by rw [hb2.cell]; rfl, by rw [hb2.cell]; rfl⟩, HW0.out.trans (h.mono HW0.out.size)⟩
  have HV := hide (implMV A n c B ms W0 (HR.out.below HW0.out hB) (Nat.le_trans hB HW0.out.size) hn)
  rw [h1] at HV
  have HC := hide fun (W : World) (h : Below w.heap.size w W) => record_cold kd sq F fn fc BF xs W (HF.out.below h hBF) (Nat.le_trans hBF h.size) hfn hfc hfm h2 hk
  have hlen : xs.length ≤ 18 := by have := (validF_iff.1 h2).2.2.1; omega
  obtain ⟨v, hv⟩ : ∃ v, bodyOk kd xs = v := ⟨_, rfl⟩
  have HBV := hide hv
  have HMV := hide h1
  have HFV := hide h2
  have hn12 : n = 12 := HRL.out.symm.trans (mpV_iff.1 h1).2
  subst hn12
  obtain ⟨ad, hA, _, _⟩ := HR.out.2.2 (by omega)
  subst hA
  clear h1 h2

  go_enter Tryz.func168, Tryz.ntmps168
  go_wp2_with fail
  refine HV.out.mono ?_
  rintro e w1 ⟨rfl, hb1⟩
  obtain ⟨⟨hq0, hq1, hq2⟩, hB1⟩ := HQ.out w1 hb1
  have HB1 := hide hB1
  clear hb1 hB1
  go_wp2_with fail
  refine (HC.out w1 HB1.out).mono ?_
  rintro e w2 ⟨A5, N, c5, rfl, ho5, hb5⟩
  have HB2 := hide (HB1.out.trans (hb5.mono HB1.out.size))
  have HS1 := hide HB1.out.size
  have HO5 := hide ho5
  clear ho5 hb5
  rw [hv] at HO5 ⊢
  rcases v with _ | _
  · have HE := hide (ap_no5 (ms := ms) (sq := sq) (z := z) (a := a) hv)
    clear hv
    go_wp2
    go_ret2
    exact ⟨none, 0, 0, ret_pair HE.out.symm, by rw [ap_no HE.out]; exact MpR.nil_ w2 _, HB2.out⟩
  have hN : xs.length = N * 3 := HO5.out.1
  have hN9 : N ≤ 18 := by omega
  have HRI := hide (show RecsI 3 6 fldC xs N by
    have h := hv
    unfold bodyOk at h
    rw [if_neg hk] at h
    have h2 := recs_of h
    rwa [show xs.length / 3 = N by rw [hN]; omega] at h2)
  have HZ := hide (ap_zone (z := z) (a := a) (n := xs.length) (k := 3 + 3 * (N : Int) + 1) (by rw [hN]; omega))
  have HRN := hide (show recN kd xs = N by unfold recN; rw [if_neg hk, hN]; omega)
  have hsz : 0 ≤ 3 + 3 * (N : Int) + 1 ∧ 3 + 3 * (N : Int) + 1 ≤ 1000 := by omega
  have HSZ := hide hsz
  clear hv hN hlen hsz
  obtain ⟨Q, hQ⟩ : ∃ Q, 3 + 3 * (N : Int) + 1 = Q := ⟨_, rfl⟩
  rw [hQ] at HZ HSZ
  rcases h3 : (inB z 0 3 && inB a 0 (64 - Q)) with _ | _
  · have HE := hide (ap_no34 (ms := ms) (kd := kd) (sq := sq) (HZ.out.symm.trans h3))
    have HZC := hide (fun W => h3 ▸ zoneHas_any z a Q W HSZ.out)
    clear h3
    go_wp2_with fail
    refine (sizeCold_any A5 N c5 w2 hN9).mono ?_
    rintro e w3 ⟨rfl, hb3⟩
    have HB3 := hide (HB2.out.trans (hb3.mono HB2.out.size))
    clear hb3
    rw [hQ]
    clear hQ
    go_wp2_with fail
    refine (HZC.out w3).mono ?_
    rintro e w' ⟨rfl, rfl⟩
    go_wp2
    go_ret2
    exact ⟨none, 0, 0, ret_pair HE.out.symm, by rw [ap_no HE.out]; exact MpR.nil_ _ _, HB3.out⟩
  · have HZC := hide (fun W => h3 ▸ zoneHas_any z a Q W HSZ.out)
    have h34 := HZ.out.symm.trans h3
    rw [Bool.and_eq_true] at h34
    have HE := hide (ap_yes (ms := ms) (kd := kd) (sq := sq) HMV.out HFV.out h34.1 h34.2 HBV.out)
    have ha : 0 ≤ a ∧ a ≤ 60 := by have := inB_iff.1 h34.2; omega
    clear h3 h34
    go_wp2_with fail
    refine (sizeCold_any A5 N c5 w2 hN9).mono ?_
    rintro e w3 ⟨rfl, hb3⟩
    have HB3 := hide (HB2.out.trans (hb3.mono HB2.out.size))
    have HI3 := hide (HO5.out.ints.below hb3 (Nat.le_refl _))
    have HS3 := hide hb3.size
    clear hb3
    rw [hQ]
    clear hQ
    go_wp2_with fail
    refine (HZC.out w3).mono ?_
    rintro e w' ⟨rfl, rfl⟩
    go_wp2_with fail
    refine (cloneM_any ad 12 c B ms _ (HR.out.below HB3.out hB) (Nat.le_trans hB HB3.out.size) (by omega)).mono ?_
    rintro e w4 ⟨A4, c4, rfl, ho4, hb4⟩
    obtain ⟨g, rfl, hg0, hgl⟩ := ho4.2.shape (by omega)
    have HTC := hide (tellCold _ g c4 ms A5 N c5 w2.heap.size z a xs w4 ho4 (HI3.out.below hb4 HS3.out) (Nat.le_trans HS3.out hg0) HRI.out ha)
    have HB4 := hide (HB3.out.trans (hb4.mono HB3.out.size))
    have HG := hide (Nat.le_trans HB3.out.size hg0)
    have HB3S := hide HB3.out.size
    clear ho4 hb4
    go_wp2_with fail
    refine HTC.out.mono ?_
    rintro e w5 ⟨rfl, ht⟩
    have HT := hide ht
    have HB5 := hide (HB4.out.grown ht.gr HB4.out.size (by intro q hq; injection hq with hq; have := HG.out; omega))
    have HEQ := hide (show apM ms kd sq xs z a = puts (blkAt 3 xs) (coldE z a xs) N ms by rw [HE.out.2, HRN.out]; unfold apK; rw [if_neg hk])
    clear ht
    go_wp2
    go_ret2
    exact ⟨some ⟨g, 0, none⟩, 12, c4, ret_pair HE.out.1.symm, by rw [HEQ.out]; exact HT.out.own.mono HB3S.out, HB5.out⟩

theorem implMA (A F : Option Addr) (n c fn fc B BF : Nat) (ms : List Wh) (kd sq z a : Int) (xs : List Int) (w : World) (hr : MpI w B A n ms) (hf : Ints w BF F fn xs) (hB : B ≤ w.heap.size) (hBF : BF ≤ w.heap.size) (hn : n ≤ 1000000000) (hfn : fn ≤ 1000000000) (hfc : fn ≤ fc) (hfm : fc ≤ 9223372036854775807) :
    Calls Tryz.prog 168 #[.slice A n c, .agg #[.int .i64 kd, .int .i64 sq, .slice F fn fc], .int .i64 z, .int .i64 a] w (ApPost w (apOk ms kd sq xs z a) (apM ms kd sq xs z a)) := by
  rcases h1 : mpV ms with _ | _
  · exact implMA1 A F n c fn fc B BF ms kd sq z a xs w hr hf hB hBF hn hfn hfc hfm h1
  rcases h2 : validF kd sq xs with _ | _
  · exact implMA2 A F n c fn fc B BF ms kd sq z a xs w hr hf hB hBF hn hfn hfc hfm h1 h2
  by_cases hk : kd = 1
  · exact implMA3 A F n c fn fc B BF ms kd sq z a xs w hr hf hB hBF hn hfn hfc hfm h1 h2 hk
  · exact implMA4 A F n c fn fc B BF ms kd sq z a xs w hr hf hB hBF hn hfn hfc hfm h1 h2 hk
end Go.Proofs.YtfianpjoifcphaaGreat

/- ImpN4 -/
namespace Go.Proofs.YtfianpjoifcphaaGreat
open Go.RowKit
set_option linter.unusedVariables false
set_option maxRecDepth 100000

theorem newM_own {w w1 : World} (hown : w1.ownsRow w.heap.size 141 5 (.slice (some ⟨w.heap.size, 0, none⟩) 12 12) 12 (madeCells (Value.agg #[.int .i64 0, .int .i64 0, .int .i64 0, .int .i64 0, .int .i64 0]).cells (12 * 5)).toList) :
    MpR w1 w.heap.size (some ⟨w.heap.size, 0, none⟩) 12 12 new12 := by
  refine ⟨rfl, by simp [fl5_length, new12], ?_⟩
  have e : (madeCells (Value.agg #[.int .i64 0, .int .i64 0, .int .i64 0, .int .i64 0, .int .i64 0]).cells (12 * 5)).toList = (fl5 new12).map (Value.int .i64) := by
    rw [made_sameM _ (.int .i64 0) (by decide) (fun i hi => by have h2 : i < 5 := hi; rcases i with _ | _ | _ | _ | _ | i <;> first | rfl | omega) _]
    rfl
  rw [← e]
  exact hown

set_option maxHeartbeats 6400000 in
theorem implSM (A : Option Addr) (n c B : Nat) (qs : List Fq) (w : World) (hr : Fnds w B A n qs) (hB : B ≤ w.heap.size) (hn : n ≤ 100000000) (hq : ∀ q ∈ qs, q.vals.length ≤ 1000000000) :
    Calls Tryz.prog 114 #[.slice A n c] w (SmPost w (smap (fns qs))) := by
  have HR := hide hr
  have HQ := hide hq
  clear hr hq
  obtain ⟨r, hr⟩ : ∃ r, smap (fns qs) = r := ⟨_, rfl⟩
  rw [hr]
  have HS0 : Hid (smF new12 0 ((fns qs).drop 0) = r) := by show _ = _; rw [← hr]; simp [smap]
  clear hr
  obtain ⟨i0, hi, hz0, hz1, hz2⟩ := info_parts whT.info
  go_enter Tryz.func114, Tryz.ntmps114
  go_wp2_with (at_make; refine wpList_make_full _ rfl _ _ 26 rfl w.heap.size 141 i0 (Value.agg #[.int .i64 0, .int .i64 0, .int .i64 0, .int .i64 0, .int .i64 0]) 5 Tryz.underlying26 hi hz0 hz1 .i64 .i64 _ _ 12 rfl rfl rfl rfl (by rw [hz2]; omega) (by unfold maxLen; omega) (Nat.le_refl _) ?_; intro w1 hown hgrow)
  have HO1 := hide (newM_own hown)
  have HB1 := hide (below_of_grown hgrow)
  clear hown hgrow hi hz0 hz1 hz2
  go_loopw [4, 5, 13] (fun m lv i wr => ∃ (k c2 : Nat) (A2 : Option Addr) (ms : List Wh) (l : Int), k ≤ n ∧ i = .int .i64 k ∧ lv = .int .i64 l ∧ m = .slice A2 12 c2 ∧ Hid (MpR wr w.heap.size A2 12 c2 ms) ∧ Hid (smF ms l ((fns qs).drop k) = r) ∧
      Hid (Below w.heap.size w wr)) (fun _ _ i _ => n - (intOf i).toNat)
  case atStart => exact ⟨0, 12, _, new12, 0, Nat.zero_le _, rfl, rfl, rfl, HO1.out, HS0.out, HB1.out⟩
  case round =>
    clear HO1 HB1 HS0
    obtain ⟨k, c2, A2, ms, l, hk, rfl, rfl, rfl, HO, HS, HB⟩ := hrel
    have hs := HB.out.size
    by_cases hlt : k < n
    · obtain ⟨q, hq⟩ : ∃ q, qs[k]? = some q := ⟨_, List.getElem?_eq_getElem (by rw [HR.out.1]; omega)⟩
      have hR := HR.out.below HB.out hB
      obtain ⟨ad, p, rfl, hp, hpb, hc0, hc1, hc2, hc3, hc4⟩ := hR.at_ hq
      obtain ⟨hi, hle, hcm, hnl⟩ := hR.words hq
      have hql := HQ.out q (List.mem_of_getElem? hq)
      have hBr : B ≤ wr.heap.size := Nat.le_trans hB hs
      obtain ⟨ok, hok⟩ : ∃ ok, apOk ms q.kind q.seq q.vals q.zone q.word = ok := ⟨_, rfl⟩
      have HST := hide ((smF_at hq ms l).symm.trans HS.out)
      rw [ok_fn hok] at HST
      have HAP : Hid (apFn ms q.fn = apM ms q.kind q.seq q.vals q.zone q.word) := rfl
      have HOK := hide hok
      obtain ⟨W0, hW0⟩ : ∃ W0, wr.alloc (.cells #[.int .i64 q.zone, .int .i64 q.word, .int .i64 q.kind, .int .i64 q.seq, q.sl] 156) = W0 := ⟨_, rfl⟩
      have hw0 : Below wr.heap.size wr W0 := by rw [← hW0]; exact below_new wr _
      have HBX := hide (show Blk W0 wr.heap.size 156 #[.int .i64 q.zone, .int .i64 q.word, .int .i64 q.kind, .int .i64 q.seq, q.sl] by rw [← hW0]; exact Blk.new wr _ _)
      have HSZ := hide (show W0.heap.size = wr.heap.size + 1 by rw [← hW0]; simp)
      have HB0 := hide (HB.out.trans (hw0.mono hs))
      unfold maxLen at hcm
      have HC := hide (implMA A2 q.addr 12 c2 q.vals.length q.cap wr.heap.size B ms q.kind q.seq q.zone q.word q.vals W0 (HO.out.mpi.below hw0 (Nat.le_refl _)) (hi.below hw0 hBr) hw0.size (Nat.le_trans hBr hw0.size) (by omega) hql hle (by omega))
      rw [hok] at HC
      obtain ⟨b0, b1, b2, b3, b4⟩ : W0.cell? ⟨wr.heap.size, 0, none⟩ = some (.int .i64 q.zone) ∧ W0.cell? ⟨wr.heap.size, 1, none⟩ = some (.int .i64 q.word) ∧ W0.cell? ⟨wr.heap.size, 2, none⟩ = some (.int .i64 q.kind) ∧
          W0.cell? ⟨wr.heap.size, 3, none⟩ = some (.int .i64 q.seq) ∧ W0.cell? ⟨wr.heap.size, 4, none⟩ = some q.sl := ⟨(HBX.out.cell 0), (HBX.out.cell 1), (HBX.out.cell 2), (HBX.out.cell 3), (HBX.out.cell 4)⟩
      clear hR hq hi hle hcm hnl hok hql HS hw0
      have k0 : (0 : Int) ≤ (k : Int) := by omega
      have k1 : (k : Int) < (n : Int) := by omega
      obtain ⟨z, a, x0, x1, ws, qa, qc⟩ := q
      simp only [Fq.sl] at hc0 hc1 hc2 hc3 hc4 HC HST HAP b0 b1 b2 b3 b4 hW0 HBX
      generalize hm : ws.length = m at hc4 HC b4 hW0 HBX
      go_wp2_with fail
      refine HC.out.mono ?_
      rintro e w3 ⟨A3, m3, c3, rfl, ho3, hb3⟩
      have HO3 := hide (ho3.mono (show w.heap.size ≤ W0.heap.size by have := HSZ.out; omega))
      have HB3 := hide (HB0.out.trans (hb3.mono (show w.heap.size ≤ W0.heap.size by have := HSZ.out; omega)))
      have hq3 : w3.cell? ⟨wr.heap.size, 3, none⟩ = some (.int .i64 x1) := (hb3.cell (p := ⟨wr.heap.size, 3, none⟩) (by have := HSZ.out; simp; omega)).trans b3
      clear ho3 hb3 hc0 hc1 hc2 hc3 hc4 HC b0 b1 b2 b3 b4 HBX hW0
      rcases ok with _ | _
      · have HE : Hid (none = r) := HST.out
        go_wp2
        go_ret2
        exact ⟨_, _, _, by rw [← HE.out]; rfl, by rw [← HE.out]; exact MpR.nil_ _ _, HB3.out⟩
      · have hm12 : m3 = 12 := HO3.out.1.symm.trans (apM_len HOK.out)
        subst hm12
        by_cases hlx : l < x1
        · have HE : Hid (smF (apFn ms (Fq.fn ⟨z, a, x0, x1, ws, qa, qc⟩)) x1 ((fns qs).drop (k + 1)) = r) := by
            have h := HST.out
            rw [show (true && decide (l < x1)) = true from by simp only [Bool.true_and, decide_eq_true_iff]; exact hlx] at h
            exact h
          rw [HAP.out] at HE
          have hlx2 : ¬ x1 ≤ l := by omega
          go_wp2_with fail
          go_quiet (fail)
          go_wp2
          go_roundw
          case rel => exact ⟨k + 1, c3, A3, _, x1, by omega, by go_num, rfl, rfl, HO3.out.drewN _, HE.out, below_drewN HB3.out _⟩
          case measure => simp [intOf]; omega
        · have HE : Hid (none = r) := by
            have h := HST.out
            rw [show (true && decide (l < x1)) = false from by simp only [Bool.true_and, decide_eq_false_iff_not]; exact hlx] at h
            exact h
          have hlx2 : x1 ≤ l := by omega
          go_wp2
          go_ret2
          exact ⟨_, _, _, by rw [← HE.out]; rfl, by rw [← HE.out]; exact MpR.nil_ _ _, HB3.out⟩
    · obtain rfl : k = n := by omega
      have HE := hide ((smF_end HR.out.1 ms l).symm.trans HS.out)
      go_wp2
      go_ret2
      exact ⟨A2, 12, c2, by rw [← HE.out]; rfl, by rw [← HE.out]; exact HO.out, HB.out⟩
end Go.Proofs.YtfianpjoifcphaaGreat
