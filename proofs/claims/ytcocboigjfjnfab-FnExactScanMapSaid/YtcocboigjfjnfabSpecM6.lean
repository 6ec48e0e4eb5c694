/-
  The model's MapApply.
-/
import Derived.Test.YtcocboigjfjnfabSpecM5
namespace Go.Proofs.Ytcocboigjfjnfab
open Go.RowKit
set_option linter.unusedVariables false
set_option maxRecDepth 100000

theorem ret_pair {v : Value} {x y : Bool} (h : x = y) : Ending.returned (.tuple #[v, .bool x]) = .returned (.tuple #[v, .bool y]) := by rw [h]
/-- what MapApply answers -/
def ApPost (w : World) (ok : Bool) (ms : List Wh) (e : Ending) (w' : World) : Prop :=
  ∃ A2 m2 c2, e = .returned (.tuple #[.slice A2 m2 c2, .bool ok]) ∧ MpR w' w.heap.size A2 m2 c2 ms ∧ Below w.heap.size w w'
theorem ap_no {ms : List Wh} {kd sq z a : Int} {xs : List Int} (h : apOk ms kd sq xs z a = false) : apM ms kd sq xs z a = [] := by unfold apM; rw [h]; rfl
theorem ap_no1 {ms : List Wh} {kd sq z a : Int} {xs : List Int} (h : mpV ms = false) : apOk ms kd sq xs z a = false := by unfold apOk; rw [h]; rfl
theorem ap_no2 {ms : List Wh} {kd sq z a : Int} {xs : List Int} (h : validF kd sq xs = false) : apOk ms kd sq xs z a = false := by unfold apOk; rw [h]; simp
theorem ap_no3 {ms : List Wh} {kd sq z a : Int} {xs : List Int} (h : inB z 0 3 = false) : apOk ms kd sq xs z a = false := by unfold apOk; rw [h]; simp
theorem ap_no4 {ms : List Wh} {kd sq z a : Int} {xs : List Int} (h : inB a 0 (60 - xs.length) = false) : apOk ms kd sq xs z a = false := by unfold apOk; rw [h]; simp
theorem ap_no5 {ms : List Wh} {kd sq z a : Int} {xs : List Int} (h : bodyOk kd xs = false) : apOk ms kd sq xs z a = false := by unfold apOk; rw [h]; simp
theorem ap_yes {ms : List Wh} {kd sq z a : Int} {xs : List Int} (h1 : mpV ms = true) (h2 : validF kd sq xs = true) (h3 : inB z 0 3 = true) (h4 : inB a 0 (60 - xs.length) = true) (h5 : bodyOk kd xs = true) :
    apOk ms kd sq xs z a = true ∧ apM ms kd sq xs z a = apK kd z a xs (recN kd xs) ms := by
  have h : apOk ms kd sq xs z a = true := by unfold apOk; rw [h1, h2, h3, h4, h5]; rfl
  exact ⟨h, by unfold apM; rw [if_pos h]⟩

set_option maxHeartbeats 6400000 in
theorem specMA (A F : Option Addr) (n c fn fc B BF : Nat) (ms : List Wh) (kd sq z a : Int) (xs : List Int) (w : World) (hr : MpI w B A n ms) (hf : Ints w BF F fn xs) (hB : B ≤ w.heap.size) (hBF : BF ≤ w.heap.size) (hn : n ≤ 1000000000) (hfn : fn ≤ 1000000000) :
    Calls Try.prog 27 #[.slice A n c, .agg #[.int .i64 kd, .int .i64 sq, .slice F fn fc], .int .i64 z, .int .i64 a] w (ApPost w (apOk ms kd sq xs z a) (apM ms kd sq xs z a)) := by
  have HR := hide hr
  have HF := hide hf
  have HL := hide hf.1
  have HRL := hide hr.1
  clear hr hf
  obtain ⟨W0, hW0⟩ : ∃ W0, w.alloc (.cells #[.int .i64 kd, .int .i64 sq, .slice F fn fc] 32) = W0 := ⟨_, rfl⟩
  have HSW := hide (show W0.heap.size = w.heap.size + 1 by rw [← hW0]; simp)
  have HW0 := hide (show Below w.heap.size w W0 by rw [← hW0]; exact below_new w _)
  have HQ : Hid (∀ W : World, Below W0.heap.size W0 W → (W.cell? ⟨w.heap.size, 0, none⟩ = some (.int .i64 kd) ∧ W.cell? ⟨w.heap.size, 1, none⟩ = some (.int .i64 sq) ∧ W.cell? ⟨w.heap.size, 2, none⟩ = some (.slice F fn fc)) ∧ Below w.heap.size w W) := by
    intro W h
    have hb : Blk W0 w.heap.size 32 #[.int .i64 kd, .int .i64 sq, .slice F fn fc] := by rw [← hW0]; exact Blk.new w _ _
    have hb2 := hb.below h (by have := HSW.out; omega)
    exact ⟨⟨by rw [hb2.cell]; rfl, by rw [hb2.cell]; rfl, by rw [hb2.cell]; rfl⟩, HW0.out.trans (h.mono HW0.out.size)⟩
  have HV := hide (specMV A n c B ms W0 (HR.out.below HW0.out hB) (Nat.le_trans hB HW0.out.size) hn)
  have HFV := hide fun (W : World) (h : Below W0.heap.size W0 W) => specValid kd sq F fn fc BF xs W (HF.out.below (HQ.out W h).2 hBF) (Nat.le_trans hBF (HQ.out W h).2.size) (by unfold maxLen; omega)
  have wf : IntKind.i64.wrap (60 - (fn : Int)) = 60 - (fn : Int) := IntWalk.i64_in _ (by omega)
  rcases h1 : mpV ms with _ | _
  · rw [h1] at HV
    have HE := hide (ap_no1 (kd := kd) (sq := sq) (z := z) (a := a) (xs := xs) h1)
    clear h1
    go_enter Try.func27, Try.ntmps27
    go_wp2_with fail
    refine HV.out.mono ?_
    rintro e w1 ⟨rfl, hb1⟩
    have HB1 := hide (HQ.out w1 hb1).2
    clear hb1
    go_wp2
    go_ret2
    exact ⟨_, _, _, ret_pair HE.out.symm, by rw [ap_no HE.out]; exact MpR.lit0 w1 _ HB1.out.size, HB1.out.alloc HB1.out.size _⟩
  rw [h1] at HV
  rcases h2 : validF kd sq xs with _ | _
  · rw [h2] at HFV
    have HE := hide (ap_no2 (ms := ms) (z := z) (a := a) h2)
    clear h1 h2
    go_enter Try.func27, Try.ntmps27
    go_wp2_with fail
    refine HV.out.mono ?_
    rintro e w1 ⟨rfl, hb1⟩
    obtain ⟨⟨hq0, hq1, hq2⟩, hB1⟩ := HQ.out w1 hb1
    have HB0 := hide hb1
    clear hb1 hB1
    go_wp2_with fail
    refine (HFV.out w1 HB0.out).mono ?_
    rintro e w2 ⟨rfl, hb2⟩
    have HB2 := hide (HQ.out w2 (HB0.out.trans (hb2.mono HB0.out.size))).2
    clear hb2
    go_wp2
    go_ret2
    exact ⟨_, _, _, ret_pair HE.out.symm, by rw [ap_no HE.out]; exact MpR.lit0 w2 _ HB2.out.size, HB2.out.alloc HB2.out.size _⟩
  rw [h2] at HFV
  have H1 := hide h1
  have H2 := hide h2
  rcases h3 : inB z 0 3 with _ | _
  · have H3 := hide h3
    have HE := hide (ap_no3 (ms := ms) (kd := kd) (sq := sq) (a := a) (xs := xs) h3)
    clear h1 h2 h3
    go_enter Try.func27, Try.ntmps27
    go_wp2_with fail
    refine HV.out.mono ?_
    rintro e w1 ⟨rfl, hb1⟩
    obtain ⟨⟨hq0, hq1, hq2⟩, hB1⟩ := HQ.out w1 hb1
    have HB0 := hide hb1
    clear hb1 hB1
    go_wp2_with fail
    refine (HFV.out w1 HB0.out).mono ?_
    rintro e w2 ⟨rfl, hb2⟩
    have HB2 := hide (HQ.out w2 (HB0.out.trans (hb2.mono HB0.out.size))).2
    clear hb2
    go_wp2_with fail
    refine (in_no _ _ _ _ H3.out).mono ?_
    rintro e w' ⟨rfl, rfl⟩
    go_wp2
    go_ret2
    exact ⟨_, _, _, ret_pair HE.out.symm, by rw [ap_no HE.out]; exact MpR.lit0 _ _ HB2.out.size, HB2.out.alloc HB2.out.size _⟩
  have H3 := hide h3
  have HLE := hide (show inB a 0 (60 - xs.length) = inB a 0 (60 - (fn : Int)) by rw [HL.out])
  rcases h4 : inB a 0 (60 - (fn : Int)) with _ | _
  · have H4 := hide h4
    have HE := hide (ap_no4 (ms := ms) (kd := kd) (sq := sq) (z := z) (xs := xs) (HLE.out.trans h4))
    clear h1 h2 h3 h4
    go_enter Try.func27, Try.ntmps27
    go_wp2_with fail
    refine HV.out.mono ?_
    rintro e w1 ⟨rfl, hb1⟩
    obtain ⟨⟨hq0, hq1, hq2⟩, hB1⟩ := HQ.out w1 hb1
    have HB0 := hide hb1
    clear hb1 hB1
    go_wp2_with fail
    refine (HFV.out w1 HB0.out).mono ?_
    rintro e w2 ⟨rfl, hb2⟩
    obtain ⟨⟨hr0, hr1, hr2⟩, hB2⟩ := HQ.out w2 (HB0.out.trans (hb2.mono HB0.out.size))
    have HB2 := hide hB2
    clear hb2 hB2
    go_wp2_with fail
    refine (in_yes _ _ _ _ H3.out).mono ?_
    rintro e w' ⟨rfl, rfl⟩
    go_wp2_with fail
    refine (in_no _ _ _ _ H4.out).mono ?_
    rintro e w' ⟨rfl, rfl⟩
    go_wp2
    go_ret2
    exact ⟨_, _, _, ret_pair HE.out.symm, by rw [ap_no HE.out]; exact MpR.lit0 _ _ HB2.out.size, HB2.out.alloc HB2.out.size _⟩
  have H4 := hide h4
  have h4' := inB_iff.1 h4
  have hn12 : n = 12 := HRL.out.symm.trans (mpV_iff.1 h1).2
  subst hn12
  have hlen : xs.length ≤ 18 := by have := (validF_iff.1 h2).2.2.1; omega
  have HAP := hide fun (W : World) (h : Below w.heap.size w W) => l11Apply_any A F c fn fc B BF ms kd sq z a xs W (HR.out.below h hB) (HF.out.below h hBF) (Nat.le_trans hB h.size) (Nat.le_trans hBF h.size) hlen (by omega)
  obtain ⟨v, hv⟩ : ∃ v, bodyOk kd xs = v := ⟨_, rfl⟩
  have HBV := hide hv
  clear h1 h2 h3 h4 h4' hlen hv
  go_enter Try.func27, Try.ntmps27
  go_wp2_with fail
  refine HV.out.mono ?_
  rintro e w1 ⟨rfl, hb1⟩
  obtain ⟨⟨hq0, hq1, hq2⟩, hB1⟩ := HQ.out w1 hb1
  have HB0 := hide hb1
  clear hb1 hB1
  go_wp2_with fail
  refine (HFV.out w1 HB0.out).mono ?_
  rintro e w2 ⟨rfl, hb2⟩
  obtain ⟨⟨hr0, hr1, hr2⟩, hB2⟩ := HQ.out w2 (HB0.out.trans (hb2.mono HB0.out.size))
  have HB2 := hide hB2
  clear hb2 hB2 hq0 hq1 hq2
  go_wp2_with fail
  refine (in_yes _ _ _ _ H3.out).mono ?_
  rintro e w' ⟨rfl, rfl⟩
  go_wp2_with fail
  refine (in_yes _ _ _ _ H4.out).mono ?_
  rintro e w' ⟨rfl, rfl⟩
  go_wp2_with fail
  refine (HAP.out _ HB2.out).mono ?_
  rintro e w3 ⟨A3, c3, rfl, ho3, hb3⟩
  have HO3 := hide ho3
  have HB3 := hide (HB2.out.trans (hb3.mono HB2.out.size))
  have HS2 := hide HB2.out.size
  clear ho3 hb3
  rw [HBV.out] at HO3 ⊢
  rcases v with _ | _
  · have HE := hide (ap_no5 (ms := ms) (sq := sq) (z := z) (a := a) HBV.out)
    go_wp2
    go_ret2
    exact ⟨_, _, _, ret_pair HE.out.symm, by rw [ap_no HE.out]; exact MpR.lit0 _ _ HB3.out.size, HB3.out.alloc HB3.out.size _⟩
  · have HE := hide (ap_yes H1.out H2.out H3.out (HLE.out.trans H4.out) HBV.out)
    go_wp2
    go_ret2
    exact ⟨_, _, _, ret_pair HE.out.1.symm, by rw [HE.out.2]; exact (HO3.out (by first | trivial | rfl)).mono HS2.out, HB3.out⟩
end Go.Proofs.Ytcocboigjfjnfab
