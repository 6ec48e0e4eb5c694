/-
  The program's HeatValid, HeatUse, HeatDecay.
-/
import Derived.Test.YtnkflcibbhoedaaSpecH1
import Derived.Test.YtnkflcibbhoedaaClone
namespace Go.Proofs.Ytnkflcibbhoedaa
open Go.RowKit
set_option linter.unusedVariables false
set_option maxRecDepth 100000

set_option maxHeartbeats 1600000 in
theorem implHV (A : Option Addr) (n c B : Nat) (h : List Int) (w : World) (hr : Ints w B A n h) (hn : n ≤ 1000000000000) :
    Calls Try.prog 18 #[.slice A n c] w fun e w' => e = .returned (.bool (hV h)) ∧ w = w' := by
  have HR := hide hr
  clear hr
  by_cases hn12 : n = 12
  · subst hn12
    go_enter Try.func18, Try.ntmps18
    go_wp2
    go_loop [10] (fun i => ∃ k : Nat, k ≤ 12 ∧ i = .int .i64 k ∧ Hid ((h.take k).all (fun x => inB x 0 100) = true)) (fun i => 12 - (intOf i).toNat)
    case atStart => exact ⟨0, Nat.zero_le _, rfl, rfl⟩
    case round =>
      obtain ⟨k, hk, rfl, HA⟩ := hrel
      by_cases hlt : k < 12
      · have HT := hide (hV_take (h := h) (k := k) (by rw [HR.out.1]; exact hlt))
        have HN := hide fun hx => hV_no (h := h) (k := k) (by rw [HR.out.1]; exact hlt) hx
        obtain ⟨ad, rfl, hb, hc⟩ := HR.out.at_ hlt
        generalize h.getD k 0 = x at hc HT HN
        have hk1 : (k : Int) < 12 := by omega
        by_cases h1 : x < 0
        · have H1 := hide (show inB x 0 100 = false by unfold inB; rw [decide_eq_false (by omega)]; rfl)
          go_wp2
          go_ret
          exact ⟨ret_bool (HN.out H1.out).symm, rfl⟩
        · by_cases h2 : 100 < x
          · have H1 := hide (show inB x 0 100 = false by unfold inB; rw [decide_eq_false (p := x ≤ 100) (by omega), Bool.and_false])
            go_wp2
            go_ret
            exact ⟨ret_bool (HN.out H1.out).symm, rfl⟩
          · have H1 := hide (show inB x 0 100 = true from inB_iff.2 (by omega))
            go_wp2
            go_round
            case rel => exact ⟨k + 1, by omega, by go_num, by show _ = _; rw [HT.out, HA.out, H1.out]; rfl⟩
            case measure => simp [intOf]; omega
      · obtain rfl : k = 12 := by omega
        have HD := hide (show h.all (fun x => inB x 0 100) = true by have := HA.out; rwa [List.take_of_length_le (by rw [HR.out.1]; exact Nat.le_refl _)] at this)
        go_wp2
        go_ret
        exact ⟨ret_bool (by unfold hV; rw [HD.out, HR.out.1]; rfl), rfl⟩
  · have hne : ((n : Int) != 12) = true := by simp; omega
    have HN := hide (show hV h = false by unfold hV; rw [HR.out.1, decide_eq_false hn12, Bool.and_false])
    clear hn12
    go_enter Try.func18, Try.ntmps18
    go_wp2
    go_ret
    exact ⟨ret_bool HN.out.symm, rfl⟩

set_option maxHeartbeats 3200000 in
theorem implHU (A : Option Addr) (n c B : Nat) (h : List Int) (b : Int) (w : World) (hr : Ints w B A n h) (hB : B ≤ w.heap.size) (hn : n ≤ 1000000000000) :
    Calls Try.prog 15 #[.slice A n c, .int .i64 b] w (UsePost w (useV h b) (useS h b)) := by
  have HI := hide hr
  have HV := hide (implHV A n c B h w hr hn)
  clear hr
  rcases hv : hV h with _ | _
  · have E1 := hide (show useV h b = false by unfold useV; rw [hv]; rfl)
    have E2 := hide (show useS h b = [] by unfold useS; rw [E1.out]; rfl)
    rw [hv] at HV
    clear hv
    rw [E1.out, E2.out]
    go_enter Try.func15, Try.ntmps15
    go_wp2_with (go_at_call 18; refine HV.out.mono ?_; rintro e w' ⟨rfl, rfl⟩)
    go_ret2
    exact ⟨_, _, _, rfl, Own.nil_ _ _, Below.refl _ _⟩
  · rw [hv] at HV
    by_cases hb0 : b < 0
    · have E1 := hide (show useV h b = false by unfold useV inB; rw [decide_eq_false (p := 0 ≤ b) (by omega)]; simp)
      have E2 := hide (show useS h b = [] by unfold useS; rw [E1.out]; rfl)
      clear hv
      rw [E1.out, E2.out]
      go_enter Try.func15, Try.ntmps15
      go_wp2_with (go_at_call 18; refine HV.out.mono ?_; rintro e w' ⟨rfl, rfl⟩)
      go_ret2
      exact ⟨_, _, _, rfl, Own.nil_ _ _, Below.refl _ _⟩
    · by_cases hb1 : 12 ≤ b
      · have E1 := hide (show useV h b = false by unfold useV inB; rw [decide_eq_false (p := b ≤ 11) (by omega)]; simp)
        have E2 := hide (show useS h b = [] by unfold useS; rw [E1.out]; rfl)
        clear hv
        rw [E1.out, E2.out]
        go_enter Try.func15, Try.ntmps15
        go_wp2_with (go_at_call 18; refine HV.out.mono ?_; rintro e w' ⟨rfl, rfl⟩)
        go_ret2
        exact ⟨_, _, _, rfl, Own.nil_ _ _, Below.refl _ _⟩
      · have E1 := hide (show useV h b = true by unfold useV; rw [hv, inB_iff.2 (by omega)]; rfl)
        have E2 := hide (show useS h b = useH h b.toNat by unfold useS; rw [E1.out]; rfl)
        have hn12 : n = 12 := HI.out.1.symm.trans (hV_len hv)
        subst hn12
        obtain ⟨k, rfl⟩ := Int.eq_ofNat_of_zero_le (show 0 ≤ b by omega)
        rw [Int.toNat_natCast] at E2
        have hk : k < 12 := by omega
        have hx := hV_at hv hk
        obtain ⟨x, hxe⟩ : ∃ x, h.getD k 0 = x := ⟨_, rfl⟩
        rw [hxe] at hx
        have HX := hide hxe
        have wx : IntKind.i64.wrap (x + 10) = x + 10 := IntWalk.i64_in _ (by omega)
        have HCL := hide (clone_any A 12 c B h w HI.out hB (by omega) (by rintro rfl; obtain ⟨_, e, _⟩ := HI.out.2 (by omega); cases e))
        have HU : Hid (useH h k = h.set k (min (x + 10) 100)) := by show _ = _; unfold useH; rw [hxe]
        clear hv hxe
        rw [E1.out, E2.out, HU.out]
        go_enter Try.func15, Try.ntmps15
        by_cases hm : x + 10 ≤ 100
        · rw [show min (x + 10) 100 = x + 10 by omega]
          go_wp2_with (first
            | (go_at_call 18; refine HV.out.mono ?_; rintro e w' ⟨rfl, rfl⟩)
            | (go_at_call 34; refine HCL.out.mono ?_; rintro e w3 ⟨A2, c2, rfl, ho3, hb3⟩; obtain ⟨g, rfl, hgb, hgl⟩ := ho3.shape (by omega); have hcell := ho3.cell (g := g) (j := k) hk; rw [HX.out] at hcell; have hfree := ho3.free (g := g) (j := k); have hst := ho3.stored (g := g) (j := k) (x + 10); have HS := hide hst.1; have HG := hide (hb3.grown hst.2 hb3.size (by intro q hq; injection hq with hq; omega)); clear ho3 hst hb3))
          go_ret2
          exact ⟨_, _, _, rfl, HS.out, HG.out⟩
        · rw [show min (x + 10) 100 = 100 by omega]
          go_wp2_with (first
            | (go_at_call 18; refine HV.out.mono ?_; rintro e w' ⟨rfl, rfl⟩)
            | (go_at_call 34; refine HCL.out.mono ?_; rintro e w3 ⟨A2, c2, rfl, ho3, hb3⟩; obtain ⟨g, rfl, hgb, hgl⟩ := ho3.shape (by omega); have hcell := ho3.cell (g := g) (j := k) hk; rw [HX.out] at hcell; have hfree := ho3.free (g := g) (j := k); have hst := ho3.stored (g := g) (j := k) 100; have HS := hide hst.1; have HG := hide (hb3.grown hst.2 hb3.size (by intro q hq; injection hq with hq; omega)); clear ho3 hst hb3))
          go_ret2
          exact ⟨_, _, _, rfl, HS.out, HG.out⟩

set_option maxHeartbeats 3200000 in
theorem implHD (A : Option Addr) (n c B : Nat) (h : List Int) (w : World) (hr : Ints w B A n h) (hB : B ≤ w.heap.size) (hn : n ≤ 1000000000000) :
    Calls Try.prog 20 #[.slice A n c] w (LPost w (decS h)) := by
  have HI := hide hr
  have HV := hide (implHV A n c B h w hr hn)
  clear hr
  rcases hv : hV h with _ | _
  · rw [hv] at HV
    rw [decS_no hv]
    clear hv
    go_enter Try.func20, Try.ntmps20
    go_wp2_with (go_at_call 18; refine HV.out.mono ?_; rintro e w' ⟨rfl, rfl⟩)
    go_ret
    exact ⟨_, _, _, rfl, Own.nil_ _ _, Below.refl _ _⟩
  · have HVV := hide hv
    rw [hv] at HV
    rw [decS_yes hv]
    have hn12 : n = 12 := HI.out.1.symm.trans (hV_len hv)
    subst hn12
    have HCL := hide (clone_any A 12 c B h w HI.out hB (by omega) (by rintro rfl; obtain ⟨_, e, _⟩ := HI.out.2 (by omega); cases e))
    have HLN := hide (show h.length = 12 from HI.out.1)
    clear hv
    go_enter Try.func20, Try.ntmps20
    go_wp2_with (first
      | (go_at_call 18; refine HV.out.mono ?_; rintro e w' ⟨rfl, rfl⟩)
      | (go_at_call 34; refine HCL.out.mono ?_; rintro e w3 ⟨A2, c2, rfl, ho3, hb3⟩; obtain ⟨g, rfl, hgb, hgl⟩ := ho3.shape (by omega); have HO3 := hide ho3; have HB3 := hide hb3; clear ho3 hb3))
    go_loopw [12] (fun i wr => ∃ (k : Nat), k ≤ 12 ∧ i = .int .i64 k ∧ Hid (Own wr w.heap.size (some ⟨g, 0, none⟩) 12 c2 (decH (h.take k) ++ h.drop k)) ∧ Hid (Below w.heap.size w wr)) (fun i _ => 12 - (intOf i).toNat)
    case atStart => exact ⟨0, by omega, rfl, HO3.out, HB3.out⟩
    case round =>
      clear HO3 HB3
      obtain ⟨k, hk, rfl, HO, HB⟩ := hrel
      by_cases hlt : k < 12
      · have hkl : k < h.length := by rw [HLN.out]; exact hlt
        have hx := hV_at HVV.out hlt
        have hcell := HO.out.cell (g := g) (j := k) hlt
        have hfree := HO.out.free (g := g) (j := k)
        rw [dec_take_getD hkl] at hcell
        have hst := HO.out.stored (g := g) (j := k) (h.getD k 0 / 2)
        rw [dec_take_set hkl] at hst
        have HS := hide hst.1
        have HG := hide (HB.out.grown hst.2 HB.out.size (by intro q hq; injection hq with hq; omega))
        clear hst hkl HO HB
        generalize h.getD k 0 = x at hx hcell HS HG
        have hx0 : 0 ≤ x := hx.1
        have k0 : (0 : Int) ≤ (k : Int) := by omega
        have k1 : (k : Int) < 12 := by omega
        go_wp2
        go_roundw
        case rel => exact ⟨k + 1, by omega, by go_num, HS.out, HG.out⟩
        case measure => simp [intOf]; omega
      · obtain rfl : k = 12 := by omega
        have HD := hide (show decH (h.take 12) ++ h.drop 12 = decH h by rw [List.take_of_length_le (by rw [HLN.out]; exact Nat.le_refl _), List.drop_of_length_le (by rw [HLN.out]; exact Nat.le_refl _), List.append_nil])
        go_wp2
        go_ret
        exact ⟨_, _, _, rfl, by have := HO.out; rwa [HD.out] at this, HB.out⟩
end Go.Proofs.Ytnkflcibbhoedaa
