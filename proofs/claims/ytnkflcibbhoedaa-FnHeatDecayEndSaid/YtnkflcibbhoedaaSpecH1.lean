/-
  The model's HeatValid, l13Use, HeatUse, HeatDecay.
-/
import Derived.Test.YtnkflcibbhoedaaHeatM
import Derived.Test.YtnkflcibbhoedaaQo
namespace Go.Proofs.Ytnkflcibbhoedaa
open Go.RowKit
set_option linter.unusedVariables false
set_option maxRecDepth 100000

/-- a list of the call's own -/
def LPost (w : World) (xs : List Int) (e : Ending) (w' : World) : Prop :=
  ∃ A2 n2 c2, e = .returned (.slice A2 n2 c2) ∧ Own w' w.heap.size A2 n2 c2 xs ∧ Below w.heap.size w w'
/-- .. and whether it was done -/
def UsePost (w : World) (v : Bool) (xs : List Int) (e : Ending) (w' : World) : Prop :=
  ∃ A2 n2 c2, e = .returned (.tuple #[.slice A2 n2 c2, .bool v]) ∧ Own w' w.heap.size A2 n2 c2 xs ∧ Below w.heap.size w w'
def useV (h : List Int) (b : Int) : Bool := hV h && inB b 0 11
def useS (h : List Int) (b : Int) : List Int := if useV h b then useH h b.toNat else []

set_option maxHeartbeats 1600000 in
theorem specHV (A : Option Addr) (n c B : Nat) (h : List Int) (w : World) (hr : Ints w B A n h) (hn : n ≤ 1000000000000) :
    Calls Try.prog 22 #[.slice A n c] w fun e w' => e = .returned (.bool (hV h)) ∧ w = w' := by
  have HR := hide hr
  clear hr
  go_enter Try.func22, Try.ntmps22
  go_wp2
  go_loop [3] (fun i => ∃ k : Nat, k ≤ n ∧ i = .int .i64 k ∧ Hid ((h.take k).all (fun x => inB x 0 100) = true)) (fun i => n - (intOf i).toNat)
  case atStart => exact ⟨0, Nat.zero_le _, rfl, rfl⟩
  case round =>
    obtain ⟨k, hk, rfl, HA⟩ := hrel
    by_cases hlt : k < n
    · have HT := hide (hV_take (h := h) (k := k) (by rw [HR.out.1]; exact hlt))
      have HN := hide fun hx => hV_no (h := h) (k := k) (by rw [HR.out.1]; exact hlt) hx
      obtain ⟨ad, rfl, hb, hc⟩ := HR.out.at_ hlt
      generalize h.getD k 0 = x at hc HT HN
      rcases h1 : inB x 0 100 with _ | _
      · have H1 := hide h1
        clear h1
        go_wp2_with (go_at_call 35; refine (in_no _ _ _ _ H1.out).mono ?_; rintro e w' ⟨rfl, rfl⟩)
        go_ret
        exact ⟨ret_bool (HN.out H1.out).symm, rfl⟩
      · have H1 := hide h1
        clear h1
        go_wp2_with (go_at_call 35; refine (in_yes _ _ _ _ H1.out).mono ?_; rintro e w' ⟨rfl, rfl⟩)
        go_round
        case rel => exact ⟨k + 1, by omega, by go_num, by show _ = _; rw [HT.out, HA.out, H1.out]; rfl⟩
        case measure => simp [intOf]; omega
    · obtain rfl : k = n := by omega
      have HD := hide (show h.all (fun x => inB x 0 100) = true by have := HA.out; rwa [List.take_of_length_le (by rw [HR.out.1]; exact Nat.le_refl _)] at this)
      go_wp2
      go_ret
      exact ⟨ret_bool (by unfold hV; rw [HD.out, HR.out.1, Bool.true_and, Bool.eq_iff_iff]; simp; omega), rfl⟩

set_option maxHeartbeats 3200000 in
theorem specUse (A : Option Addr) (c B b : Nat) (h : List Int) (w : World) (hr : Ints w B A 12 h) (hB : B ≤ w.heap.size) (hv : hV h = true) (hb : b < 12) :
    Calls Try.prog 36 #[.slice A 12 c, .int .i64 (b : Nat)] w fun e w' => ∃ A2 c2, e = .returned (.slice A2 12 c2) ∧ Own w' w.heap.size A2 12 c2 (useH h b) ∧ Below w.heap.size w w' := by
  have HI := hide hr
  have hx := hV_at hv hb
  obtain ⟨x, hxe⟩ : ∃ x, h.getD b 0 = x := ⟨_, rfl⟩
  rw [hxe] at hx
  have HX := hide hxe
  have wx : IntKind.i64.wrap (x + 10) = x + 10 := IntWalk.i64_in _ (by omega)
  clear hr hv hxe
  go_enter Try.func36, Try.ntmps36
  go_wp2_with (at_builtin; refine wpList_append_ints rfl _ _ rfl w.heap.size 0 0 B 12 c _ _ [] h rfl (Own.lit0 w _ (Nat.le_refl _)) rfl (HI.out.alloc hB _) (by omega) (by simp) ?_; intro A2 c2 w3 ho3 hg3 hat3; clear hat3; simp only [Nat.zero_add, List.nil_append] at ho3 ⊢; obtain ⟨g, rfl, hgb, hgl⟩ := ho3.shape (by omega); have HB3 := hide (below_app0 (Below.refl _ _) (Nat.le_refl _) hg3); have HO3 := hide ho3; obtain ⟨ad, rfl, hab, hc0⟩ := (HI.out.below HB3.out hB).at_ hb; rw [HX.out] at hc0; have hcell := ho3.cell (g := g) (j := b) hb; have hfree := ho3.free (g := g) (j := b); clear ho3 hg3; generalize h.getD b 0 = y at hcell; by_cases hm : x + 10 ≤ 100)
  · have hst := HO3.out.stored (g := g) (j := b) (x + 10)
    have HS := hide hst.1
    have HG := hide (HB3.out.grown hst.2 HB3.out.size (by intro q hq; injection hq with hq; omega))
    clear hst
    go_wp2
    go_ret
    refine ⟨_, _, rfl, ?_, HG.out⟩
    unfold useH
    rw [HX.out, show min (x + 10) 100 = x + 10 by omega]
    exact HS.out
  · have hst := HO3.out.stored (g := g) (j := b) 100
    have HS := hide hst.1
    have HG := hide (HB3.out.grown hst.2 HB3.out.size (by intro q hq; injection hq with hq; omega))
    clear hst
    go_wp2
    go_ret
    refine ⟨_, _, rfl, ?_, HG.out⟩
    unfold useH
    rw [HX.out, show min (x + 10) 100 = 100 by omega]
    exact HS.out

set_option maxHeartbeats 3200000 in
theorem specHU (A : Option Addr) (n c B : Nat) (h : List Int) (b : Int) (w : World) (hr : Ints w B A n h) (hB : B ≤ w.heap.size) (hn : n ≤ 1000000000000) :
    Calls Try.prog 16 #[.slice A n c, .int .i64 b] w (UsePost w (useV h b) (useS h b)) := by
  have HI := hide hr
  have HV := hide (specHV A n c B h w hr hn)
  clear hr
  rcases hv : hV h with _ | _
  · have E1 := hide (show useV h b = false by unfold useV; rw [hv]; rfl)
    have E2 := hide (show useS h b = [] by unfold useS; rw [E1.out]; rfl)
    rw [hv] at HV
    clear hv
    rw [E1.out, E2.out]
    go_enter Try.func16, Try.ntmps16
    go_wp2_with (go_at_call 22; refine HV.out.mono ?_; rintro e w' ⟨rfl, rfl⟩)
    go_ret2
    exact ⟨_, _, _, rfl, Own.lit0 w _ (Nat.le_refl _), (Below.refl _ w).alloc (Nat.le_refl _) _⟩
  · rcases hb : inB b 0 11 with _ | _
    · have HBI := hide hb
      have E1 := hide (show useV h b = false by unfold useV; rw [hb, Bool.and_false])
      have E2 := hide (show useS h b = [] by unfold useS; rw [E1.out]; rfl)
      rw [hv] at HV
      clear hv hb
      rw [E1.out, E2.out]
      go_enter Try.func16, Try.ntmps16
      go_wp2_with (first
        | (go_at_call 22; refine HV.out.mono ?_; rintro e w' ⟨rfl, rfl⟩)
        | (go_at_call 35; refine (in_no _ _ _ _ HBI.out).mono ?_; rintro e w' ⟨rfl, rfl⟩))
      go_ret2
      exact ⟨_, _, _, rfl, Own.lit0 w _ (Nat.le_refl _), (Below.refl _ w).alloc (Nat.le_refl _) _⟩
    · have HBI := hide hb
      have E1 := hide (show useV h b = true by unfold useV; rw [hv, hb]; rfl)
      have E2 := hide (show useS h b = useH h b.toNat by unfold useS; rw [E1.out]; rfl)
      have hn12 : n = 12 := HI.out.1.symm.trans (hV_len hv)
      subst hn12
      obtain ⟨k, rfl⟩ := Int.eq_ofNat_of_zero_le (inB_iff.1 hb).1
      rw [Int.toNat_natCast] at E2
      have HU := hide (specUse A c B k h w HI.out hB hv (by have := (inB_iff.1 hb).2; omega))
      rw [hv] at HV
      clear hv hb
      rw [E1.out, E2.out]
      go_enter Try.func16, Try.ntmps16
      go_wp2_with (first
        | (go_at_call 22; refine HV.out.mono ?_; rintro e w' ⟨rfl, rfl⟩)
        | (go_at_call 35; refine (in_yes _ _ _ _ HBI.out).mono ?_; rintro e w' ⟨rfl, rfl⟩)
        | (go_at_call 36; refine HU.out.mono ?_; rintro e w' ⟨A2, c2, rfl, ho, hb⟩))
      go_ret2
      exact ⟨_, _, _, rfl, ho, hb⟩

set_option maxHeartbeats 3200000 in
theorem specHD (A : Option Addr) (n c B : Nat) (h : List Int) (w : World) (hr : Ints w B A n h) (hB : B ≤ w.heap.size) (hn : n ≤ 1000000000000) :
    Calls Try.prog 21 #[.slice A n c] w (LPost w (decS h)) := by
  have HI := hide hr
  have HV := hide fun (W : World) (hb : Below w.heap.size w W) => specHV A n c B h W (hr.below hb hB) hn
  clear hr
  rcases hv : hV h with _ | _
  · have E2 := hide (decS_no hv)
    rw [hv] at HV
    clear hv
    go_enter Try.func21, Try.ntmps21
    go_wp2
    have HB0 := hide ((Below.refl w.heap.size w).alloc (Nat.le_refl _) (.cells #[] 3))
    have HO0 := hide (Own.lit0 w w.heap.size (Nat.le_refl _))
    go_loopw [3, 4] (fun o i wr => i = .int .i64 0 ∧ o = .slice (some ⟨w.heap.size, 0, none⟩) 0 0 ∧ w.alloc (.cells #[] 3) = wr) (fun _ _ _ => 0)
    case atStart => exact ⟨rfl, rfl, rfl⟩
    case round =>
      obtain ⟨rfl, rfl, rfl⟩ := hrel
      generalize w.alloc (.cells #[] 3) = w0 at HB0 HO0 ⊢
      by_cases h0 : n = 0
      · subst h0
        go_wp2
        go_ret
        exact ⟨_, _, _, rfl, by rw [E2.out]; exact HO0.out, HB0.out⟩
      · have hp : decide ((0 : Int) < (n : Int)) = true := by simp; omega
        have hp2 : 0 < n := by omega
        go_wp2_with (go_at_call 22; refine (HV.out _ HB0.out).mono ?_; rintro e w' ⟨rfl, rfl⟩)
        go_ret
        exact ⟨_, _, _, rfl, by rw [E2.out]; exact HO0.out, HB0.out⟩
  · have HVV := hide hv
    have E2 := hide (decS_yes hv)
    have hn12 : n = 12 := HI.out.1.symm.trans (hV_len hv)
    subst hn12
    rw [hv] at HV
    clear hv
    go_enter Try.func21, Try.ntmps21
    go_wp2
    go_loopw [3, 4] (fun o i wr => ∃ (k co : Nat) (Ao : Option Addr), k ≤ 12 ∧ i = .int .i64 k ∧ o = .slice Ao k co ∧ Hid (Own wr w.heap.size Ao k co (decH (h.take k))) ∧ Hid (Below w.heap.size w wr)) (fun _ i _ => 12 - (intOf i).toNat)
    case atStart => exact ⟨0, 0, _, by omega, rfl, rfl, Own.lit0 w w.heap.size (Nat.le_refl _), (Below.refl w.heap.size w).alloc (Nat.le_refl _) _⟩
    case round =>
      obtain ⟨k, co, Ao, hk, rfl, rfl, HO, HB⟩ := hrel
      have hsz := HB.out.size
      by_cases hlt : k < 12
      · have hx := hV_at HVV.out hlt
        have HS := hide (decH_snoc (h := h) (k := k) (by rw [HI.out.1]; exact hlt))
        obtain ⟨ad, rfl, hab, hc⟩ := (HI.out.below HB.out hB).at_ hlt
        generalize h.getD k 0 = x at hx hc HS
        have hp : decide ((k : Int) < 12) = true := by simp; omega
        have hk1 : (k : Int) < 12 := by omega
        have hx0 : 0 ≤ x := hx.1
        go_wp2_with (first
          | (go_at_call 22; refine (HV.out _ HB.out).mono ?_; rintro e w' ⟨rfl, rfl⟩)
          | (at_builtin; refine wpList_append_ints rfl _ _ rfl w.heap.size k co _ 1 _ Ao _ (decH (h.take k)) [x / 2] rfl (HO.out.alloc _) rfl (Ints.one _ (x / 2)) (by omega) (by simp; omega) ?_; intro A2 c2 w3 ho3 hg3 hat3; clear hat3; have HO3 := hide ho3; have HB3 := hide (below_app HB.out hsz HO.out (Nat.le_refl _) hg3); clear ho3 hg3))
        go_roundw
        case rel => exact ⟨k + 1, _, _, by omega, by go_num, rfl, by rw [HS.out]; exact HO3.out, HB3.out⟩
        case measure => simp [intOf]; omega
      · obtain rfl : k = 12 := by omega
        have HD := hide (show h.take 12 = h from List.take_of_length_le (by rw [HI.out.1]; exact Nat.le_refl _))
        go_wp2
        go_ret
        exact ⟨_, _, _, rfl, by rw [E2.out]; have := HO.out; rwa [HD.out] at this, HB.out⟩
end Go.Proofs.Ytnkflcibbhoedaa
