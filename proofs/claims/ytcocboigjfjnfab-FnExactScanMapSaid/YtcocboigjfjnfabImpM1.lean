/-
  The program's zoneHas, whereValid, MapValid.
-/
import Derived.Test.YtcocboigjfjnfabSpecM2
namespace Go.Proofs.Ytcocboigjfjnfab
open Go.RowKit
set_option linter.unusedVariables false
set_option maxRecDepth 100000

set_option maxHeartbeats 800000 in
theorem zoneHas_any (z a s : Int) (w : World) (hs : 0 ≤ s ∧ s ≤ 1000) :
    Calls Try.prog 29 #[.int .i64 z, .int .i64 a, .int .i64 s] w fun e w' => e = .returned (.bool (inB z 0 3 && inB a 0 (64 - s))) ∧ w = w' := by
  obtain ⟨s0, s1⟩ := hs
  have w1 : IntKind.i64.wrap (64 - s) = 64 - s := IntWalk.i64_in _ (by omega)
  by_cases z0 : z < 0
  · have H := hide (show (inB z 0 3 && inB a 0 (64 - s)) = false by rw [show inB z 0 3 = false by simp [inB]; omega]; rfl)
    go_enter Try.func29, Try.ntmps29
    go_wp2
    go_ret
    exact ⟨ret_bool H.out.symm, rfl⟩
  by_cases z1 : 4 ≤ z
  · have H := hide (show (inB z 0 3 && inB a 0 (64 - s)) = false by rw [show inB z 0 3 = false by simp [inB]; omega]; rfl)
    have z1' : decide (z ≥ 4) = true := by simpa using z1
    go_enter Try.func29, Try.ntmps29
    go_wp2
    go_ret
    exact ⟨ret_bool H.out.symm, rfl⟩
  have z1' : decide (z ≥ 4) = false := by simpa using z1
  by_cases a0 : 0 ≤ a
  · have H := hide (show (inB z 0 3 && inB a 0 (64 - s)) = decide (a ≤ 64 - s) by rw [show inB z 0 3 = true by simp [inB]; omega]; unfold inB; rw [decide_eq_true a0]; rfl)
    go_enter Try.func29, Try.ntmps29
    go_wp2
    all_goals
      go_ret
      exact ⟨ret_bool (by rw [H.out] <;> first | rfl | simp_all), rfl⟩
  · have a0' : decide (a ≥ 0) = false := by simpa using a0
    have H := hide (show (inB z 0 3 && inB a 0 (64 - s)) = false by rw [show inB a 0 (64 - s) = false by simp [inB]; omega]; simp)
    go_enter Try.func29, Try.ntmps29
    go_wp2
    go_ret
    exact ⟨ret_bool H.out.symm, rfl⟩
theorem zoneHas_1 (z a : Int) (w : World) (v : Bool) (h : (inB z 0 3 && inB a 0 63) = v) :
    Calls Try.prog 29 #[.int .i64 z, .int .i64 a, .int .i64 1] w fun e w' => e = .returned (.bool v) ∧ w = w' := h ▸ zoneHas_any z a 1 w (by omega)

set_option maxHeartbeats 3200000 in
theorem wValid_any (t z a i x : Int) (w : World) :
    Calls Try.prog 34 #[.agg #[.int .i64 t, .int .i64 z, .int .i64 a, .int .i64 i, .int .i64 x]] w fun e w' => e = .returned (.bool (whV (t, z, a, i, x))) ∧ Below w.heap.size w w' := by
  by_cases t0 : t = 0
  · subst t0
    have HV := hide (show whV (0, z, a, i, x) = decide ((0, z, a, i, x) = wh0) from rfl)
    go_enter Try.func34, Try.ntmps34
    go_wp2
    all_goals
      go_ret
      exact ⟨ret_bool (by rw [HV.out]; simp_all [wh0]), below_new w _⟩
  by_cases t1 : t = 1
  · subst t1
    have HV := hide (show whV (1, z, a, i, x) = ((inB z 0 3 && inB a 0 63) && (decide (i = 0) && decide (x = 0))) by rw [Bool.and_assoc]; rfl)
    clear t0
    rcases h1 : (inB z 0 3 && inB a 0 63) with _ | _
    · have H1 := hide h1
      clear h1
      go_enter Try.func34, Try.ntmps34
      go_wp2_with fail
      refine (zoneHas_1 _ _ _ _ H1.out).mono ?_
      rintro e w' ⟨rfl, rfl⟩
      go_wp2
      go_ret
      exact ⟨ret_bool (by rw [HV.out, H1.out]; rfl), below_new w _⟩
    · have H1 := hide h1
      clear h1
      go_enter Try.func34, Try.ntmps34
      go_wp2_with fail
      refine (zoneHas_1 _ _ _ _ H1.out).mono ?_
      rintro e w' ⟨rfl, rfl⟩
      go_wp2
      all_goals
        go_ret
        exact ⟨ret_bool (by rw [HV.out, H1.out]; by_cases hi : i = 0 <;> by_cases hx : x = 0 <;> simp_all), below_new w _⟩
  by_cases t2 : t = 2
  · subst t2
    have HV := hide (show whV (2, z, a, i, x) = ((inB z 0 3 && inB a 0 63) && (inB i 1 999 && inB x 0 5)) by rw [Bool.and_assoc]; rfl)
    clear t0 t1
    rcases h1 : (inB z 0 3 && inB a 0 63) with _ | _
    · have H1 := hide h1
      clear h1
      go_enter Try.func34, Try.ntmps34
      go_wp2_with fail
      refine (zoneHas_1 _ _ _ _ H1.out).mono ?_
      rintro e w' ⟨rfl, rfl⟩
      go_wp2
      go_ret
      exact ⟨ret_bool (by rw [HV.out, H1.out]; rfl), below_new w _⟩
    have H1 := hide h1
    clear h1
    by_cases i0 : 1 ≤ i
    · have i0' : decide (i ≥ 1) = true := by simpa using i0
      by_cases i1 : i ≤ 999
      · have HI := hide (show (inB i 1 999 && inB x 0 5) = inB x 0 5 by rw [show inB i 1 999 = true by simp [inB]; omega]; rfl)
        by_cases x0 : 0 ≤ x
        · have x0' : decide (x ≥ 0) = true := by simpa using x0
          have HX := hide (show inB x 0 5 = decide (x < 6) by unfold inB; rw [decide_eq_true x0, Bool.true_and, decide_eq_decide]; omega)
          go_enter Try.func34, Try.ntmps34
          go_wp2_with fail
          refine (zoneHas_1 _ _ _ _ H1.out).mono ?_
          rintro e w' ⟨rfl, rfl⟩
          go_wp2
          go_ret
          exact ⟨ret_bool (by rw [HV.out, H1.out, HI.out, HX.out]; first | rfl | simp), below_new w _⟩
        · have x0' : decide (x ≥ 0) = false := by simpa using x0
          have HX := hide (show inB x 0 5 = false by simp [inB]; omega)
          go_enter Try.func34, Try.ntmps34
          go_wp2_with fail
          refine (zoneHas_1 _ _ _ _ H1.out).mono ?_
          rintro e w' ⟨rfl, rfl⟩
          go_wp2
          go_ret
          exact ⟨ret_bool (by rw [HV.out, H1.out, HI.out, HX.out]; first | rfl | simp), below_new w _⟩
      · have i1' : decide (i ≤ 999) = false := by simpa using i1
        have HI := hide (show (inB i 1 999 && inB x 0 5) = false by rw [show inB i 1 999 = false by simp [inB]; omega]; rfl)
        go_enter Try.func34, Try.ntmps34
        go_wp2_with fail
        refine (zoneHas_1 _ _ _ _ H1.out).mono ?_
        rintro e w' ⟨rfl, rfl⟩
        go_wp2
        go_ret
        exact ⟨ret_bool (by rw [HV.out, H1.out, HI.out]; first | rfl | simp), below_new w _⟩
    · have i0' : decide (i ≥ 1) = false := by simpa using i0
      have HI := hide (show (inB i 1 999 && inB x 0 5) = false by rw [show inB i 1 999 = false by simp [inB]; omega]; rfl)
      go_enter Try.func34, Try.ntmps34
      go_wp2_with fail
      refine (zoneHas_1 _ _ _ _ H1.out).mono ?_
      rintro e w' ⟨rfl, rfl⟩
      go_wp2
      go_ret
      exact ⟨ret_bool (by rw [HV.out, H1.out, HI.out]; first | rfl | simp), below_new w _⟩
  · have HV := hide (show whV (t, z, a, i, x) = false by unfold whV; rw [if_neg t0, if_neg t1, if_neg t2])
    have g0 : (t == 0) = false := by simpa using t0
    have g1 : (t == 1) = false := by simpa using t1
    have g2 : (t == 2) = false := by simpa using t2
    go_enter Try.func34, Try.ntmps34
    go_wp2
    go_ret
    exact ⟨ret_bool HV.out.symm, below_new w _⟩

set_option maxHeartbeats 3200000 in
theorem implMV (A : Option Addr) (n c B : Nat) (ms : List Wh) (w : World) (hr : MpI w B A n ms) (hB : B ≤ w.heap.size) (hn : n ≤ 1000000000) :
    Calls Try.prog 13 #[.slice A n c] w fun e w' => e = .returned (.bool (mpV ms)) ∧ Below w.heap.size w w' := by
  have HR := hide hr
  have HL := hide hr.1
  clear hr
  by_cases hn12 : n = 12
  · subst hn12
    go_enter Try.func13, Try.ntmps13
    go_wp2
    go_loopw [10] (fun i wr => ∃ (k : Nat), k ≤ 12 ∧ i = .int .i64 k ∧ Hid (ms.all whV = (ms.drop k).all whV) ∧ Hid (Below w.heap.size w wr)) (fun i _ => 12 - (intOf i).toNat)
    case atStart => exact ⟨0, Nat.zero_le _, rfl, rfl, Below.refl _ _⟩
    case round =>
      obtain ⟨k, hk, rfl, HA, HB⟩ := hrel
      by_cases hlt : k < 12
      · obtain ⟨x, hx⟩ : ∃ x, ms[k]? = some x := ⟨_, List.getElem?_eq_getElem (by rw [HL.out]; exact hlt)⟩
        obtain ⟨ad, p, rfl, hp, hb, h0, h1, h2, h3, h4⟩ := (HR.out.below HB.out hB).at_ hx
        have HX := hide (HA.out.trans (allV_drop hx))
        clear HA hx
        obtain ⟨t, z, a, i, y⟩ := x
        dsimp only at h0 h1 h2 h3 h4
        have hsz := HB.out.size
        have k0 : (0 : Int) ≤ (k : Int) := by omega
        have k1 : (k : Int) < 12 := by omega
        have HBA := hide (HB.out.alloc hsz (.cells #[.int .i64 t, .int .i64 z, .int .i64 a, .int .i64 i, .int .i64 y] 55))
        rcases hv : whV (t, z, a, i, y) with _ | _
        · have HC := hide (fun W => hv ▸ wValid_any t z a i y W)
          rw [hv] at HX
          clear hv
          go_wp2_with fail
          refine (HC.out _).mono ?_
          rintro e w1 ⟨rfl, hb1⟩
          have HB1 := hide (HBA.out.trans (hb1.mono HBA.out.size))
          clear hb1
          go_wp2
          go_ret
          exact ⟨ret_bool (by unfold mpV; rw [HX.out]; rfl), HB1.out⟩
        · have HC := hide (fun W => hv ▸ wValid_any t z a i y W)
          rw [hv, Bool.true_and] at HX
          clear hv
          go_wp2_with fail
          refine (HC.out _).mono ?_
          rintro e w1 ⟨rfl, hb1⟩
          have HB1 := hide (HBA.out.trans (hb1.mono HBA.out.size))
          clear hb1
          go_wp2
          go_roundw
          case rel => exact ⟨k + 1, by omega, by go_num, HX.out, HB1.out⟩
          case measure => simp [intOf]; omega
      · obtain rfl : k = 12 := by omega
        have HD : Hid (mpV ms = true) := by
          show _ = _
          unfold mpV
          rw [HA.out, List.drop_of_length_le (by rw [HL.out]; exact Nat.le_refl _), List.all_nil, Bool.true_and, HL.out]
          rfl
        go_wp2
        go_ret
        exact ⟨ret_bool HD.out.symm, HB.out⟩
  · have HD := hide (show mpV ms = false by unfold mpV; rw [HL.out, decide_eq_false hn12, Bool.and_false])
    have hne : ((n : Int) != 12) = true := by simp; omega
    go_enter Try.func13, Try.ntmps13
    go_wp2
    go_ret
    exact ⟨ret_bool HD.out.symm, Below.refl _ _⟩
end Go.Proofs.Ytcocboigjfjnfab
