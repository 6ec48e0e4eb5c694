/-
  The model's BucketWait.
-/
import Derived.Test.YtcekikblgbdcoaaSpecB2
namespace Go.Proofs.Ytcekikblgbdcoaa
open Go.RowKit
set_option linter.unusedVariables false
set_option maxRecDepth 100000

/-- on the way: the bucket is still there, and there was not enough at any time before -/
structure WtS (w W : World) (l m r t many T : Int) : Prop where
  kp : Kp w W [(w.heap.size, 24, #[.int .i64 l, .int .i64 m, .int .i64 r, .int .i64 t])]
  inv : okK ⟨l, m, r, t⟩ → mayT many → t ≤ T ∧ T ≤ 1000 ∧ ∀ T', t ≤ T' → T' < T → lvl ⟨l, m, r, t⟩ (T' - t) < many

set_option maxHeartbeats 3200000 in
theorem specBW (l m r t many : Int) (w : World) :
    Calls Try.prog 24 #[.agg #[.int .i64 l, .int .i64 m, .int .i64 r, .int .i64 t], .int .i64 many] w fun e w' => ∃ W, e = .returned (.int .i64 W) ∧ waitB ⟨l, m, r, t⟩ many W ∧ Below w.heap.size w w' := by
  have HK0 := hide ((Kp.refl w).push 24 #[.int .i64 l, .int .i64 m, .int .i64 r, .int .i64 t])
  have HO := hide (bkV_iff ⟨l, m, r, t⟩)
  have HV := hide fun (W : World) => specBV l m r t W
  have HA := hide fun (T : Int) (W : World) => specBA l m r t T W
  go_enter Try.func24, Try.ntmps24
  go_wp2_with fail
  go_loopw [5] (fun i wr => ∃ T : Int, i = .int .i64 T ∧ Hid (WtS w wr l m r t many T)) (fun i _ => (1000 - intOf i).toNat)
  case atStart => exact ⟨t, rfl, ⟨HK0.out, fun h _ => ⟨Int.le_refl _, by have := h.2.2.2.2.2.2.2; simp only at this; omega, fun T' h1 h2 => by omega⟩⟩⟩
  case round =>
    clear HK0
    obtain ⟨T, rfl, HW⟩ := hrel
    obtain ⟨⟨q0, q1, q2, q3⟩, f0, f1, f2, f3⟩ := HW.out.kp.cells4
    go_wp2_with fail
    refine (HV.out _).mono ?_
    rintro e w1 ⟨rfl, hb1⟩
    have HK1 := hide (HW.out.kp.step hb1)
    have HI := hide HW.out.inv
    clear q0 q1 q2 q3 f0 f1 f2 f3 hb1 HW
    rcases hv : bkV ⟨l, m, r, t⟩ with _ | _
    · have HN := hide (show waitB ⟨l, m, r, t⟩ many (-1) from .inl ⟨(fun h => by have := HO.out.2 h.1; rw [hv] at this; cases this), rfl⟩)
      clear hv HV HA HO
      go_wp2
      go_ret
      exact ⟨_, rfl, HN.out, HK1.out.below⟩
    · have HOK := hide (HO.out.1 hv)
      clear hv HV HO
      rcases hm : inB many 0 100 with _ | _
      · have HN := hide (show waitB ⟨l, m, r, t⟩ many (-1) from .inl ⟨(fun h => by have := inB_iff.2 h.2; rw [hm] at this; cases this), rfl⟩)
        have HM := hide hm
        clear hm HA
        go_wp2_with fail
        refine (in_no _ _ _ _ HM.out).mono ?_
        rintro e w' ⟨rfl, rfl⟩
        go_wp2
        go_ret
        exact ⟨_, rfl, HN.out, HK1.out.below⟩
      · have HM := hide hm
        have HMT := hide (show mayT many from inB_iff.1 hm)
        clear hm
        obtain ⟨hT0, hT1, hT2⟩ := HI.out HOK.out HMT.out
        have HT2 := hide hT2
        clear hT2 HI
        by_cases h9 : T ≤ 999
        · have h9d : decide (T ≤ 999) = true := by simpa using h9
          have HAT := hide (HA.out T)
          rw [show atB ⟨l, m, r, t⟩ T = (⟨lvl ⟨l, m, r, t⟩ (T - t), m, r, T⟩, true) from if_pos ⟨HOK.out, hT0, h9⟩] at HAT
          have h0t : 0 ≤ t := HOK.out.2.2.2.2.2.2.1
          obtain ⟨K, hK⟩ : ∃ K, lvl ⟨l, m, r, t⟩ (T - t) = K := ⟨_, rfl⟩
          rw [hK] at HAT
          simp only at HAT
          have HKK := hide hK
          clear hK HA
          go_wp2_with fail
          refine (in_yes _ _ _ _ HM.out).mono ?_
          rintro e w' ⟨rfl, rfl⟩
          obtain ⟨⟨q0, q1, q2, q3⟩, f0, f1, f2, f3⟩ := HK1.out.cells4
          go_wp2_with fail
          refine (HAT.out _).mono ?_
          rintro e w2 ⟨rfl, hb2⟩
          obtain ⟨g, hg⟩ : ∃ g, w2.heap.size = g := ⟨_, rfl⟩
          have HK2 := hide ((HK1.out.step hb2).pushN g hg 24 #[.int .i64 K, .int .i64 m, .int .i64 r, .int .i64 T])
          clear q0 q1 q2 q3 f0 f1 f2 f3 hb2 HK1 HAT
          obtain ⟨⟨q0, q1, q2, q3⟩, f0, f1, f2, f3⟩ := HK2.out.cells4
          by_cases hle : many ≤ K
          · have hd : decide (many ≤ K) = true := by simpa using hle
            have HY := hide (show waitB ⟨l, m, r, t⟩ many T from .inr ⟨HOK.out, HMT.out, .inr ⟨hT0, h9, by simp only; rw [HKK.out]; exact hle, HT2.out⟩⟩)
            go_wp2
            go_ret
            exact ⟨_, rfl, HY.out, HK2.out.below⟩
          · have hd : decide (many ≤ K) = false := by simpa using hle
            have HW2 := hide (show WtS w (w2.alloc (.cells #[.int .i64 K, .int .i64 m, .int .i64 r, .int .i64 T] 24)) l m r t many (T + 1) from ⟨HK2.out.tl, fun _ _ => ⟨by omega, by omega, fun T' h1 h2 => by
              rcases Int.lt_or_le T' T with h3 | h3
              · exact HT2.out T' h1 h3
              · have e : T' = T := by omega
                rw [e, HKK.out]; omega⟩⟩)
            have wT : IntKind.i64.wrap (T + 1) = T + 1 := IntWalk.i64_in _ (by omega)
            go_wp2
            go_roundw
            case rel => exact ⟨T + 1, rfl, HW2.out⟩
            case measure => simp [intOf]; omega
        · have h9d : decide (T ≤ 999) = false := by simpa using h9
          have HN := hide (show waitB ⟨l, m, r, t⟩ many (-1) from .inr ⟨HOK.out, HMT.out, .inl ⟨rfl, fun T' h1 h2 => HT2.out T' h1 (by omega)⟩⟩)
          clear HA
          go_wp2_with fail
          refine (in_yes _ _ _ _ HM.out).mono ?_
          rintro e w' ⟨rfl, rfl⟩
          go_wp2
          go_ret
          exact ⟨_, rfl, HN.out, HK1.out.below⟩
end Go.Proofs.Ytcekikblgbdcoaa
