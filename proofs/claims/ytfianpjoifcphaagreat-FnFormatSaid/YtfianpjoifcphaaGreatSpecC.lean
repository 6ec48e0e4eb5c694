/-
  The model's l2Colds, l2ColdPut, ColdPut, ColdGet.
-/
import Derived.Test.YtfianpjoifcphaaGreatG1
import Derived.Deep.RegionLaw
namespace Go.Proofs.YtfianpjoifcphaaGreat
open Go.RowKit
set_option linter.unusedVariables false
set_option maxRecDepth 100000

theorem fldC_no1 {xs : List Int} {k : Nat} {y z : Int} (h : fldC xs k = (inB y 1 999 && inB z 0 5)) (h1 : inB y 1 999 = false) : fldC xs k = false := by rw [h, h1]; rfl
theorem fldC_no2 {xs : List Int} {k : Nat} {y z : Int} (h : fldC xs k = (inB y 1 999 && inB z 0 5)) (h1 : inB z 0 5 = false) : fldC xs k = false := by rw [h, h1]; simp
theorem fldC_yes {xs : List Int} {k : Nat} {y z : Int} (h : fldC xs k = (inB y 1 999 && inB z 0 5)) (h1 : inB y 1 999 = true) (h2 : inB z 0 5 = true) : fldC xs k = true := by rw [h, h1, h2]; rfl

set_option maxHeartbeats 1600000 in
theorem l2C_any (A : Option Addr) (n c B : Nat) (xs : List Int) (w : World) (hr : Ints w B A (n * 3) xs) (hB : B ≤ w.heap.size) (hn : n ≤ 1000000000) :
    Calls Tryz.prog 191 #[.slice A n c] w fun e w' => e = .returned (.bool (validC xs n)) ∧ Below w.heap.size w w' := by
  have HR := hide hr
  clear hr
  go_enter Tryz.func191, Tryz.ntmps191
  go_wp2
  go_loopw [3, 4] (fun l i wr => ∃ (k : Nat) (p : Int), k ≤ n ∧ i = .int .i64 k ∧ l = .int .i64 p ∧ -1 ≤ p ∧ p ≤ 11 ∧ Hid (p = prevR 3 xs k) ∧ Hid (vals fldC xs k = true) ∧ Hid (asc 3 xs k = true) ∧ Hid (Below w.heap.size w wr)) (fun _ i _ => n - (intOf i).toNat)
  case atStart => exact ⟨0, -1, Nat.zero_le _, rfl, rfl, by omega, by omega, rfl, rfl, rfl, Below.refl _ _⟩
  case round =>
    obtain ⟨k, p, hk, rfl, rfl, hp0, hp1, HP, HV, HA, HW⟩ := hrel
    by_cases hlt : k < n
    · obtain ⟨ad, q, rfl, hq, hb, hc0, hc1, hc2⟩ := ints_at3 (HR.out.below HW.out hB) hlt
      have HS := hide (stepR_in 3 xs k)
      have HF := hide (fldC_in xs k)
      have HN : Hid (xs.getD (k * 3) 0 = prevR 3 xs (k + 1)) := rfl
      rw [← HP.out] at HS
      obtain ⟨x, hx⟩ : ∃ x, xs.getD (k * 3) 0 = x := ⟨_, rfl⟩
      obtain ⟨y, hy⟩ : ∃ x, xs.getD (k * 3 + 1) 0 = x := ⟨_, rfl⟩
      obtain ⟨z, hz⟩ : ∃ x, xs.getD (k * 3 + 2) 0 = x := ⟨_, rfl⟩
      rw [hx] at hc0 HS HN
      rw [hy] at hc1 HF
      rw [hz] at hc2 HF
      clear hx hy hz
      have hsz := HW.out.size
      have HB2 := hide (HW.out.alloc hsz (.cells #[.int .i64 x, .int .i64 y, .int .i64 z] 228))
      by_cases h1 : inB x (p + 1) 11 = true
      · have H1 := hide h1
        have hx := inB_iff.1 h1
        clear h1
        by_cases h2 : inB y 1 999 = true
        · have H2 := hide h2
          clear h2
          by_cases h3 : inB z 0 5 = true
          · have H3 := hide h3
            clear h3
            go_wp2_with fail
            refine (in_yes _ _ _ _ H1.out).mono ?_
            rintro e w' ⟨rfl, rfl⟩
            go_wp2_with fail
            refine (in_yes _ _ _ _ H2.out).mono ?_
            rintro e w' ⟨rfl, rfl⟩
            go_wp2_with fail
            refine (in_yes _ _ _ _ H3.out).mono ?_
            rintro e w' ⟨rfl, rfl⟩
            go_wp2
            go_roundw
            case rel => exact ⟨k + 1, x, by omega, by go_num, rfl, by omega, by omega, HN.out, vals_succ HV.out (fldC_yes HF.out H2.out H3.out), asc_succ HA.out (HS.out.trans H1.out), HB2.out⟩
            case measure => simp [intOf]; omega
          · have H3 := hide (Bool.eq_false_iff.2 h3)
            clear h3
            go_wp2_with fail
            refine (in_yes _ _ _ _ H1.out).mono ?_
            rintro e w' ⟨rfl, rfl⟩
            go_wp2_with fail
            refine (in_yes _ _ _ _ H2.out).mono ?_
            rintro e w' ⟨rfl, rfl⟩
            go_wp2_with fail
            refine (in_no _ _ _ _ H3.out).mono ?_
            rintro e w' ⟨rfl, rfl⟩
            go_wp2
            go_ret
            exact ⟨ret_bool (validR_fld hlt (fldC_no2 HF.out H3.out)).symm, HB2.out⟩
        · have H2 := hide (Bool.eq_false_iff.2 h2)
          clear h2
          go_wp2_with fail
          refine (in_yes _ _ _ _ H1.out).mono ?_
          rintro e w' ⟨rfl, rfl⟩
          go_wp2_with fail
          refine (in_no _ _ _ _ H2.out).mono ?_
          rintro e w' ⟨rfl, rfl⟩
          go_wp2
          go_ret
          exact ⟨ret_bool (validR_fld hlt (fldC_no1 HF.out H2.out)).symm, HB2.out⟩
      · have H1 := hide (Bool.eq_false_iff.2 h1)
        clear h1
        go_wp2_with fail
        refine (in_no _ _ _ _ H1.out).mono ?_
        rintro e w' ⟨rfl, rfl⟩
        go_wp2
        go_ret
        exact ⟨ret_bool (validR_step hlt (HS.out.trans H1.out)).symm, HB2.out⟩
    · obtain rfl : k = n := by omega
      go_wp2_with fail
      refine (in_any _ _ _ _).mono ?_
      rintro e w' ⟨rfl, rfl⟩
      go_wp2
      go_ret
      exact ⟨ret_bool (validR_eq HV.out HA.out).symm, HW.out⟩

set_option maxHeartbeats 1600000 in
theorem l2putC_any (A : Option Addr) (n c B : Nat) (xs : List Int) (w : World) (hr : Ints w B A (n * 3) xs) (hB : B ≤ w.heap.size) (hn : n ≤ 1000000000) :
    Calls Tryz.prog 192 #[.slice A n c] w fun e w' => ∃ A2 c2, e = .returned (.slice A2 (n * 3) c2) ∧ Own w' w.heap.size A2 (n * 3) c2 xs ∧ Below w.heap.size w w' := by
  have HR := hide hr
  have HB := hide hB
  clear hr
  have HL := hide HR.out.1
  go_enter Tryz.func192, Tryz.ntmps192
  go_wp2
  go_loopw [3, 4] (fun o i wr => ∃ (k d c2 : Nat) (A2 : Option Addr), k ≤ n ∧ d = k * 3 ∧ i = .int .i64 k ∧ o = .slice A2 d c2 ∧ Hid (Own wr w.heap.size A2 d c2 (xs.take d)) ∧ Hid (Below w.heap.size w wr)) (fun _ i _ => n - (intOf i).toNat)
  case atStart => exact ⟨0, 0, 0, _, Nat.zero_le _, rfl, rfl, rfl, Own.lit0 w _ (Nat.le_refl _), below_new w _⟩
  case round =>
    obtain ⟨k, d, c2, A2, hk, hd, rfl, rfl, HO, HBW⟩ := hrel
    by_cases hlt : k < n
    · obtain ⟨ad, q, rfl, hq, hb, hc0, hc1, hc2⟩ := ints_at3 (HR.out.below HBW.out HB.out) hlt
      have HX := hide (take_rec3 xs k (by have := HL.out; omega))
      rw [← hd] at HX
      obtain ⟨x0, hx0⟩ : ∃ x, xs.getD (k * 3) 0 = x := ⟨_, rfl⟩
      obtain ⟨x1, hx1⟩ : ∃ x, xs.getD (k * 3 + 1) 0 = x := ⟨_, rfl⟩
      obtain ⟨x2, hx2⟩ : ∃ x, xs.getD (k * 3 + 2) 0 = x := ⟨_, rfl⟩
      rw [hd, hx0, hx1, hx2, ← hd] at HX
      rw [hx0] at hc0
      rw [hx1] at hc1
      rw [hx2] at hc2
      clear hx0 hx1 hx2
      have hs := HBW.out.size
      have HD := hide hd
      have hd2 : d ≤ 3000000000 := by omega
      clear hd
      have HOA := hide (HO.out.alloc (.cells #[.int .i64 x0, .int .i64 x1, .int .i64 x2] 3))
      have HIA := hide (Ints.rec3 wr 3 x0 x1 x2)
      have hnm : d + 3 ≤ 17592186044416 := by omega
      have hbs : w.heap.size ≤ (wr.alloc (.cells #[.int .i64 x0, .int .i64 x1, .int .i64 x2] 3)).heap.size := by simp; omega
      have k0 : (0 : Int) ≤ (k : Int) := by omega
      have k1 : (k : Int) < (n : Int) := by omega
      go_wp2_with fail
      go_region_law ((refine step_append_ints ?_ (.tmp 12) (.tmp 28) ?_ w.heap.size d c2 (wr.heap.size + 1) 3 3 A2 (some ⟨wr.heap.size, 0, none⟩) (xs.take d) [x0, x1, x2] ?_ ?_ ?_ ?_ ?_ ?_ ?_; rfl; rfl; rfl; exact HOA.out; rfl; exact HIA.out; exact hnm; exact hbs; intro A3 c3 w3 ho3 hg3' hat3; have hg3 := grown_undrawn hg3'; clear hat3 hg3'))
      all_goals
        have hB3 := below_app HBW.out hs HO.out (Nat.le_refl _) hg3
        rw [HX.out] at ho3
        rw [show d + 3 = (k + 1) * 3 by have := HD.out; omega] at ho3
        have HOK := hide ho3
        clear ho3 hg3
        go_wp2
        go_roundw
        case rel => exact ⟨k + 1, d + 3, c3, A3, by omega, by have := HD.out; omega, by go_num, rfl, by rw [show d + 3 = (k + 1) * 3 by have := HD.out; omega]; exact HOK.out, hB3⟩
        case measure => simp [intOf]; omega
    · obtain rfl : k = n := by omega
      subst hd
      go_wp2
      go_ret
      have ho := HO.out
      rw [List.take_of_length_le (by rw [HL.out]; exact Nat.le_refl _)] at ho
      exact ⟨_, _, rfl, ho, HBW.out⟩

set_option maxHeartbeats 800000 in
theorem specPutC (A : Option Addr) (n c B : Nat) (xs : List Int) (w : World) (hr : Ints w B A (n * 3) xs) (hB : B ≤ w.heap.size) (hn : n ≤ 1000000000) :
    Calls Tryz.prog 150 #[.slice A n c] w (PutPost w (validC xs n) xs) := by
  have HR := hide hr
  have HV := hide (l2C_any A n c B xs w hr hB hn)
  clear hr
  generalize validC xs n = v at HV ⊢
  go_enter Tryz.func150, Tryz.ntmps150
  go_wp2_with fail
  refine HV.out.mono ?_
  rintro e w1 ⟨rfl, hb1⟩
  have HB1 := hide hb1
  have HI1 := hide (HR.out.below hb1 hB)
  have hs1 := hb1.size
  clear hb1 HV
  rcases v with _ | _
  · go_wp2
    go_ret2
    exact ⟨_, _, _, rfl, Own.lit0 w1 _ hs1, HB1.out.alloc hs1 _⟩
  · go_wp2_with fail
    refine (l2putC_any A n c B xs _ HI1.out (by omega) hn).mono ?_
    rintro e w2 ⟨A2, c2, rfl, ho2, hb2⟩
    go_wp2
    go_ret2
    exact ⟨_, _, _, rfl, ho2.mono hs1, HB1.out.trans (hb2.mono hs1)⟩

set_option maxHeartbeats 3200000 in
theorem specGetC (A : Option Addr) (n c B : Nat) (xs : List Int) (w : World) (hr : Ints w B A n xs) (hB : B ≤ w.heap.size) (hn : n ≤ 1000000000) :
    Calls Tryz.prog 243 #[.slice A n c] w (GetPost w 228 3 (okG 3 6 fldC xs n) xs) := by
  have HR := hide hr
  have HB := hide hB
  clear hr
  have HL := hide HR.out.1
  obtain ⟨v, hv⟩ : ∃ v, okG 3 6 fldC xs n = v := ⟨_, rfl⟩
  rw [hv]
  have HV : Hid ((n % 3 = 0 ∧ validC xs (n / 3) = v) ∨ (n % 3 ≠ 0 ∧ v = false)) := by
    unfold okG at hv
    by_cases hm : n % 3 = 0
    · left; rw [decide_eq_true hm, Bool.true_and] at hv; exact ⟨hm, hv⟩
    · right; rw [decide_eq_false hm, Bool.false_and] at hv; exact ⟨hm, hv.symm⟩
  clear hv
  go_enter Tryz.func243, Tryz.ntmps243
  go_wp2_with fail
  go_loopw [4, 5] (fun o i wr => ∃ (k d c2 : Nat) (A2 : Option Addr), d ≤ n ∧ d = k * 3 ∧ i = .int .i64 d ∧ o = .slice A2 k c2 ∧ Hid (OwnR wr w.heap.size 228 3 A2 k c2 (xs.take d)) ∧ Hid (Below w.heap.size w wr)) (fun _ i _ => n - (intOf i).toNat)
  case atStart => exact ⟨0, 0, 0, _, Nat.zero_le _, by simp, rfl, rfl, OwnR.lit0 w _ (Nat.le_refl _) _ _, below_new w _⟩
  case round =>
    obtain ⟨k, d, c2, A2, hk, hd, rfl, rfl, HO, HBW⟩ := hrel
    by_cases hlt : d + 2 < n
    · obtain ⟨ad, rfl, hb, hc⟩ := (HR.out.below HBW.out HB.out).2 (by omega)
      have HX := hide (take_rec3 xs k (by have := HL.out; omega))
      obtain ⟨b1, hb1⟩ : ∃ b, d + 1 = b := ⟨_, rfl⟩
      obtain ⟨b2, hb2⟩ : ∃ b, d + 2 = b := ⟨_, rfl⟩
      rw [← hd] at HX
      have hc0 := hc d (by omega)
      obtain ⟨x0, hx0⟩ : ∃ x, xs.getD d 0 = x := ⟨_, rfl⟩
      rw [hx0] at hc0
      have hc1 := hc b1 (by omega)
      obtain ⟨x1, hx1⟩ : ∃ x, xs.getD b1 0 = x := ⟨_, rfl⟩
      rw [hx1] at hc1
      have hc2 := hc b2 (by omega)
      obtain ⟨x2, hx2⟩ : ∃ x, xs.getD b2 0 = x := ⟨_, rfl⟩
      rw [hx2] at hc2
      rw [hb1, hb2, hx0, hx1, hx2] at HX
      clear hx0 hx1 hx2
      clear hc
      have hs := HBW.out.size
      have HD := hide hd
      have hk2 : k ≤ 1000000000 := by omega
      clear hd
      have HOA := hide (HO.out.alloc (.cells #[.int .i64 x0, .int .i64 x1, .int .i64 x2] 228))
      have HIA := hide (Ints.rec3 wr 228 x0 x1 x2)
      have hnm : k + 1 ≤ 1000000000000 := by omega
      have hbs : w.heap.size ≤ (wr.alloc (.cells #[.int .i64 x0, .int .i64 x1, .int .i64 x2] 228)).heap.size := by simp; omega
      have k0 : (0 : Int) ≤ (d : Int) := by omega
      have k1 : (d : Int) < (n : Int) := by omega
      have e1 : (d : Int) + 1 = (b1 : Int) := by omega
      have f1 : (0 : Int) ≤ (b1 : Int) := by omega
      have g1 : (b1 : Int) < (n : Int) := by omega
      have e2 : (d : Int) + 2 = (b2 : Int) := by omega
      have f2 : (0 : Int) ≤ (b2 : Int) := by omega
      have g2 : (b2 : Int) < (n : Int) := by omega
      have y1 : IntKind.i64.wrap (b1 : Int) = (b1 : Int) := IntWalk.i64_in _ (by omega)
      have y2 : IntKind.i64.wrap (b2 : Int) = (b2 : Int) := IntWalk.i64_in _ (by omega)
      go_wp2_with fail
      go_region_law ((refine step_append_recs coldT ?_ (.tmp 14) (.tmp 30) ?_ w.heap.size k c2 (wr.heap.size + 1) 1 1 A2 (some ⟨wr.heap.size, 0, none⟩) (xs.take d) [x0, x1, x2] ?_ ?_ ?_ ?_ ?_ ?_ ?_; rfl; rfl; rfl; exact HOA.out; rfl; exact HIA.out; exact hnm; exact hbs; intro A3 c3 w3 ho3 hg3' hat3; have hg3 := grown_undrawn hg3'; clear hat3 hg3'))
      all_goals
        have hB3 := below_app_r HBW.out hs HO.out (Nat.le_refl _) hg3
        rw [HX.out] at ho3
        rw [show (k + 1) * 3 = d + 3 by have := HD.out; omega] at ho3
        have HOK := hide ho3
        clear ho3 hg3
        go_wp2
        go_roundw
        case rel => exact ⟨k + 1, d + 3, c3, A3, by omega, by have := HD.out; omega, by go_num, rfl, HOK.out, hB3⟩
        case measure => simp [intOf]; omega
    · have hkn : k = n / 3 := by omega
      have HK := hide hkn
      have HD := hide hd
      rcases HV.out with ⟨hm, hv⟩ | ⟨hm, rfl⟩
      · have hdn : d = n := by omega
        have z0 : ((n : Int) % 3 != 0) = false := by simp; omega
        have ho := HO.out
        rw [List.take_of_length_le (by rw [HL.out]; omega)] at ho
        have hk9 : k ≤ 1000000000 := by omega
        rw [← hkn] at hv
        have HVK := hide (l2C_any A2 k c2 wr.heap.size xs wr ho.ints (Nat.le_refl _) hk9)
        rw [hv] at HVK
        have HOF := hide ho
        have hs := HBW.out.size
        clear ho hv hkn hd hm hdn
        go_wp2_with fail
        refine HVK.out.mono ?_
        rintro e w1 ⟨rfl, hb1⟩
        have hs1 := hb1.size
        have HB1 := hide (HBW.out.trans (hb1.mono hs))
        have HO1 := hide (HOF.out.below hb1)
        clear hb1 HVK
        rcases v with _ | _
        · go_wp2
          go_ret2
          exact ⟨_, _, _, rfl, OwnR.lit0 w1 _ (by omega) _ _, HB1.out.alloc (by omega) _⟩
        · go_wp2
          go_ret2
          exact ⟨_, _, _, rfl, HO1.out, HB1.out⟩
      · have z0 : ((n : Int) % 3 != 0) = true := by simp; omega
        have hs := HBW.out.size
        clear hkn hd hm
        go_wp2
        go_ret2
        exact ⟨_, _, _, rfl, OwnR.lit0 wr _ hs _ _, HBW.out.alloc hs _⟩

end Go.Proofs.YtfianpjoifcphaaGreat