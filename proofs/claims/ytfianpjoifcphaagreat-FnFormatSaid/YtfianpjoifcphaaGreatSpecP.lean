/-
  The model's l2Pairs, l2PairsPut, PairsPut, PairsGet.
-/
import Derived.Test.YtfianpjoifcphaaGreatG1
import Derived.Deep.RegionLaw
namespace Go.Proofs.YtfianpjoifcphaaGreat
open Go.RowKit
set_option linter.unusedVariables false
set_option maxRecDepth 100000

set_option maxHeartbeats 1600000 in
theorem l2P_any (A : Option Addr) (n c B : Nat) (xs : List Int) (w : World) (hr : Ints w B A (n * 2) xs) (hB : B ≤ w.heap.size) (hn : n ≤ 1000000000) :
    Calls Tryz.prog 188 #[.slice A n c] w fun e w' => e = .returned (.bool (validP xs n)) ∧ Below w.heap.size w w' := by
  have HR := hide hr
  clear hr
  go_enter Tryz.func188, Tryz.ntmps188
  go_wp2
  go_loop [3, 4] (fun l i => ∃ (k : Nat) (p : Int), k ≤ n ∧ i = .int .i64 k ∧ l = .int .i64 p ∧ -1 ≤ p ∧ p ≤ 11 ∧ Hid (p = prevR 2 xs k) ∧ Hid (vals fldP xs k = true) ∧ Hid (asc 2 xs k = true)) (fun _ i => n - (intOf i).toNat)
  case atStart => exact ⟨0, -1, Nat.zero_le _, rfl, rfl, by omega, by omega, rfl, rfl, rfl⟩
  case round =>
    obtain ⟨k, p, hk, rfl, rfl, hp0, hp1, HP, HV, HA⟩ := hrel
    by_cases hlt : k < n
    · obtain ⟨ad, q, rfl, hq, hb, hc0, hc1⟩ := ints_at2 HR.out hlt
      have HS := hide (stepR_in 2 xs k)
      have HF := hide (fldP_in xs k)
      have HN : Hid (xs.getD (k * 2) 0 = prevR 2 xs (k + 1)) := rfl
      rw [← HP.out] at HS
      obtain ⟨x, hx⟩ : ∃ x, xs.getD (k * 2) 0 = x := ⟨_, rfl⟩
      obtain ⟨y, hy⟩ : ∃ x, xs.getD (k * 2 + 1) 0 = x := ⟨_, rfl⟩
      rw [hx] at hc0 HS HN
      rw [hy] at hc1 HF
      clear hx hy
      by_cases h1 : inB x (p + 1) 11 = true
      · have H1 := hide h1
        have hx := inB_iff.1 h1
        clear h1
        by_cases h2 : inB y 0 99 = true
        · have H2 := hide h2
          clear h2
          go_wp2_with fail
          refine (in_yes _ _ _ _ H1.out).mono ?_
          rintro e w' ⟨rfl, rfl⟩
          go_wp2_with fail
          refine (in_yes _ _ _ _ H2.out).mono ?_
          rintro e w' ⟨rfl, rfl⟩
          go_wp2
          go_round
          case rel => exact ⟨k + 1, x, by omega, by go_num, rfl, by omega, by omega, HN.out, vals_succ HV.out (HF.out.trans H2.out), asc_succ HA.out (HS.out.trans H1.out)⟩
          case measure => simp [intOf]; omega
        · have H2 := hide (Bool.eq_false_iff.2 h2)
          clear h2
          go_wp2_with fail
          refine (in_yes _ _ _ _ H1.out).mono ?_
          rintro e w' ⟨rfl, rfl⟩
          go_wp2_with fail
          refine (in_no _ _ _ _ H2.out).mono ?_
          rintro e w' ⟨rfl, rfl⟩
          go_wp2
          go_ret
          exact ⟨ret_bool (validR_fld hlt (HF.out.trans H2.out)).symm, Below.refl _ _⟩
      · have H1 := hide (Bool.eq_false_iff.2 h1)
        clear h1
        go_wp2_with fail
        refine (in_no _ _ _ _ H1.out).mono ?_
        rintro e w' ⟨rfl, rfl⟩
        go_wp2
        go_ret
        exact ⟨ret_bool (validR_step hlt (HS.out.trans H1.out)).symm, Below.refl _ _⟩
    · obtain rfl : k = n := by omega
      go_wp2_with fail
      refine (in_any _ _ _ _).mono ?_
      rintro e w' ⟨rfl, rfl⟩
      go_wp2
      go_ret
      exact ⟨ret_bool (validR_eq HV.out HA.out).symm, Below.refl _ _⟩

set_option maxHeartbeats 1600000 in
theorem l2putP_any (A : Option Addr) (n c B : Nat) (xs : List Int) (w : World) (hr : Ints w B A (n * 2) xs) (hB : B ≤ w.heap.size) (hn : n ≤ 1000000000) :
    Calls Tryz.prog 193 #[.slice A n c] w fun e w' => ∃ A2 c2, e = .returned (.slice A2 (n * 2) c2) ∧ Own w' w.heap.size A2 (n * 2) c2 xs ∧ Below w.heap.size w w' := by
  have HR := hide hr
  have HB := hide hB
  clear hr
  have HL := hide HR.out.1
  go_enter Tryz.func193, Tryz.ntmps193
  go_wp2
  go_loopw [3, 4] (fun o i wr => ∃ (k d c2 : Nat) (A2 : Option Addr), k ≤ n ∧ d = k * 2 ∧ i = .int .i64 k ∧ o = .slice A2 d c2 ∧ Hid (Own wr w.heap.size A2 d c2 (xs.take d)) ∧ Hid (Below w.heap.size w wr)) (fun _ i _ => n - (intOf i).toNat)
  case atStart => exact ⟨0, 0, 0, _, Nat.zero_le _, rfl, rfl, rfl, Own.lit0 w _ (Nat.le_refl _), below_new w _⟩
  case round =>
    obtain ⟨k, d, c2, A2, hk, hd, rfl, rfl, HO, HBW⟩ := hrel
    by_cases hlt : k < n
    · obtain ⟨ad, q, rfl, hq, hb, hc0, hc1⟩ := ints_at2 (HR.out.below HBW.out HB.out) hlt
      have HX := hide (take_rec2 xs k (by have := HL.out; omega))
      rw [← hd] at HX
      obtain ⟨x0, hx0⟩ : ∃ x, xs.getD (k * 2) 0 = x := ⟨_, rfl⟩
      obtain ⟨x1, hx1⟩ : ∃ x, xs.getD (k * 2 + 1) 0 = x := ⟨_, rfl⟩
      rw [hd, hx0, hx1, ← hd] at HX
      rw [hx0] at hc0
      rw [hx1] at hc1
      clear hx0 hx1
      have hs := HBW.out.size
      have HD := hide hd
      have hd2 : d ≤ 3000000000 := by omega
      clear hd
      have HOA := hide (HO.out.alloc (.cells #[.int .i64 x0, .int .i64 x1] 3))
      have HIA := hide (Ints.rec2 wr 3 x0 x1)
      have hnm : d + 2 ≤ 17592186044416 := by omega
      have hbs : w.heap.size ≤ (wr.alloc (.cells #[.int .i64 x0, .int .i64 x1] 3)).heap.size := by simp; omega
      have k0 : (0 : Int) ≤ (k : Int) := by omega
      have k1 : (k : Int) < (n : Int) := by omega
      go_wp2_with fail
      go_region_law ((refine step_append_ints ?_ (.tmp 12) (.tmp 23) ?_ w.heap.size d c2 (wr.heap.size + 1) 2 2 A2 (some ⟨wr.heap.size, 0, none⟩) (xs.take d) [x0, x1] ?_ ?_ ?_ ?_ ?_ ?_ ?_; rfl; rfl; rfl; exact HOA.out; rfl; exact HIA.out; exact hnm; exact hbs; intro A3 c3 w3 ho3 hg3' hat3; have hg3 := grown_undrawn hg3'; clear hat3 hg3'))
      all_goals
        have hB3 := below_app HBW.out hs HO.out (Nat.le_refl _) hg3
        rw [HX.out] at ho3
        rw [show d + 2 = (k + 1) * 2 by have := HD.out; omega] at ho3
        have HOK := hide ho3
        clear ho3 hg3
        go_wp2
        go_roundw
        case rel => exact ⟨k + 1, d + 2, c3, A3, by omega, by have := HD.out; omega, by go_num, rfl, by rw [show d + 2 = (k + 1) * 2 by have := HD.out; omega]; exact HOK.out, hB3⟩
        case measure => simp [intOf]; omega
    · obtain rfl : k = n := by omega
      subst hd
      go_wp2
      go_ret
      have ho := HO.out
      rw [List.take_of_length_le (by rw [HL.out]; exact Nat.le_refl _)] at ho
      exact ⟨_, _, rfl, ho, HBW.out⟩

set_option maxHeartbeats 800000 in
theorem specPutP (A : Option Addr) (n c B : Nat) (xs : List Int) (w : World) (hr : Ints w B A (n * 2) xs) (hB : B ≤ w.heap.size) (hn : n ≤ 1000000000) :
    Calls Tryz.prog 152 #[.slice A n c] w (PutPost w (validP xs n) xs) := by
  have HR := hide hr
  have HV := hide (l2P_any A n c B xs w hr hB hn)
  clear hr
  generalize validP xs n = v at HV ⊢
  go_enter Tryz.func152, Tryz.ntmps152
  go_wp2_with fail
  refine HV.out.mono ?_
  rintro e w1 ⟨rfl, hb1⟩
  have HB1 := hide hb1
  have HI1 := hide (HR.out.below hb1 hB)
  have hs1 := hb1.size
  clear hb1 HV
  rcases v with _ | _
  · go_wp2
    go_ret2
    exact ⟨_, _, _, rfl, Own.lit0 w1 _ hs1, HB1.out.alloc hs1 _⟩
  · go_wp2_with fail
    refine (l2putP_any A n c B xs _ HI1.out (by omega) hn).mono ?_
    rintro e w2 ⟨A2, c2, rfl, ho2, hb2⟩
    go_wp2
    go_ret2
    exact ⟨_, _, _, rfl, ho2.mono hs1, HB1.out.trans (hb2.mono hs1)⟩

set_option maxHeartbeats 3200000 in
theorem specGetP (A : Option Addr) (n c B : Nat) (xs : List Int) (w : World) (hr : Ints w B A n xs) (hB : B ≤ w.heap.size) (hn : n ≤ 1000000000) :
    Calls Tryz.prog 242 #[.slice A n c] w (GetPost w 221 2 (okG 2 9 fldP xs n) xs) := by
  have HR := hide hr
  have HB := hide hB
  clear hr
  have HL := hide HR.out.1
  obtain ⟨v, hv⟩ : ∃ v, okG 2 9 fldP xs n = v := ⟨_, rfl⟩
  rw [hv]
  have HV : Hid ((n % 2 = 0 ∧ validP xs (n / 2) = v) ∨ (n % 2 ≠ 0 ∧ v = false)) := by
    unfold okG at hv
    by_cases hm : n % 2 = 0
    · left; rw [decide_eq_true hm, Bool.true_and] at hv; exact ⟨hm, hv⟩
    · right; rw [decide_eq_false hm, Bool.false_and] at hv; exact ⟨hm, hv.symm⟩
  clear hv
  go_enter Tryz.func242, Tryz.ntmps242
  go_wp2_with fail
  go_loopw [4, 5] (fun o i wr => ∃ (k d c2 : Nat) (A2 : Option Addr), d ≤ n ∧ d = k * 2 ∧ i = .int .i64 d ∧ o = .slice A2 k c2 ∧ Hid (OwnR wr w.heap.size 221 2 A2 k c2 (xs.take d)) ∧ Hid (Below w.heap.size w wr)) (fun _ i _ => n - (intOf i).toNat)
  case atStart => exact ⟨0, 0, 0, _, Nat.zero_le _, by simp, rfl, rfl, OwnR.lit0 w _ (Nat.le_refl _) _ _, below_new w _⟩
  case round =>
    obtain ⟨k, d, c2, A2, hk, hd, rfl, rfl, HO, HBW⟩ := hrel
    by_cases hlt : d + 1 < n
    · obtain ⟨ad, rfl, hb, hc⟩ := (HR.out.below HBW.out HB.out).2 (by omega)
      have HX := hide (take_rec2 xs k (by have := HL.out; omega))
      obtain ⟨b1, hb1⟩ : ∃ b, d + 1 = b := ⟨_, rfl⟩
      rw [← hd] at HX
      have hc0 := hc d (by omega)
      obtain ⟨x0, hx0⟩ : ∃ x, xs.getD d 0 = x := ⟨_, rfl⟩
      rw [hx0] at hc0
      have hc1 := hc b1 (by omega)
      obtain ⟨x1, hx1⟩ : ∃ x, xs.getD b1 0 = x := ⟨_, rfl⟩
      rw [hx1] at hc1
      rw [hb1, hx0, hx1] at HX
      clear hx0 hx1
      clear hc
      have hs := HBW.out.size
      have HD := hide hd
      have hk2 : k ≤ 1000000000 := by omega
      clear hd
      have HOA := hide (HO.out.alloc (.cells #[.int .i64 x0, .int .i64 x1] 221))
      have HIA := hide (Ints.rec2 wr 221 x0 x1)
      have hnm : k + 1 ≤ 1000000000000 := by omega
      have hbs : w.heap.size ≤ (wr.alloc (.cells #[.int .i64 x0, .int .i64 x1] 221)).heap.size := by simp; omega
      have k0 : (0 : Int) ≤ (d : Int) := by omega
      have k1 : (d : Int) < (n : Int) := by omega
      have e1 : (d : Int) + 1 = (b1 : Int) := by omega
      have f1 : (0 : Int) ≤ (b1 : Int) := by omega
      have g1 : (b1 : Int) < (n : Int) := by omega
      have y1 : IntKind.i64.wrap (b1 : Int) = (b1 : Int) := IntWalk.i64_in _ (by omega)
      go_wp2_with fail
      go_region_law ((refine step_append_recs pairT ?_ (.tmp 14) (.tmp 25) ?_ w.heap.size k c2 (wr.heap.size + 1) 1 1 A2 (some ⟨wr.heap.size, 0, none⟩) (xs.take d) [x0, x1] ?_ ?_ ?_ ?_ ?_ ?_ ?_; rfl; rfl; rfl; exact HOA.out; rfl; exact HIA.out; exact hnm; exact hbs; intro A3 c3 w3 ho3 hg3' hat3; have hg3 := grown_undrawn hg3'; clear hat3 hg3'))
      all_goals
        have hB3 := below_app_r HBW.out hs HO.out (Nat.le_refl _) hg3
        rw [HX.out] at ho3
        rw [show (k + 1) * 2 = d + 2 by have := HD.out; omega] at ho3
        have HOK := hide ho3
        clear ho3 hg3
        go_wp2
        go_roundw
        case rel => exact ⟨k + 1, d + 2, c3, A3, by omega, by have := HD.out; omega, by go_num, rfl, HOK.out, hB3⟩
        case measure => simp [intOf]; omega
    · have hkn : k = n / 2 := by omega
      have HK := hide hkn
      have HD := hide hd
      rcases HV.out with ⟨hm, hv⟩ | ⟨hm, rfl⟩
      · have hdn : d = n := by omega
        have z0 : ((n : Int) % 2 != 0) = false := by simp; omega
        have ho := HO.out
        rw [List.take_of_length_le (by rw [HL.out]; omega)] at ho
        have hk9 : k ≤ 1000000000 := by omega
        rw [← hkn] at hv
        have HVK := hide (l2P_any A2 k c2 wr.heap.size xs wr ho.ints (Nat.le_refl _) hk9)
        rw [hv] at HVK
        have HOF := hide ho
        have hs := HBW.out.size
        clear ho hv hkn hd hm hdn
        go_wp2_with fail
        refine HVK.out.mono ?_
        rintro e w1 ⟨rfl, hb1⟩
        have hs1 := hb1.size
        have HB1 := hide (HBW.out.trans (hb1.mono hs))
        have HO1 := hide (HOF.out.below hb1)
        clear hb1 HVK
        rcases v with _ | _
        · go_wp2
          go_ret2
          exact ⟨_, _, _, rfl, OwnR.lit0 w1 _ (by omega) _ _, HB1.out.alloc (by omega) _⟩
        · go_wp2
          go_ret2
          exact ⟨_, _, _, rfl, HO1.out, HB1.out⟩
      · have z0 : ((n : Int) % 2 != 0) = true := by simp; omega
        have hs := HBW.out.size
        clear hkn hd hm
        go_wp2
        go_ret2
        exact ⟨_, _, _, rfl, OwnR.lit0 wr _ hs _ _, HBW.out.alloc hs _⟩

end Go.Proofs.YtfianpjoifcphaaGreat