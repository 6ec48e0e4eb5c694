/-
  The model's ColumnsFill.
-/
import Derived.Test.YtldbcenipahkfaaSpecK2
import Derived.Test.YtldbcenipahkfaaImpC7
namespace Go.Proofs.Ytldbcenipahkfaa
open Go.RowKit
set_option linter.unusedVariables false
set_option maxRecDepth 100000

theorem chk_fillO {xs : List Int} {c : Int × Int} {a b : Nat} (ha : a < xs.length) (hb : b < xs.length) (hab : a ≠ b) (v : Int) (h0 : 0 ≤ c.1) (h1 : c.1 ≤ 100) : (chk (fillR xs a b c.1 v)).1 = c.1 := by
  have hb' : b < (fillX xs a b v).length := by rw [fillX_len]; exact hb
  have e : (chk (fillR xs a b c.1 v)).1 = (sS (fillX xs a b v) + (fillO xs a b c.1 v - 0)) % 101 := by unfold fillR chk; simp only; rw [sS_set hb', fillX_b xs hab hb]
  have e2 : fillO xs a b c.1 v = (c.1 - sS (fillX xs a b v) % 101 + 101) % 101 := rfl
  rw [e, e2]
  omega
theorem Kp.calli {w W : World} {L : List (Nat × TypeId × Array Value)} {f : FuncId} {args : Array Value} {r : Ending} {A2 : Option Addr} {n : Nat} {ys : List Int} (h : Hid (Kp w W L)) (hi : Hid (Ints W W.heap.size A2 n ys)) (hc : Calls Try.prog f args W fun e W' => e = r ∧ Below W.heap.size W W') :
    Calls Try.prog f args W fun e W' => e = r ∧ Hid (Kp w W' L) ∧ Hid (Ints W' W'.heap.size A2 n ys) :=
  hc.mono fun e W' ⟨he, hb⟩ => ⟨he, h.out.step hb, (hi.out.below hb (Nat.le_refl _)).more hb.size⟩
/-- .. and one list is made beside another -/
theorem Kp.calloi {w W : World} {L : List (Nat × TypeId × Array Value)} {f : FuncId} {args : Array Value} {n m : Nat} {xs ys : List Int} {A1 : Option Addr} (h : Hid (Kp w W L)) (hi : Hid (Ints W W.heap.size A1 m ys)) (hc : Calls Try.prog f args W fun e W' => ∃ A2 c2, e = .returned (.slice A2 n c2) ∧ Own W' W.heap.size A2 n c2 xs ∧ Below W.heap.size W W') :
    Calls Try.prog f args W fun e W' => ∃ A2 c2, e = .returned (.slice A2 n c2) ∧ Hid (Kp w W' L) ∧ Hid (Own W' w.heap.size A2 n c2 xs) ∧ Hid (Ints W' W'.heap.size A2 n xs) ∧ Hid (Ints W' W'.heap.size A1 m ys) :=
  hc.mono fun e W' ⟨A2, c2, he, ho, hb⟩ => ⟨A2, c2, he, h.out.step hb, ho.mono h.out.below.size, ho.ints, (hi.out.below hb (Nat.le_refl _)).more hb.size⟩

set_option maxHeartbeats 12800000 in
theorem specCF (A : Option Addr) (n c B : Nat) (xs : List Int) (a b c1 c2 : Int) (w : World) (hr : Ints w B A n xs) (hB : B ≤ w.heap.size) (hn : n ≤ 1000000000000) :
    Calls Try.prog 28 #[.slice A n c, .int .i64 a, .int .i64 b, .agg #[.int .i64 c1, .int .i64 c2]] w (RsPost w (fillV xs a b (c1, c2)) (fillL xs a b (c1, c2))) := by
  have HK0 := hide ((Kp.refl w).push 26 #[.int .i64 c1, .int .i64 c2])
  have HB0 := hide ((Below.refl w.heap.size w).alloc (Nat.le_refl _) (.cells #[.int .i64 c1, .int .i64 c2] 26))
  have HCV := hide fun (W : World) (hb : Below w.heap.size w W) => specKV A n c B xs W (hr.below hb hB) hn
  have HKV := hide fun (W : World) => specCKV c1 c2 W
  have wn : IntKind.i64.wrap ((n : Int) - 1) = (n : Int) - 1 := IntWalk.i64_in _ (by omega)
  have HIA := hide fun (W : World) => in_any a 0 ((n : Int) - 1) W
  have HIB := hide fun (W : World) => in_any b 0 ((n : Int) - 1) W
  rcases hx : colV xs with _ | _
  · obtain ⟨e1, e3⟩ := fi_no (xs := xs) (c := (c1, c2)) (a := a) (b := b) (by unfold fillW; rw [hx]; rfl)
    rw [e1, e3]
    rw [hx] at HCV
    clear hr hx e1 e3 HIA HIB
    go_enter Try.func28, Try.ntmps28
    go_wp2_with fail
    refine (HCV.out _ HB0.out).mono ?_
    rintro e w' ⟨rfl, rfl⟩
    have HO : Hid (Own ((w.alloc (.cells #[.int .i64 c1, .int .i64 c2] 26)).alloc (.cells #[] 3)) w.heap.size (some ⟨w.heap.size + 1, 0, none⟩) 0 0 []) := by
      have h := Own.lit0 (w.alloc (.cells #[.int .i64 c1, .int .i64 c2] 26)) w.heap.size (by simp)
      rwa [show (w.alloc (.cells #[.int .i64 c1, .int .i64 c2] 26)).heap.size = w.heap.size + 1 by simp] at h
    have HB1 := hide (HB0.out.alloc (by simp) (.cells #[] 3))
    go_wp2
    go_ret2
    exact ⟨_, _, _, rfl, HO.out, HB1.out⟩
  · rw [hx] at HCV
    rcases hc : ckV (c1, c2) with _ | _
    · obtain ⟨e1, e3⟩ := fi_no (xs := xs) (c := (c1, c2)) (a := a) (b := b) (by unfold fillW; rw [hc]; simp)
      rw [e1, e3]
      rw [hc] at HKV
      clear hr hx hc e1 e3 HIA HIB
      go_enter Try.func28, Try.ntmps28
      go_wp2_with fail
      refine (HCV.out _ HB0.out).mono ?_
      rintro e w' ⟨rfl, rfl⟩
      go_wp2_with fail
      refine (HKV.out _).mono ?_
      rintro e w1 ⟨rfl, hb1⟩
      have HK1 := hide (HK0.out.step hb1)
      clear hb1
      have HO := hide (Own.lit0 w1 w.heap.size HK1.out.below.size)
      have HB2 := hide (HK1.out.below.alloc HK1.out.below.size (.cells #[] 3))
      go_wp2
      go_ret2
      exact ⟨_, _, _, rfl, HO.out, HB2.out⟩
    · rw [hc] at HKV
      have hfw : fillW xs a b (c1, c2) = (inB a 0 ((n : Int) - 1) && inB b 0 ((n : Int) - 1) && !decide (a = b)) := by unfold fillW; rw [hx, hc, hr.1, Bool.true_and, Bool.true_and]
      rcases ha : inB a 0 ((n : Int) - 1) with _ | _
      · rw [ha] at HIA
        obtain ⟨e1, e3⟩ := fi_no (xs := xs) (c := (c1, c2)) (a := a) (b := b) (by rw [hfw, ha]; rfl)
        rw [e1, e3]
        clear hr hx hc e1 e3 HIB hfw ha
        go_enter Try.func28, Try.ntmps28
        go_wp2_with fail
        refine (HCV.out _ HB0.out).mono ?_
        rintro e w' ⟨rfl, rfl⟩
        go_wp2_with fail
        refine (HKV.out _).mono ?_
        rintro e w1 ⟨rfl, hb1⟩
        have HK1 := hide (HK0.out.step hb1)
        clear hb1
        go_wp2_with fail
        refine (HIA.out _).mono ?_
        rintro e w' ⟨rfl, rfl⟩
        have HO := hide (Own.lit0 w1 w.heap.size HK1.out.below.size)
        have HB2 := hide (HK1.out.below.alloc HK1.out.below.size (.cells #[] 3))
        go_wp2
        go_ret2
        exact ⟨_, _, _, rfl, HO.out, HB2.out⟩
      · rw [ha] at HIA
        rcases hb : inB b 0 ((n : Int) - 1) with _ | _
        · rw [hb] at HIB
          obtain ⟨e1, e3⟩ := fi_no (xs := xs) (c := (c1, c2)) (a := a) (b := b) (by rw [hfw, ha, hb]; rfl)
          rw [e1, e3]
          clear hr hx hc e1 e3 hfw ha hb
          go_enter Try.func28, Try.ntmps28
          go_wp2_with fail
          refine (HCV.out _ HB0.out).mono ?_
          rintro e w' ⟨rfl, rfl⟩
          go_wp2_with fail
          refine (HKV.out _).mono ?_
          rintro e w1 ⟨rfl, hb1⟩
          have HK1 := hide (HK0.out.step hb1)
          clear hb1
          go_wp2_with fail
          refine (HIA.out _).mono ?_
          rintro e w' ⟨rfl, rfl⟩
          go_wp2_with fail
          refine (HIB.out _).mono ?_
          rintro e w' ⟨rfl, rfl⟩
          have HO := hide (Own.lit0 w1 w.heap.size HK1.out.below.size)
          have HB2 := hide (HK1.out.below.alloc HK1.out.below.size (.cells #[] 3))
          go_wp2
          go_ret2
          exact ⟨_, _, _, rfl, HO.out, HB2.out⟩
        · rw [hb] at HIB
          by_cases hab : a = b
          · have hd : (a == b) = true := by simpa using hab
            obtain ⟨e1, e3⟩ := fi_no (xs := xs) (c := (c1, c2)) (a := a) (b := b) (by rw [hfw, ha, hb, decide_eq_true hab]; rfl)
            rw [e1, e3]
            clear hr hx hc e1 e3 hfw ha hb hab
            go_enter Try.func28, Try.ntmps28
            go_wp2_with fail
            refine (HCV.out _ HB0.out).mono ?_
            rintro e w' ⟨rfl, rfl⟩
            go_wp2_with fail
            refine (HKV.out _).mono ?_
            rintro e w1 ⟨rfl, hb1⟩
            have HK1 := hide (HK0.out.step hb1)
            clear hb1
            go_wp2_with fail
            refine (HIA.out _).mono ?_
            rintro e w' ⟨rfl, rfl⟩
            go_wp2_with fail
            refine (HIB.out _).mono ?_
            rintro e w' ⟨rfl, rfl⟩
            have HO := hide (Own.lit0 w1 w.heap.size HK1.out.below.size)
            have HB2 := hide (HK1.out.below.alloc HK1.out.below.size (.cells #[] 3))
            go_wp2
            go_ret2
            exact ⟨_, _, _, rfl, HO.out, HB2.out⟩
          · have hW : fillW xs a b (c1, c2) = true := by rw [hfw, ha, hb, decide_eq_false hab]; rfl
            have hd : (a == b) = false := by simpa using hab
            have ha2 := inB_iff.1 ha
            have hb2 := inB_iff.1 hb
            obtain ⟨ka, rfl⟩ := Int.eq_ofNat_of_zero_le ha2.1
            obtain ⟨kb, rfl⟩ := Int.eq_ofNat_of_zero_le hb2.1
            have hka : ka < n := by omega
            have hkb : kb < n := by omega
            have hkab : ka ≠ kb := fun e => hab (by rw [e])
            have hn6 : n ≤ 6 := by rw [← hr.1]; exact (colV_iff.1 hx).2.2
            have hk' := hc
            unfold ckV at hk'
            rw [Bool.and_eq_true, inB_iff, inB_iff] at hk'
            have HSOME := hide fun (k : Nat) (hk : k < 100) (h0 : ∀ j, j < k → fillT xs ka kb (c1, c2) j = false) (h1 : fillT xs ka kb (c1, c2) k = true) => fi_some hW (v := k) (by rw [Int.toNat_natCast, Int.toNat_natCast]; unfold fillF; exact find_range_some hk h0 h1)
            have HNONE := hide fun (h0 : ∀ j, j < 100 → fillT xs ka kb (c1, c2) j = false) => fi_none hW (by rw [Int.toNat_natCast, Int.toNat_natCast]; unfold fillF; exact find_range_none h0)
            have HW0 := hide fun (W : World) (hb : Below w.heap.size w W) => specWith A n c B kb xs 0 W (hr.below hb hB) (Nat.le_trans hB hb.size) (by omega) hkb
            have HWA := hide fun (k : Nat) (A2 : Option Addr) (c9 : Nat) (W : World) (hi : Ints W W.heap.size A2 n (xs.set kb 0)) => specWith A2 n c9 _ ka (xs.set kb 0) (k : Int) W hi (Nat.le_refl _) (by omega) hka
            have HWB := hide fun (k : Nat) (v : Int) (A2 : Option Addr) (c9 : Nat) (W : World) (hi : Ints W W.heap.size A2 n (fillX xs ka kb k)) => specWith A2 n c9 _ kb (fillX xs ka kb k) v W hi (Nat.le_refl _) (by omega) hkb
            have hcx : ∀ k : Nat, k ≤ 99 → colV (fillX xs ka kb k) = true := fun k hk => by unfold fillX; exact colV_set (colV_set hx kb (by omega) (by omega)) ka (by omega) (by omega)
            have HCX := hide fun (k : Nat) (hk : k ≤ 99) (A2 : Option Addr) (c9 : Nat) (W : World) (hi : Ints W W.heap.size A2 n (fillX xs ka kb k)) => specKC A2 n c9 _ (fillX xs ka kb k) W hi (Nat.le_refl _) (hcx k hk)
            have HCR := hide fun (k : Nat) (hk : k ≤ 99) (v : Int) (h0 : 0 ≤ v) (h9 : v ≤ 99) (A2 : Option Addr) (c9 : Nat) (W : World) (hi : Ints W W.heap.size A2 n ((fillX xs ka kb k).set kb v)) => specKC A2 n c9 _ ((fillX xs ka kb k).set kb v) W hi (Nat.le_refl _) (colV_set (hcx k hk) kb h0 h9)
            have HFO := hide fun (k : Nat) => (show fillO xs ka kb c1 k = (c1 - (chk (fillX xs ka kb k)).1 + 101) % 101 from rfl)
            have HCK := hide fun (k : Nat) => chk_rng (fillX xs ka kb k)
            have HF1 := hide fun (k : Nat) => chk_fillO (xs := xs) (c := (c1, c2)) (a := ka) (b := kb) (by rw [hr.1]; exact hka) (by rw [hr.1]; exact hkb) hkab (k : Int) hk'.1.1 hk'.1.2
            have HFR := hide fun (k : Nat) => (show fillR xs ka kb c1 k = (fillX xs ka kb k).set kb (fillO xs ka kb c1 k) from rfl)
            have HFT := hide fun (k : Nat) => (show fillT xs ka kb (c1, c2) k = (decide (fillO xs ka kb c1 k ≤ 99) && decide (chk (fillR xs ka kb c1 k) = (c1, c2))) from rfl)
            have hfd := run_fieldC
            clear hr hx hc hfw ha hb hab hW hcx hkab ha2 hb2
            go_enter Try.func28, Try.ntmps28
            go_wp2_with fail
            refine (HCV.out _ HB0.out).mono ?_
            rintro e w' ⟨rfl, rfl⟩
            go_wp2_with fail
            refine (HKV.out _).mono ?_
            rintro e w1 ⟨rfl, hb1⟩
            have HK1 := hide (HK0.out.step hb1)
            clear hb1
            go_wp2_with fail
            refine (HIA.out _).mono ?_
            rintro e w' ⟨rfl, rfl⟩
            go_wp2_with fail
            refine (HIB.out _).mono ?_
            rintro e w' ⟨rfl, rfl⟩
            go_wp2_with fail
            go_loopw [10] (fun i wr => ∃ k : Nat, k ≤ 100 ∧ i = .int .i64 k ∧ Hid (Kp w wr [(w.heap.size, 26, #[.int .i64 c1, .int .i64 c2])]) ∧ Hid (∀ j, j < k → fillT xs ka kb (c1, c2) j = false)) (fun i _ => 100 - (intOf i).toNat)
            case atStart => exact ⟨0, Nat.zero_le _, rfl, HK1.out, fun j hj => absurd hj (by omega)⟩
            case round =>
              clear HK1 HK0 HB0 HCV HKV HIA HIB
              obtain ⟨k, hk, rfl, HK, HNO⟩ := hrel
              by_cases hlt : k ≤ 99
              · have k1 : (k : Int) ≤ 99 := by omega
                have hFO := HFO.out k
                have hF1 := HF1.out k
                have hFT := HFT.out k
                have hCK := HCK.out k
                have HWK := hide (HWA.out k)
                have hWB := HWB.out k (fillO xs ka kb c1 k)
                have hCX := HCX.out k hlt
                have hCR := HCR.out k hlt (fillO xs ka kb c1 k)
                have HX9 := hide (show (xs.set kb 0).set ka (k : Int) = fillX xs ka kb k from rfl)
                rw [HX9.out] at HWK
                have hS := HSOME.out k (by omega) HNO.out
                rw [HFR.out k] at hFT hF1
                have hFR := HFR.out k
                unfold ckV at hCK
                rw [Bool.and_eq_true, inB_iff, inB_iff] at hCK
                generalize fillX xs ka kb k = zs at *
                generalize fillO xs ka kb c1 k = o at *
                have HS := hide hS
                have HFR2 := hide hFR
                try simp only at hF1
                have hs := hCK.1
                generalize (chk zs).1 = s at *
                generalize (chk zs).2 = t at *
                have o0 : 0 ≤ o := by omega
                have wa : IntKind.i64.wrap (c1 - s) = c1 - s := IntWalk.i64_in _ (by omega)
                have wb : IntKind.i64.wrap (c1 - s + 101) = c1 - s + 101 := IntWalk.i64_in _ (by omega)
                have wc : (c1 - s + 101).tmod 101 = o := by rw [Int.tmod_eq_emod_of_nonneg (by omega)]; exact hFO.symm
                have HCX9 := hide hCX
                have HWB9 := hide hWB
                have hCRR := hCR o0
                clear hFO hCK hs hCX hWB hS hFR hCR
                go_wp2_with fail
                refine (Kp.callo HK (HW0.out _ HK.out.below)).mono ?_
                rintro e w3 ⟨A3, c3, rfl, HK3, HO3, HI3⟩
                clear HO3
                go_wp2_with fail
                refine (Kp.callo HK3 (HWK.out _ _ _ HI3.out)).mono ?_
                rintro e w4 ⟨A4, c4, rfl, HK4, HO4, HI4⟩
                clear HO4 HK HK3
                have HKD := hide HK4.out.drew
                have HID : Hid (Ints w4.drew w4.drew.heap.size A4 n zs) := HI4.out
                clear HK4 HI4
                go_wp2_with fail
                go_region_held3 (fun W => W.cell? ⟨w.heap.size, 0, none⟩ = some (.int .i64 c1) ∧ W.cell? ⟨w.heap.size, 1, none⟩ = some (.int .i64 c2))
                  (first | (exact Kp.cb HKD.out) | (exact Kp.cb HK5.out))
                  ((go_at_call 40; (with_reducible refine (Kp.calli HKD HID (HCX9.out _ _ _ HID.out)).mono ?_); rintro e w5 ⟨rfl, HK5, HI5⟩))
                all_goals
                  clear wa wb wc HKD HID
                  by_cases hv : o ≤ 99
                  · have hdv : decide (o ≤ 99) = true := decide_eq_true hv
                    have HCRR := hide (hCRR hv)
                    clear hCRR
                    generalize chk (zs.set kb o) = y at *
                    obtain ⟨y1, y2⟩ := y
                    try simp only at hF1
                    try simp only at HCRR
                    rw [hF1] at HCRR hFT
                    clear hF1
                    have HK6 := hide HK5.out.drew
                    have HI6 : Hid (Ints w5.drew w5.drew.heap.size A4 n zs) := HI5.out
                    by_cases hy : y2 = c2
                    · rw [hy] at HCRR hFT
                      have HT := hide (HS.out (by rw [hFT, hdv, decide_eq_true rfl]; rfl))
                      clear hFT hy
                      go_wp2_with fail
                      go_region_held3 (fun W => W.cell? ⟨w.heap.size, 0, none⟩ = some (.int .i64 c1) ∧ W.cell? ⟨w.heap.size, 1, none⟩ = some (.int .i64 c2))
                        (first | (exact Kp.cb HK6.out) | (exact Kp.cb HK7.out) | (exact Kp.cb HK8.out))
                        ((first
                          | (go_at_call 49; (with_reducible refine (Kp.calloi HK6 HI6 (HWB9.out _ _ _ HI6.out)).mono ?_); rintro e w7 ⟨A7, c7, rfl, HK7, HO7, HI7, HJ7⟩)
                          | (go_at_call 40; (with_reducible refine (Kp.calli HK7 HJ7 (HCRR.out _ _ _ HI7.out)).mono ?_); rintro e w8 ⟨rfl, HK8, HI8⟩)))
                      all_goals
                        go_wp2_with fail
                        refine (Kp.callo HK8 (HWB9.out _ _ _ HI8.out)).mono ?_
                        rintro e w9 ⟨A9, c9, rfl, HK9, HO9, HI9⟩
                        have HB9 := hide HK9.out.below
                        go_wp2
                        go_ret2
                        exact ⟨A9, n, c9, by rw [HT.out.1]; rfl, by rw [HT.out.2, Int.toNat_natCast, Int.toNat_natCast, HFR2.out]; exact HO9.out, HB9.out⟩
                    · have hy' : (y2 == c2) = false := by simpa using hy
                      have HN2 := hide (show fillT xs ka kb (c1, c2) k = false by rw [hFT, hdv, decide_eq_false (fun e => hy (by injection e))]; rfl)
                      clear hFT hy
                      go_wp2_with fail
                      go_region_held3 (fun W => W.cell? ⟨w.heap.size, 0, none⟩ = some (.int .i64 c1) ∧ W.cell? ⟨w.heap.size, 1, none⟩ = some (.int .i64 c2))
                        (first | (exact Kp.cb HK6.out) | (exact Kp.cb HK7.out) | (exact Kp.cb HK8.out))
                        ((first
                          | (go_at_call 49; (with_reducible refine (Kp.calloi HK6 HI6 (HWB9.out _ _ _ HI6.out)).mono ?_); rintro e w7 ⟨A7, c7, rfl, HK7, HO7, HI7, HJ7⟩)
                          | (go_at_call 40; (with_reducible refine (Kp.calli HK7 HJ7 (HCRR.out _ _ _ HI7.out)).mono ?_); rintro e w8 ⟨rfl, HK8, HI8⟩)))
                      all_goals
                        go_wp2
                        go_roundw
                        case rel => exact ⟨k + 1, by omega, by go_num, HK8.out, fun j hj => by rcases (show j < k ∨ j = k by omega) with h | rfl; exact HNO.out j h; exact HN2.out⟩
                        case measure => simp [intOf]; omega
                  · have hd9 : decide (o ≤ 99) = false := decide_eq_false hv
                    have HN2 := hide (show fillT xs ka kb (c1, c2) k = false by rw [hFT, hd9]; rfl)
                    clear hFT hF1 hv hCRR
                    go_wp2_with fail
                    go_quiet (fail)
                    go_wp2
                    go_roundw
                    case rel => exact ⟨k + 1, by omega, by go_num, HK5.out.drewN _, fun j hj => by rcases (show j < k ∨ j = k by omega) with h | rfl; exact HNO.out j h; exact HN2.out⟩
                    case measure => simp [intOf]; omega
              · obtain rfl : k = 100 := by omega
                have HE := hide (HNONE.out HNO.out)
                have HO := hide (Own.lit0 wr w.heap.size HK.out.below.size)
                have HB1 := hide (HK.out.below.alloc HK.out.below.size (.cells #[] 3))
                go_wp2
                go_ret2
                exact ⟨some ⟨wr.heap.size, 0, none⟩, 0, 0, by rw [HE.out.1]; rfl, by rw [HE.out.2]; exact HO.out, HB1.out⟩
end Go.Proofs.Ytldbcenipahkfaa
