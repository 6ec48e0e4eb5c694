/-
  The model's ColumnsMend.
-/
import Derived.Test.YtldbcenipahkfaaSpecK1
import Derived.Test.YtldbcenipahkfaaImpC6
namespace Go.Proofs.Ytldbcenipahkfaa
open Go.RowKit
set_option linter.unusedVariables false
set_option maxRecDepth 100000

theorem run_fieldC (x y : Int) (W : World) : Sem.run Try.prog (Instr.field 26 (.agg #[.int .i64 x, .int .i64 y]) 0) W = .ok (.int .i64 x) W := by kernel_rfl
theorem Kp.cbx {w W : World} {g : Nat} {t : TypeId} {c1 c2 x : Int} {p : Addr} {L : List (Nat × TypeId × Array Value)} (h : Kp w W ((g, t, #[.int .i64 c1, .int .i64 c2]) :: L)) (hp : W.cell? p = some (.int .i64 x)) :
    W.cell? ⟨g, 0, none⟩ = some (.int .i64 c1) ∧ W.cell? ⟨g, 1, none⟩ = some (.int .i64 c2) ∧ W.cell? p = some (.int .i64 x) := ⟨h.cb.1, h.cb.2, hp⟩
theorem Kp.callx {w W : World} {L : List (Nat × TypeId × Array Value)} {f : FuncId} {args : Array Value} {r : Ending} {p : Addr} {x : Int} (h : Hid (Kp w W L)) (hp : Hid (W.cell? p = some (.int .i64 x))) (hl : p.block < w.heap.size) (hc : Calls Try.prog f args W fun e W' => e = r ∧ Below W.heap.size W W') :
    Calls Try.prog f args W fun e W' => e = r ∧ Hid (Kp w W' L) ∧ Hid (W'.cell? p = some (.int .i64 x)) :=
  hc.mono fun e W' ⟨he, hb⟩ => ⟨he, h.out.step hb, (hb.cell (Nat.lt_of_lt_of_le hl h.out.below.size)).trans hp.out⟩
/-- a list of the call's own that is made beside them -/
theorem Kp.callo {w W : World} {L : List (Nat × TypeId × Array Value)} {f : FuncId} {args : Array Value} {n : Nat} {xs : List Int} (h : Hid (Kp w W L)) (hc : Calls Try.prog f args W fun e W' => ∃ A2 c2, e = .returned (.slice A2 n c2) ∧ Own W' W.heap.size A2 n c2 xs ∧ Below W.heap.size W W') :
    Calls Try.prog f args W fun e W' => ∃ A2 c2, e = .returned (.slice A2 n c2) ∧ Hid (Kp w W' L) ∧ Hid (Own W' w.heap.size A2 n c2 xs) ∧ Hid (Ints W' W'.heap.size A2 n xs) :=
  hc.mono fun e W' ⟨A2, c2, he, ho, hb⟩ => ⟨A2, c2, he, h.out.step hb, ho.mono h.out.below.size, ho.ints⟩
theorem chk_mendA {xs : List Int} {c : Int × Int} {k : Nat} (hk : k < xs.length) (h0 : 0 ≤ c.1) (h1 : c.1 ≤ 100) : (chk (xs.set k (mendA xs c.1 k))).1 = c.1 := by
  have e : (chk (xs.set k (mendA xs c.1 k))).1 = (sS xs + (mendA xs c.1 k - xs.getD k 0)) % 101 := by unfold chk; simp only; rw [sS_set hk]
  have hS : (chk xs).1 = sS xs % 101 := rfl
  rw [e]
  unfold mendA
  omega

set_option maxHeartbeats 12800000 in
theorem specCM (A : Option Addr) (n c B : Nat) (xs : List Int) (c1 c2 : Int) (w : World) (hr : Ints w B A n xs) (hB : B ≤ w.heap.size) (hn : n ≤ 1000000000000) :
    Calls Try.prog 24 #[.slice A n c, .agg #[.int .i64 c1, .int .i64 c2]] w (MdPost w (mendV xs (c1, c2)) (mendI xs (c1, c2)) (mendL xs (c1, c2))) := by
  have HK0 := hide ((Kp.refl w).push 26 #[.int .i64 c1, .int .i64 c2])
  have HB0 := hide ((Below.refl w.heap.size w).alloc (Nat.le_refl _) (.cells #[.int .i64 c1, .int .i64 c2] 26))
  have HCV := hide fun (W : World) (hb : Below w.heap.size w W) => specKV A n c B xs W (hr.below hb hB) hn
  have HKV := hide fun (W : World) => specCKV c1 c2 W
  rcases hx : colV xs with _ | _
  · obtain ⟨e1, e2, e3⟩ := md_no (xs := xs) (c := (c1, c2)) (by rw [hx]; rfl)
    rw [e1, e2, e3]
    rw [hx] at HCV
    clear hr hx e1 e2 e3
    go_enter Try.func24, Try.ntmps24
    go_wp2_with fail
    refine (HCV.out _ HB0.out).mono ?_
    rintro e w' ⟨rfl, rfl⟩
    have HO : Hid (Own ((w.alloc (.cells #[.int .i64 c1, .int .i64 c2] 26)).alloc (.cells #[] 3)) w.heap.size (some ⟨w.heap.size + 1, 0, none⟩) 0 0 []) := by
      have h := Own.lit0 (w.alloc (.cells #[.int .i64 c1, .int .i64 c2] 26)) w.heap.size (by simp)
      rwa [show (w.alloc (.cells #[.int .i64 c1, .int .i64 c2] 26)).heap.size = w.heap.size + 1 by simp] at h
    have HB1 := hide (HB0.out.alloc (by simp) (.cells #[] 3))
    go_wp2
    go_ret3
    exact ⟨_, _, _, rfl, HO.out, HB1.out⟩
  · rw [hx] at HCV
    rcases hc : ckV (c1, c2) with _ | _
    · obtain ⟨e1, e2, e3⟩ := md_no (xs := xs) (c := (c1, c2)) (by rw [hc, Bool.and_false])
      rw [e1, e2, e3]
      rw [hc] at HKV
      clear hr hx hc e1 e2 e3
      go_enter Try.func24, Try.ntmps24
      go_wp2_with fail
      refine (HCV.out _ HB0.out).mono ?_
      rintro e w' ⟨rfl, rfl⟩
      go_wp2_with fail
      refine (HKV.out _).mono ?_
      rintro e w1 ⟨rfl, hb1⟩
      have HB1 := hide (HB0.out.trans (hb1.mono HB0.out.size))
      have HO := hide (Own.lit0 w1 w.heap.size HB1.out.size)
      have HB2 := hide (HB1.out.alloc HB1.out.size (.cells #[] 3))
      clear hb1
      go_wp2
      go_ret3
      exact ⟨_, _, _, rfl, HO.out, HB2.out⟩
    · rw [hc] at HKV
      have hn6 : n ≤ 6 := by rw [← hr.1]; exact (colV_iff.1 hx).2.2
      have HX := hide hx
      have HCK := hide hc
      have HR := hide hr
      have HKC := hide fun (W : World) (hb : Below w.heap.size w W) => specKC A n c B xs W (hr.below hb hB) (Nat.le_trans hB hb.size) hx
      by_cases hg : chk xs = (c1, c2)
      · obtain ⟨e1, e2, e3⟩ := md_good hx hc hg
        rw [e1, e2, e3]
        rw [hg] at HKC
        simp only at HKC
        clear hr hx hc hg e1 e2 e3
        go_enter Try.func24, Try.ntmps24
        go_wp2_with fail
        refine (HCV.out _ HB0.out).mono ?_
        rintro e w' ⟨rfl, rfl⟩
        go_wp2_with fail
        refine (HKV.out _).mono ?_
        rintro e w1 ⟨rfl, hb1⟩
        have HK1 := hide ((HK0.out.step hb1).drew)
        clear hb1
        go_wp2_with fail
        go_region_held3 (fun W => W.cell? ⟨w.heap.size, 0, none⟩ = some (.int .i64 c1) ∧ W.cell? ⟨w.heap.size, 1, none⟩ = some (.int .i64 c2))
          (first | (exact Kp.cb HK1.out) | (exact Kp.cb HK2.out))
          ((go_at_call 40; refine (Kp.call HK1 (HKC.out _ HK1.out.below)).mono ?_; rintro e w2 ⟨rfl, HK2⟩))
        all_goals
          have hs2 := HK2.out.below.size
          have HB2 := hide HK2.out.below
          go_wp2_with (at_builtin; refine wpList_append_ints rfl _ _ rfl w.heap.size 0 0 B n c _ _ [] xs rfl (Own.lit0 w2 _ hs2) rfl ((HR.out.below HB2.out hB).alloc (Nat.le_trans hB hs2) _) (by omega) (by simp; omega) ?_; intro A2 c9 w3 ho3 hg3 hat3; clear hat3; simp only [Nat.zero_add, List.nil_append] at ho3 ⊢; have HB3 := hide (below_app0 HB2.out hs2 hg3); have HO3 := hide ho3; clear ho3 hg3)
          go_ret3
          exact ⟨_, _, _, rfl, HO3.out, HB3.out⟩
      · have HNE := hide hg
        have hck := chk_rng xs
        have hk' := hc
        unfold ckV at hck hk'
        rw [Bool.and_eq_true, inB_iff, inB_iff] at hck hk'
        have HSOME := hide fun (k : Nat) (hk : k < n) (h0 : ∀ j, j < k → mendT xs (c1, c2) j = false) (h1 : mendT xs (c1, c2) k = true) => md_some hx hc hg (show mendF xs (c1, c2) = some k by unfold mendF; exact find_range_some (by rw [hr.1]; exact hk) h0 h1)
        have HNONE := hide fun (h0 : ∀ j, j < n → mendT xs (c1, c2) j = false) => md_none hx hc hg (show mendF xs (c1, c2) = none by unfold mendF; exact find_range_none (by rw [hr.1]; exact h0))
        have HLEN := hide hr.1
        have hcells := fun (k : Nat) (hk : k < n) => hr.at_ hk
        have HW := hide fun (k : Nat) (v : Int) (hk : k < n) (W : World) (hb : Below w.heap.size w W) => specWith A n c B k xs v W (hr.below hb hB) (Nat.le_trans hB hb.size) (by omega) hk
        have HWC := hide fun (k : Nat) (v : Int) (h0 : 0 ≤ v) (h9 : v ≤ 99) (A2 : Option Addr) (c9 : Nat) (W : World) (hi : Ints W W.heap.size A2 n (xs.set k v)) => specKC A2 n c9 _ (xs.set k v) W hi (Nat.le_refl _) (colV_set hx k h0 h9)
        have HXR := hide fun (k : Nat) (hk : k < n) => colV_at hx (show k < xs.length by rw [hr.1]; exact hk)
        have HMA := hide fun (k : Nat) => (show mendA xs c1 k = (xs.getD k 0 + c1 - (chk xs).1 + 101) % 101 from rfl)
        have HM1 := hide fun (k : Nat) (hk : k < n) => chk_mendA (xs := xs) (c := (c1, c2)) (k := k) (by rw [hr.1]; exact hk) hk'.1.1 hk'.1.2
        have HMT := hide fun (k : Nat) => (show mendT xs (c1, c2) k = (decide (mendA xs c1 k ≤ 99) && decide (chk (xs.set k (mendA xs c1 k)) = (c1, c2))) from rfl)
        have hne : ¬ ((chk xs).1 = c1 ∧ (chk xs).2 = c2) := fun h => hg (Prod.ext h.1 h.2)
        have hfd := run_fieldC
        have HCELLS := hide hcells
        clear hr hx hc hcells hg
        generalize (chk xs).1 = s at *
        generalize (chk xs).2 = t at *
        by_cases hs : s = c1
        · subst hs
          have ht : (t == c2) = false := by simpa using fun h => hne ⟨rfl, h⟩
          clear hne
          go_enter Try.func24, Try.ntmps24
          go_wp2_with fail
          refine (HCV.out _ HB0.out).mono ?_
          rintro e w' ⟨rfl, rfl⟩
          go_wp2_with fail
          refine (HKV.out _).mono ?_
          rintro e w1 ⟨rfl, hb1⟩
          have HK1 := hide ((HK0.out.step hb1).drew)
          clear hb1
          go_wp2_with fail
          go_region_held3 (fun W => W.cell? ⟨w.heap.size, 0, none⟩ = some (.int .i64 s) ∧ W.cell? ⟨w.heap.size, 1, none⟩ = some (.int .i64 c2))
            (first | (exact Kp.cb HK1.out) | (exact Kp.cb HK2.out))
            ((go_at_call 40; (with_reducible refine (Kp.call HK1 (HKC.out _ HK1.out.below)).mono ?_); rintro e w2 ⟨rfl, HK2⟩))
          all_goals
            clear HK0 HB0 HCV HKV HK1
            go_wp2_with fail
            go_loopw [7] (fun i wr => ∃ k : Nat, k ≤ n ∧ i = .int .i64 k ∧ Hid (Kp w wr [(w.heap.size, 26, #[.int .i64 s, .int .i64 c2])]) ∧ Hid (∀ j, j < k → mendT xs (s, c2) j = false)) (fun i _ => n - (intOf i).toNat)
            case atStart => exact ⟨0, Nat.zero_le _, rfl, HK2.out, fun j hj => absurd hj (by omega)⟩
            case round =>
              clear HK2
              obtain ⟨k, hk, rfl, HK, HNO⟩ := hrel
              by_cases hlt : k < n
              · have k1 : (k : Int) < (n : Int) := by omega
                have k0 : (0 : Int) ≤ (k : Int) := by omega
                have hxr := HXR.out k hlt
                obtain ⟨ad, rfl, hab, hc⟩ := HCELLS.out k hlt
                have hadw : (ad.add k).block < w.heap.size := by rw [block_of_add]; omega
                have hcw := (HK.out.below.cell hadw).trans hc
                have hMA := HMA.out k
                have hM1 := HM1.out k hlt
                have hMT := HMT.out k
                have hSO := HSOME.out k hlt HNO.out
                have hW := HW.out k (mendA xs s k) hlt
                have hWC := HWC.out k (mendA xs s k)
                try simp only at hM1
                generalize xs.getD k 0 = x at *
                generalize mendA xs s k = a at *
                have a0 : 0 ≤ a ∧ a ≤ 100 := by omega
                have wa : IntKind.i64.wrap (x + s) = x + s := IntWalk.i64_in _ (by omega)
                have wb : IntKind.i64.wrap (x + s - s) = x + s - s := IntWalk.i64_in _ (by omega)
                have wc : IntKind.i64.wrap (x + s - s + 101) = x + s - s + 101 := IntWalk.i64_in _ (by omega)
                have wd : (x + s - s + 101).tmod 101 = a := by rw [Int.tmod_eq_emod_of_nonneg (by omega)]; exact hMA.symm
                have we : IntKind.i64.wrap x = x := IntWalk.i64_in _ (by omega)
                have wf : IntKind.i64.wrap (x + 101) = x + 101 := IntWalk.i64_in _ (by omega)
                have wg : (x + 101).tmod 101 = a := by rw [Int.tmod_eq_emod_of_nonneg (by omega)]; omega
                have HP := hide hadw
                have HC1 : Hid (wr.drew.cell? (ad.add k) = some (.int .i64 x)) := hcw
                obtain ⟨p, hp⟩ : ∃ p, ad.add k = p := ⟨_, rfl⟩
                rw [hp] at HP HC1
                have HKD := hide (HK.out.drew)
                clear hc hadw hcw hMA
                go_wp2_with fail
                go_region_held3 (fun W => W.cell? ⟨w.heap.size, 0, none⟩ = some (.int .i64 s) ∧ W.cell? ⟨w.heap.size, 1, none⟩ = some (.int .i64 c2) ∧ W.cell? p = some (.int .i64 x))
                  (first | (exact Kp.cbx HKD.out HC1.out) | (exact Kp.cbx HK3.out HC3.out))
                  ((go_at_call 40; (with_reducible refine (Kp.callx HKD HC1 HP.out (HKC.out _ HKD.out.below)).mono ?_); rintro e w4 ⟨rfl, HK3, HC3⟩))
                all_goals
                  clear wa wb wc wd we wf wg HC1 HC3 HKD HK
                  by_cases hv : a ≤ 99
                  · have hdv : decide (a ≤ 99) = true := decide_eq_true hv
                    have HWI := hide hW
                    have HWC2 := hide (hWC a0.1 hv)
                    generalize chk (xs.set k a) = y at *
                    obtain ⟨y1, y2⟩ := y
                    try simp only at hM1
                    try simp only at HWC2
                    rw [hM1] at HWC2 hMT
                    clear hM1
                    have HK4 := hide (HK3.out.drew)
                    by_cases hy : y2 = c2
                    · rw [hy] at HWC2 hMT
                      have hT := hide (hSO (by rw [hMT, decide_eq_true hv, decide_eq_true rfl]; rfl))
                      clear hSO hMT hW hWC hy hp
                      go_wp2_with fail
                      go_region_held3 (fun W => W.cell? ⟨w.heap.size, 0, none⟩ = some (.int .i64 s) ∧ W.cell? ⟨w.heap.size, 1, none⟩ = some (.int .i64 c2))
                        (first | (exact Kp.cb HK4.out) | (exact Kp.cb HK5.out) | (exact Kp.cb HK6.out))
                        ((first
                          | (go_at_call 49; (with_reducible refine (Kp.callo HK4 (HWI.out _ HK4.out.below)).mono ?_); rintro e w5 ⟨A5, c5, rfl, HK5, HO5, HI5⟩)
                          | (go_at_call 40; (with_reducible refine (Kp.call HK5 (HWC2.out _ _ _ HI5.out)).mono ?_); rintro e w6 ⟨rfl, HK6⟩)))
                      all_goals
                        go_wp2_with fail
                        refine (Kp.callo HK6 (HWI.out _ HK6.out.below)).mono ?_
                        rintro e w7 ⟨A7, c7, rfl, HK7, HO7, HI7⟩
                        have HB7 := hide HK7.out.below
                        go_wp2
                        go_ret3
                        exact ⟨A7, n, c7, by rw [hT.out.1, hT.out.2.1]; rfl, by rw [hT.out.2.2]; exact HO7.out, HB7.out⟩
                    · have hy' : (y2 == c2) = false := by simpa using hy
                      have HN2 := hide (show mendT xs (s, c2) k = false by rw [hMT, decide_eq_true hv, decide_eq_false (fun e => hy (by injection e))]; rfl)
                      clear hSO hMT hW hWC hy hp
                      go_wp2_with fail
                      go_region_held3 (fun W => W.cell? ⟨w.heap.size, 0, none⟩ = some (.int .i64 s) ∧ W.cell? ⟨w.heap.size, 1, none⟩ = some (.int .i64 c2))
                        (first | (exact Kp.cb HK4.out) | (exact Kp.cb HK5.out) | (exact Kp.cb HK6.out))
                        ((first
                          | (go_at_call 49; (with_reducible refine (Kp.callo HK4 (HWI.out _ HK4.out.below)).mono ?_); rintro e w5 ⟨A5, c5, rfl, HK5, HO5, HI5⟩)
                          | (go_at_call 40; (with_reducible refine (Kp.call HK5 (HWC2.out _ _ _ HI5.out)).mono ?_); rintro e w6 ⟨rfl, HK6⟩)))
                      all_goals
                        go_wp2
                        go_roundw
                        case rel => exact ⟨k + 1, by omega, by go_num, HK6.out, fun j hj => by rcases (show j < k ∨ j = k by omega) with h | rfl; exact HNO.out j h; exact HN2.out⟩
                        case measure => simp [intOf]; omega
                  · have hd : decide (a ≤ 99) = false := decide_eq_false hv
                    have HN2 := hide (show mendT xs (s, c2) k = false by rw [hMT, hd]; rfl)
                    clear hSO hMT hW hWC hM1 hv
                    go_wp2_with fail
                    go_quiet (fail)
                    go_wp2
                    go_roundw
                    case rel => exact ⟨k + 1, by omega, by go_num, HK3.out.drewN _, fun j hj => by rcases (show j < k ∨ j = k by omega) with h | rfl; exact HNO.out j h; exact HN2.out⟩
                    case measure => simp [intOf]; omega
              · obtain rfl : k = n := by omega
                have HE := hide (HNONE.out HNO.out)
                have HO := hide (Own.lit0 wr w.heap.size HK.out.below.size)
                have HB1 := hide (HK.out.below.alloc HK.out.below.size (.cells #[] 3))
                go_wp2
                go_ret3
                exact ⟨some ⟨wr.heap.size, 0, none⟩, 0, 0, by rw [HE.out.1, HE.out.2.1]; rfl, by rw [HE.out.2.2]; exact HO.out, HB1.out⟩
        · have hs' : (s == c1) = false := by simpa using hs
          clear hne hs
          go_enter Try.func24, Try.ntmps24
          go_wp2_with fail
          refine (HCV.out _ HB0.out).mono ?_
          rintro e w' ⟨rfl, rfl⟩
          go_wp2_with fail
          refine (HKV.out _).mono ?_
          rintro e w1 ⟨rfl, hb1⟩
          have HK1 := hide ((HK0.out.step hb1).drew)
          clear hb1
          go_wp2_with fail
          go_region_held3 (fun W => W.cell? ⟨w.heap.size, 0, none⟩ = some (.int .i64 c1) ∧ W.cell? ⟨w.heap.size, 1, none⟩ = some (.int .i64 c2))
            (first | (exact Kp.cb HK1.out) | (exact Kp.cb HK2.out))
            ((go_at_call 40; (with_reducible refine (Kp.call HK1 (HKC.out _ HK1.out.below)).mono ?_); rintro e w2 ⟨rfl, HK2⟩))
          all_goals
            clear HK0 HB0 HCV HKV HK1
            go_wp2_with fail
            go_loopw [7] (fun i wr => ∃ k : Nat, k ≤ n ∧ i = .int .i64 k ∧ Hid (Kp w wr [(w.heap.size, 26, #[.int .i64 c1, .int .i64 c2])]) ∧ Hid (∀ j, j < k → mendT xs (c1, c2) j = false)) (fun i _ => n - (intOf i).toNat)
            case atStart => exact ⟨0, Nat.zero_le _, rfl, HK2.out, fun j hj => absurd hj (by omega)⟩
            case round =>
              clear HK2
              obtain ⟨k, hk, rfl, HK, HNO⟩ := hrel
              by_cases hlt : k < n
              · have k1 : (k : Int) < (n : Int) := by omega
                have k0 : (0 : Int) ≤ (k : Int) := by omega
                have hxr := HXR.out k hlt
                obtain ⟨ad, rfl, hab, hc⟩ := HCELLS.out k hlt
                have hadw : (ad.add k).block < w.heap.size := by rw [block_of_add]; omega
                have hcw := (HK.out.below.cell hadw).trans hc
                have hMA := HMA.out k
                have hM1 := HM1.out k hlt
                have hMT := HMT.out k
                have hSO := HSOME.out k hlt HNO.out
                have hW := HW.out k (mendA xs c1 k) hlt
                have hWC := HWC.out k (mendA xs c1 k)
                try simp only at hM1
                generalize xs.getD k 0 = x at *
                generalize mendA xs c1 k = a at *
                have a0 : 0 ≤ a ∧ a ≤ 100 := by omega
                have wa : IntKind.i64.wrap (x + c1) = x + c1 := IntWalk.i64_in _ (by omega)
                have wb : IntKind.i64.wrap (x + c1 - s) = x + c1 - s := IntWalk.i64_in _ (by omega)
                have wc : IntKind.i64.wrap (x + c1 - s + 101) = x + c1 - s + 101 := IntWalk.i64_in _ (by omega)
                have wd : (x + c1 - s + 101).tmod 101 = a := by rw [Int.tmod_eq_emod_of_nonneg (by omega)]; exact hMA.symm
                have HP := hide hadw
                have HC1 : Hid (wr.drew.cell? (ad.add k) = some (.int .i64 x)) := hcw
                obtain ⟨p, hp⟩ : ∃ p, ad.add k = p := ⟨_, rfl⟩
                rw [hp] at HP HC1
                have HKD := hide (HK.out.drew)
                clear hc hadw hcw hMA
                go_wp2_with fail
                go_region_held3 (fun W => W.cell? ⟨w.heap.size, 0, none⟩ = some (.int .i64 c1) ∧ W.cell? ⟨w.heap.size, 1, none⟩ = some (.int .i64 c2) ∧ W.cell? p = some (.int .i64 x))
                  (first | (exact Kp.cbx HKD.out HC1.out) | (exact Kp.cbx HK3.out HC3.out))
                  ((go_at_call 40; (with_reducible refine (Kp.callx HKD HC1 HP.out (HKC.out _ HKD.out.below)).mono ?_); rintro e w4 ⟨rfl, HK3, HC3⟩))
                all_goals
                  clear wa wb wc wd HC1 HC3 HKD HK
                  by_cases hv : a ≤ 99
                  · have hdv : decide (a ≤ 99) = true := decide_eq_true hv
                    have HWI := hide hW
                    have HWC2 := hide (hWC a0.1 hv)
                    generalize chk (xs.set k a) = y at *
                    obtain ⟨y1, y2⟩ := y
                    try simp only at hM1
                    try simp only at HWC2
                    rw [hM1] at HWC2 hMT
                    clear hM1
                    have HK4 := hide (HK3.out.drew)
                    by_cases hy : y2 = c2
                    · rw [hy] at HWC2 hMT
                      have hT := hide (hSO (by rw [hMT, decide_eq_true hv, decide_eq_true rfl]; rfl))
                      clear hSO hMT hW hWC hy hp
                      go_wp2_with fail
                      go_region_held3 (fun W => W.cell? ⟨w.heap.size, 0, none⟩ = some (.int .i64 c1) ∧ W.cell? ⟨w.heap.size, 1, none⟩ = some (.int .i64 c2))
                        (first | (exact Kp.cb HK4.out) | (exact Kp.cb HK5.out) | (exact Kp.cb HK6.out))
                        ((first
                          | (go_at_call 49; (with_reducible refine (Kp.callo HK4 (HWI.out _ HK4.out.below)).mono ?_); rintro e w5 ⟨A5, c5, rfl, HK5, HO5, HI5⟩)
                          | (go_at_call 40; (with_reducible refine (Kp.call HK5 (HWC2.out _ _ _ HI5.out)).mono ?_); rintro e w6 ⟨rfl, HK6⟩)))
                      all_goals
                        go_wp2_with fail
                        refine (Kp.callo HK6 (HWI.out _ HK6.out.below)).mono ?_
                        rintro e w7 ⟨A7, c7, rfl, HK7, HO7, HI7⟩
                        have HB7 := hide HK7.out.below
                        go_wp2
                        go_ret3
                        exact ⟨A7, n, c7, by rw [hT.out.1, hT.out.2.1]; rfl, by rw [hT.out.2.2]; exact HO7.out, HB7.out⟩
                    · have hy' : (y2 == c2) = false := by simpa using hy
                      have HN2 := hide (show mendT xs (c1, c2) k = false by rw [hMT, decide_eq_true hv, decide_eq_false (fun e => hy (by injection e))]; rfl)
                      clear hSO hMT hW hWC hy hp
                      go_wp2_with fail
                      go_region_held3 (fun W => W.cell? ⟨w.heap.size, 0, none⟩ = some (.int .i64 c1) ∧ W.cell? ⟨w.heap.size, 1, none⟩ = some (.int .i64 c2))
                        (first | (exact Kp.cb HK4.out) | (exact Kp.cb HK5.out) | (exact Kp.cb HK6.out))
                        ((first
                          | (go_at_call 49; (with_reducible refine (Kp.callo HK4 (HWI.out _ HK4.out.below)).mono ?_); rintro e w5 ⟨A5, c5, rfl, HK5, HO5, HI5⟩)
                          | (go_at_call 40; (with_reducible refine (Kp.call HK5 (HWC2.out _ _ _ HI5.out)).mono ?_); rintro e w6 ⟨rfl, HK6⟩)))
                      all_goals
                        go_wp2
                        go_roundw
                        case rel => exact ⟨k + 1, by omega, by go_num, HK6.out, fun j hj => by rcases (show j < k ∨ j = k by omega) with h | rfl; exact HNO.out j h; exact HN2.out⟩
                        case measure => simp [intOf]; omega
                  · have hd : decide (a ≤ 99) = false := decide_eq_false hv
                    have HN2 := hide (show mendT xs (c1, c2) k = false by rw [hMT, hd]; rfl)
                    clear hSO hMT hW hWC hM1 hv
                    go_wp2_with fail
                    go_quiet (fail)
                    go_wp2
                    go_roundw
                    case rel => exact ⟨k + 1, by omega, by go_num, HK3.out.drewN _, fun j hj => by rcases (show j < k ∨ j = k by omega) with h | rfl; exact HNO.out j h; exact HN2.out⟩
                    case measure => simp [intOf]; omega
              · obtain rfl : k = n := by omega
                have HE := hide (HNONE.out HNO.out)
                have HO := hide (Own.lit0 wr w.heap.size HK.out.below.size)
                have HB1 := hide (HK.out.below.alloc HK.out.below.size (.cells #[] 3))
                go_wp2
                go_ret3
                exact ⟨some ⟨wr.heap.size, 0, none⟩, 0, 0, by rw [HE.out.1, HE.out.2.1]; rfl, by rw [HE.out.2.2]; exact HO.out, HB1.out⟩
end Go.Proofs.Ytldbcenipahkfaa
