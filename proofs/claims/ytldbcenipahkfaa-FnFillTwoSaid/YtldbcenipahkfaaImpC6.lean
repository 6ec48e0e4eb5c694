/-
  The program's ColumnsMend.
-/
import Derived.Test.YtldbcenipahkfaaImpC5
namespace Go.Proofs.Ytldbcenipahkfaa
open Go.RowKit
set_option linter.unusedVariables false
set_option maxRecDepth 100000

/-- what ColumnsMend hands back -/
def MdPost (w : World) (v : Bool) (i : Int) (xs : List Int) (e : Ending) (w' : World) : Prop :=
  ∃ A2 n2 c2, e = .returned (.tuple #[.slice A2 n2 c2, .int .i64 i, .bool v]) ∧ Own w' w.heap.size A2 n2 c2 xs ∧ Below w.heap.size w w'
theorem md_no {xs : List Int} {c : Int × Int} (h : (colV xs && ckV c) = false) : mendV xs c = false ∧ mendI xs c = 0 ∧ mendL xs c = [] := by
  have h2 : ¬ (colV xs = true ∧ ckV c = true) := by rw [← Bool.and_eq_true, h]; simp
  simp [mendV, mendI, mendL, h, h2]
theorem md_good {xs : List Int} {c : Int × Int} (hx : colV xs = true) (hc : ckV c = true) (h : chk xs = c) : mendV xs c = true ∧ mendI xs c = -1 ∧ mendL xs c = xs := by
  simp [mendV, mendI, mendL, hx, hc, h]
theorem md_none {xs : List Int} {c : Int × Int} (hx : colV xs = true) (hc : ckV c = true) (h : chk xs ≠ c) (hf : mendF xs c = none) : mendV xs c = false ∧ mendI xs c = 0 ∧ mendL xs c = [] := by
  simp [mendV, mendI, mendL, hx, hc, h, hf]
theorem md_some {xs : List Int} {c : Int × Int} (hx : colV xs = true) (hc : ckV c = true) (h : chk xs ≠ c) {k : Nat} (hf : mendF xs c = some k) : mendV xs c = true ∧ mendI xs c = k ∧ mendL xs c = xs.set k (mendA xs c.1 k) := by
  simp [mendV, mendI, mendL, hx, hc, h, hf]

set_option maxHeartbeats 6400000 in
theorem implCM (A : Option Addr) (n c B : Nat) (xs : List Int) (c1 c2 : Int) (w : World) (hr : Ints w B A n xs) (hB : B ≤ w.heap.size) (hn : n ≤ 1000000000000) (hcap : A = none → n = 0 ∧ c = 0)
    (h0 : -9223372036854775808 ≤ c1) (h1 : c1 ≤ 9223372036854775807) (h2 : -9223372036854775808 ≤ c2) (h3 : c2 ≤ 9223372036854775807) :
    Calls Try.prog 23 #[.slice A n c, .agg #[.int .i64 c1, .int .i64 c2]] w (MdPost w (mendV xs (c1, c2)) (mendI xs (c1, c2)) (mendL xs (c1, c2))) := by
  have HK0 := hide ((Kp.refl w).push 26 #[.int .i64 c1, .int .i64 c2])
  have HB0 := hide ((Below.refl w.heap.size w).alloc (Nat.le_refl _) (.cells #[.int .i64 c1, .int .i64 c2] 26))
  rcases hv : (colV xs && ckV (c1, c2)) with _ | _
  · obtain ⟨e1, e2, e3⟩ := md_no hv
    rw [e1, e2, e3]
    have HL := hide fun (W : World) (hb : Below w.heap.size w W) => lack_no A n c B xs c1 c2 W (hr.below hb hB) (Nat.le_trans hB hb.size) hn h0 h1 h2 h3 hv
    clear hr hv e1 e2 e3
    obtain ⟨s, rfl⟩ : ∃ s : Int, s = 0 := ⟨_, rfl⟩
    obtain ⟨t, rfl⟩ : ∃ t : Int, t = 0 := ⟨_, rfl⟩
    go_enter Try.func23, Try.ntmps23
    go_wp2_with fail
    refine (HL.out _ HB0.out).mono ?_
    rintro e w2 ⟨rfl, hb2⟩
    have HK2 := hide ((HK0.out.step hb2).push 55 #[.int .i64 0, .int .i64 0])
    have HB2 := hide HK2.out.below
    clear hb2 HK0 HB0 HL HK2
    go_wp2
    go_ret3
    exact ⟨_, _, _, rfl, Own.nil_ _ _, HB2.out⟩
  · have hv2 := hv
    rw [Bool.and_eq_true] at hv2
    obtain ⟨hx, hc⟩ := hv2
    have hn6 : n ≤ 6 := by rw [← hr.1]; exact (colV_iff.1 hx).2.2
    have HR := hide hr
    have HX := hide hx
    have HC := hide hc
    have hL := fun (W : World) (hb : Below w.heap.size w W) => lack_yes A n c B xs c1 c2 W (hr.below hb hB) (Nat.le_trans hB hb.size) hx hc
    have hlz := lk_zero (xs := xs) hc
    have hlr := lk_rng xs (c1, c2)
    by_cases hg : chk xs = (c1, c2)
    · obtain ⟨e1, e2, e3⟩ := md_good hx hc hg
      rw [e1, e2, e3]
      obtain ⟨z1, z2⟩ := hlz.2 hg
      rw [z1, z2] at hL
      have HL := hide hL
      have HCL := hide fun (W : World) (hb : Below w.heap.size w W) => clone_any A n c B xs W (hr.below hb hB) (Nat.le_trans hB hb.size) (by omega) hcap
      clear hr hv hx hc hL hlz hlr hg e1 e2 e3 z1 z2 hcap
      go_enter Try.func23, Try.ntmps23
      go_wp2_with fail
      refine (HL.out _ HB0.out).mono ?_
      rintro e w2 ⟨rfl, hb2⟩
      have HK2 := hide ((HK0.out.step hb2).push 55 #[.int .i64 0, .int .i64 0])
      have HB2 := hide HK2.out.below
      clear hb2 HK0 HB0 HL HK2
      go_wp2_with fail
      refine (HCL.out _ HB2.out).mono ?_
      rintro e w3 ⟨A3, c3, rfl, ho3, hb3⟩
      have HO := hide (ho3.mono HB2.out.size)
      have HB3 := hide (HB2.out.trans (hb3.mono HB2.out.size))
      clear ho3 hb3
      go_wp2
      go_ret3
      exact ⟨_, _, _, rfl, HO.out, HB3.out⟩
    · have HNE := hide hg
      have hne : ¬ (lkS xs (c1, c2) = 0 ∧ lkW xs (c1, c2) = 0) := fun h => hg (hlz.1 h)
      have hmr := mdA_rng xs (c1, c2)
      have hmd : mdA xs (c1, c2) = ov (lkW xs (c1, c2)) (lkS xs (c1, c2)) - 1 := rfl
      have hMA := mendA_lk xs (c1, c2)
      have hFY := fun (k : Nat) (hk : k < n) => mendF_yes (k := k) hx hc hg (by rw [hr.1]; exact hk)
      have hFN := mendF_no hx hc hg
      rw [hr.1] at hFN
      have hRS := fun (k : Nat) (hk : k < n) (W : World) (hb : Below w.heap.size w W) => raised_any A n c B k xs (lkS xs (c1, c2)) W (hr.below hb hB) (Nat.le_trans hB hb.size) hx hk hlr.1.1 hlr.1.2
      have hRV : ∀ k : Nat, rsV xs k (lkS xs (c1, c2)) = mendA xs c1 k := fun k => (hMA k).symm
      have hOV := fun (W : World) => over_any (lkW xs (c1, c2)) (lkS xs (c1, c2)) W hlr.2.1 hlr.2.2 hlr.1.1 hlr.1.2
      have hOR := ov_rng (d := lkS xs (c1, c2)) hlr.2.1 hlr.2.2
      have hfd := run_fieldM
      have HFY := hide hFY
      have HFN := hide hFN
      have HRS := hide hRS
      have HRV := hide hRV
      clear hr hv hx hc hlz hlr hcap hMA hFY hFN hRS hRV hg hmr
      generalize lkS xs (c1, c2) = s at *
      generalize lkW xs (c1, c2) = t at *
      have HL := hide hL
      clear hL
      by_cases hs : s = 0
      · subst hs
        have ht : (t == 0) = false := by simp; omega
        have hov : ov t 0 = 0 := ov_zero t
        rw [hov] at hOV hmd
        have HM := hide hmd
        obtain ⟨e1, e2, e3⟩ := md_none HX.out HC.out HNE.out (HFN.out fun k hk e => by have := HM.out; omega)
        rw [e1, e2, e3]
        have HOV := hide hOV
        have HH := hide fun (W : World) => implHas A n c (-1) W
        rw [show inB (-1) 0 ((n : Int) - 1) = false from rfl] at HH
        clear hov hOV hOR hmd hne e1 e2 e3
        go_enter Try.func23, Try.ntmps23
        go_wp2_with fail
        refine (HL.out _ HB0.out).mono ?_
        rintro e w2 ⟨rfl, hb2⟩
        have HK2 := hide ((HK0.out.step hb2).push 55 #[.int .i64 0, .int .i64 t])
        have HB2 := hide HK2.out.below
        clear hb2 HK0 HB0 HL HK2
        go_wp2_with fail
        refine (HOV.out _).mono ?_
        rintro e w3 ⟨rfl, hb3⟩
        have HB3 := hide (HB2.out.trans (hb3.mono HB2.out.size))
        clear hb3
        go_wp2_with fail
        refine (HH.out _).mono ?_
        rintro e w' ⟨rfl, rfl⟩
        go_wp2
        go_ret3
        exact ⟨_, _, _, rfl, Own.nil_ _ _, HB3.out⟩
      · have hs' : (s == 0) = false := by simpa using hs
        have hq := hOR
        obtain ⟨q, hqe⟩ : ∃ q, ov t s = q := ⟨_, rfl⟩
        rw [hqe] at hOV hq hmd
        have HOV := hide hOV
        have HM := hide hmd
        have wq : IntKind.i64.wrap (q - 1) = q - 1 := IntWalk.i64_in _ (by omega)
        have HH := hide fun (W : World) => implHas A n c (q - 1) W
        clear hOV hOR hmd hqe hne hs
        rcases hin : inB (q - 1) 0 ((n : Int) - 1) with _ | _
        · have hin2 : ¬ (0 ≤ q - 1 ∧ q - 1 ≤ (n : Int) - 1) := fun h => by rw [inB_iff.2 h] at hin; cases hin
          obtain ⟨e1, e2, e3⟩ := md_none HX.out HC.out HNE.out (HFN.out fun k hk e => by have := HM.out; omega)
          rw [e1, e2, e3]
          rw [hin] at HH
          clear hin hin2 e1 e2 e3
          go_enter Try.func23, Try.ntmps23
          go_wp2_with fail
          refine (HL.out _ HB0.out).mono ?_
          rintro e w2 ⟨rfl, hb2⟩
          have HK2 := hide ((HK0.out.step hb2).push 55 #[.int .i64 s, .int .i64 t])
          have HB2 := hide HK2.out.below
          clear hb2 HK0 HB0 HL HK2
          go_wp2_with fail
          refine (HOV.out _).mono ?_
          rintro e w3 ⟨rfl, hb3⟩
          have HB3 := hide (HB2.out.trans (hb3.mono HB2.out.size))
          clear hb3
          go_wp2_with fail
          refine (HH.out _).mono ?_
          rintro e w' ⟨rfl, rfl⟩
          go_wp2
          go_ret3
          exact ⟨_, _, _, rfl, Own.nil_ _ _, HB3.out⟩
        · have hin2 := inB_iff.1 hin
          obtain ⟨k, hk⟩ := Int.eq_ofNat_of_zero_le hin2.1
          have hkn : k < n := by omega
          have HKQ := hide hk
          rw [hin] at HH
          have hR := HRS.out k hkn
          rw [HRV.out k] at hR
          have wq2 : IntKind.i64.wrap (q - 1) = (k : Int) := by rw [wq, hk]
          rw [hk] at HH
          by_cases hv : mendA xs c1 k ≤ 99
          · obtain ⟨e1, e2, e3⟩ := md_some HX.out HC.out HNE.out (HFY.out k hkn (by have := HM.out; omega) hv)
            rw [e1, e2, e3]
            simp only [if_pos hv, decide_eq_true hv] at hR
            have HRR := hide hR
            clear hin hin2 e1 e2 e3 hR hv wq hk
            go_enter Try.func23, Try.ntmps23
            go_wp2_with fail
            refine (HL.out _ HB0.out).mono ?_
            rintro e w2 ⟨rfl, hb2⟩
            have HK2 := hide ((HK0.out.step hb2).push 55 #[.int .i64 s, .int .i64 t])
            have HB2 := hide HK2.out.below
            clear hb2 HK0 HB0 HL HK2
            go_wp2_with fail
            refine (HOV.out _).mono ?_
            rintro e w3 ⟨rfl, hb3⟩
            have HB3 := hide (HB2.out.trans (hb3.mono HB2.out.size))
            have z0 := (hb3.cell (p := ⟨w2.heap.size, 0, none⟩) (by simp)).trans (show (w2.alloc (.cells #[.int .i64 s, .int .i64 t] 55)).cell? ⟨w2.heap.size, 0, none⟩ = some (.int .i64 s) by simp)
            clear hb3
            go_wp2_with fail
            refine (HH.out _).mono ?_
            rintro e w' ⟨rfl, rfl⟩
            go_wp2_with fail
            refine (HRR.out _ HB3.out).mono ?_
            rintro e w4 ⟨A4, n4, c4, rfl, ho4, hb4⟩
            have HO := hide (ho4.mono HB3.out.size)
            have HB4 := hide (HB3.out.trans (hb4.mono HB3.out.size))
            clear ho4 hb4
            go_wp2
            go_ret3
            exact ⟨_, _, _, rfl, HO.out, HB4.out⟩
          · obtain ⟨e1, e2, e3⟩ := md_none HX.out HC.out HNE.out (HFN.out fun j hj e => by
              have := HM.out
              obtain rfl : j = k := by omega
              exact Int.not_le.1 hv)
            rw [e1, e2, e3]
            simp only [if_neg hv, decide_eq_false hv] at hR
            have HRR := hide hR
            clear hin hin2 e1 e2 e3 hR hv wq hk
            go_enter Try.func23, Try.ntmps23
            go_wp2_with fail
            refine (HL.out _ HB0.out).mono ?_
            rintro e w2 ⟨rfl, hb2⟩
            have HK2 := hide ((HK0.out.step hb2).push 55 #[.int .i64 s, .int .i64 t])
            have HB2 := hide HK2.out.below
            clear hb2 HK0 HB0 HL HK2
            go_wp2_with fail
            refine (HOV.out _).mono ?_
            rintro e w3 ⟨rfl, hb3⟩
            have HB3 := hide (HB2.out.trans (hb3.mono HB2.out.size))
            have z0 := (hb3.cell (p := ⟨w2.heap.size, 0, none⟩) (by simp)).trans (show (w2.alloc (.cells #[.int .i64 s, .int .i64 t] 55)).cell? ⟨w2.heap.size, 0, none⟩ = some (.int .i64 s) by simp)
            clear hb3
            go_wp2_with fail
            refine (HH.out _).mono ?_
            rintro e w' ⟨rfl, rfl⟩
            go_wp2_with fail
            refine (HRR.out _ HB3.out).mono ?_
            rintro e w4 ⟨A4, n4, c4, rfl, ho4, hb4⟩
            have HB4 := hide (HB3.out.trans (hb4.mono HB3.out.size))
            clear ho4 hb4
            go_wp2
            go_ret3
            exact ⟨_, _, _, rfl, Own.nil_ _ _, HB4.out⟩
end Go.Proofs.Ytldbcenipahkfaa
