/-
  The walk of FnFillTwo.
-/
import Derived.Test.YtldbcenipahkfaaDrawK2
import Derived.Test.YtldbcenipahkfaaSpecK3
import Derived.Test.YtldbcenipahkfaaInts
import Derived.Deep.Cut
namespace Go.Proofs.Ytldbcenipahkfaa
open Go.RowKit
set_option linter.unusedVariables false
set_option maxRecDepth 100000

set_option maxHeartbeats 6400000 in
theorem fillTwo_walk (A : Option Addr) (n c : Nat) (bs : Nat → Int) (A' : Option Addr) (n' c' : Nat) (bs' : Nat → Int) (w : World) (hb : Bytes w w.heap.size A n bs) (hn : n ≤ c) (hc : c ≤ maxLen) (hb' : Bytes w w.heap.size A' n' bs') (hn' : n' ≤ c') (hc' : c' ≤ maxLen) :
    Calls Try.prog 10 #[.slice A n c, .slice A' n' c'] w fun e w' => e = .returned (.bool true) ∧ Below w.heap.size w w' := by
  by_cases hbig : 1048576 < n
  · go_enter Try.func10, Try.ntmps10
    go_wp2
    go_ret
    exact ⟨rfl, Below.refl _ _⟩
  · by_cases hbig' : 1048576 < n'
    · go_enter Try.func10, Try.ntmps10
      go_wp2
      go_ret
      exact ⟨rfl, Below.refl _ _⟩
    · go_enter Try.func10, Try.ntmps10
      go_wp2_with fail
      refine (drawKG_any A n c bs _ hb hn hc).mono ?_
      rintro e w1 ⟨A1, m, cp, h, c1, c2, rfl, hq1, hq2, hd, hm7, hcap⟩
      have HB1 := hide hd.below
      have HI := hide hd.ints
      have HCAP := hide hcap
      have hs1 := hd.below.size
      have hmc : m ≤ cp := hd.nc.1
      have hcm : cp ≤ 9223372036854775807 := by have := hd.nc.2; unfold maxLen at this; omega
      have HP1 := hide fun (W : World) (hB : Below w1.heap.size w1 W) => implCG A1 m cp _ h c1 c2 W (hd.ints.below hB (Nat.le_refl _)) hB.size (by omega)
      have HP2 := hide fun (W : World) (hB : Below w1.heap.size w1 W) => specCG A1 m cp _ h c1 c2 W (hd.ints.below hB (Nat.le_refl _)) hB.size (by omega)
      obtain ⟨v, hv⟩ : ∃ v, goV h (c1, c2) = v := ⟨_, rfl⟩
      rw [hv] at HP1 HP2
      have HV := hide hv
      obtain ⟨g, hg⟩ : ∃ g, w1.heap.size = g := ⟨_, rfl⟩
      have HK1 := hide ((Kp.refl w1).pushN g hg 26 #[.int .i64 c1, .int .i64 c2])
      obtain ⟨q0, q1⟩ := HK1.out.cb
      clear hb hd hv hcap
      go_wp2_with fail
      refine (HP1.out _ HK1.out.below).mono ?_
      rintro e w2 ⟨rfl, hb2⟩
      have HK2 := hide (HK1.out.step hb2)
      obtain ⟨r0, r1⟩ := HK2.out.cb
      clear hb2 HK1 HP1
      go_wp2_with fail
      refine (HP2.out _ HK2.out.below).mono ?_
      rintro e w3 ⟨rfl, hb3⟩
      have HK3 := hide (HK2.out.step hb3)
      obtain ⟨s0, s1⟩ := HK3.out.cb
      clear hb3 HK2 HP2 hg
      rcases v with _ | _
      · have HE := hide (HB1.out.trans (HK3.out.below.mono hs1))
        go_wp2
        go_ret
        exact ⟨rfl, HE.out⟩
      · have hV := HV.out
        obtain ⟨hcv, hck⟩ := goV_iff.1 hV
        have hlen : h.length = m := HI.out.1
        have hm1 : 1 ≤ m := by have := (colV_iff.1 hcv).2.1; omega
        have hm6 : m ≤ 6 := by have := (colV_iff.1 hcv).2.2; omega
        by_cases hm2 : m < 2
        · have hm2' : (m : Int) < 2 := by omega
          have HE := hide (HB1.out.trans (HK3.out.below.mono hs1))
          clear hV hcv hck hlen
          go_wp2
          go_ret
          exact ⟨rfl, HE.out⟩
        · have hm2' : ¬ (m : Int) < 2 := by omega
          have hkv := goV_rng hV
          unfold ckV at hkv
          rw [Bool.and_eq_true, inB_iff, inB_iff] at hkv
          obtain ⟨a, ha⟩ : ∃ k, n' % m = k := ⟨_, rfl⟩
          have ham : a < m := by rw [← ha]; exact Nat.mod_lt _ (by omega)
          have ea : (n' : Int) % (m : Int) = (a : Int) := by rw [← ha]; rfl
          have ta : (n' : Int).tmod (m : Int) = (a : Int) := by rw [← ha]; rfl
          obtain ⟨d, hd⟩ : ∃ d : Nat, n' / 7 = d := ⟨_, rfl⟩
          have ed : (n' : Int) / 7 = (d : Int) := by omega
          have td : (n' : Int).tdiv 7 = (d : Int) := by rw [Int.tdiv_eq_ediv_of_nonneg (by omega)]; exact ed
          obtain ⟨r, hr⟩ : ∃ r : Nat, d % (m - 1) = r := ⟨_, rfl⟩
          have hrm : r < m - 1 := by rw [← hr]; exact Nat.mod_lt _ (by omega)
          have em : (m : Int) - 1 = ((m - 1 : Nat) : Int) := by omega
          have er : (d : Int) % ((m : Int) - 1) = (r : Int) := by rw [em, ← hr]; rfl
          have tr : (d : Int).tmod ((m : Int) - 1) = (r : Int) := by rw [em, ← hr]; rfl
          obtain ⟨b, hbb⟩ : ∃ b : Nat, (a + 1 + r) % m = b := ⟨_, rfl⟩
          have hbm : b < m := by rw [← hbb]; exact Nat.mod_lt _ (by omega)
          have hab : a ≠ b := by
            rw [← hbb]
            by_cases h9 : a + 1 + r < m
            · rw [Nat.mod_eq_of_lt h9]; omega
            · rw [Nat.mod_eq_sub_mod (by omega), Nat.mod_eq_of_lt (by omega)]; omega
          have ebb : ((a : Int) + 1 + (r : Int)) % (m : Int) = (b : Int) := by rw [← hbb]; rfl
          have tbb : ((a : Int) + 1 + (r : Int)).tmod (m : Int) = (b : Int) := by rw [← hbb]; rfl
          have wa1 : IntKind.i64.wrap ((a : Int) + 1) = (a : Int) + 1 := IntWalk.i64_in _ (by omega)
          have wa2 : IntKind.i64.wrap ((a : Int) + 1 + (r : Int)) = (a : Int) + 1 + (r : Int) := IntWalk.i64_in _ (by omega)
          have wm1 : IntKind.i64.wrap ((m : Int) - 1) = (m : Int) - 1 := IntWalk.i64_in _ (by omega)
          obtain ⟨f1, f2⟩ := fill_found hcv (a := a) (b := b) (by omega) (by omega) hab
          obtain ⟨f3, f4⟩ := fill_found2 hcv (a := a) (b := b) (by omega) (by omega) hab
          rw [hck] at f1 f2 f3 f4
          have HF1 : Hid (∀ (A9 : Option Addr) (c9 : Nat) (W : World), Ints W W.heap.size A9 m ((h.set a 0).set b 0) → Calls Try.prog 27 #[.slice A9 m c9, .int .i64 a, .int .i64 b, .agg #[.int .i64 c1, .int .i64 c2]] W (RsPost W true h)) := fun A9 c9 W hi => by
            have h9 := implCF A9 m c9 _ ((h.set a 0).set b 0) a b c1 c2 W hi (Nat.le_refl _) (by omega) (by omega) (by omega) (by omega) (by omega)
            rwa [f1, f2] at h9
          have HF2 : Hid (∀ (A9 : Option Addr) (c9 : Nat) (W : World), Ints W W.heap.size A9 m ((h.set a 0).set b 0) → Calls Try.prog 27 #[.slice A9 m c9, .int .i64 b, .int .i64 a, .agg #[.int .i64 c1, .int .i64 c2]] W (RsPost W true h)) := fun A9 c9 W hi => by
            have h9 := implCF A9 m c9 _ ((h.set a 0).set b 0) b a c1 c2 W hi (Nat.le_refl _) (by omega) (by omega) (by omega) (by omega) (by omega)
            rwa [f3, f4] at h9
          have HI3 := hide (HI.out.below HK3.out.below (Nat.le_refl _))
          clear hV hcv hck hlen hkv f1 f2 f3 f4 ha hd hr hbb em
          go_upto_region 11 with (at_builtin; refine wpList_append_ints rfl _ _ rfl (w3).heap.size 0 0 w1.heap.size m cp _ _ [] h rfl (Own.lit0 (w3) _ (Nat.le_refl _)) rfl (HI3.out.alloc HK3.out.below.size _) (by omega) (by simp) ?_; intro A5 c5 w5 ho5 hg5 hat5; clear hat5; simp only [Nat.zero_add, List.nil_append] at ho5 ⊢; have HB5 := hide (below_app0 (Below.refl _ _) (Nat.le_refl _) hg5); have HK5 := hide (HK3.out.step HB5.out); obtain ⟨o5, rfl, hob5, hol5⟩ := ho5.shape (by omega); have HO5 := hide ho5; clear ho5 hg5)
          obtain ⟨xa, hxa⟩ : ∃ x, h.getD a 0 = x := ⟨_, rfl⟩
          have hcell := HO5.out.cell (g := o5) (j := a) ham
          have hfree := HO5.out.free (g := o5) (j := a)
          have hst := HO5.out.stored (g := o5) (j := a) 0
          have hcell2 := hst.1.cell (g := o5) (j := b) hbm
          have hfree2 := hst.1.free (g := o5) (j := b)
          have hst2 := hst.1.stored (g := o5) (j := b) 0
          have HO6 := hide hst2.1
          have HBS := hide (HK5.out.below.grown (grown_trans' hst.2 hst2.2) HK5.out.below.size (by intro q hq; injection hq with hq; have := HK3.out.below.size; omega))
          have hgo : g < o5 := Nat.lt_of_lt_of_le HK3.out.lt hob5
          have HKS : Hid (Kp w1 ((w5.setCell ⟨o5, a, none⟩ (.int .i64 0)).setCell ⟨o5, b, none⟩ (.int .i64 0)) [(g, 26, #[.int .i64 c1, .int .i64 c2])]) :=
            ⟨fun p hp => by simp only [List.mem_cons, List.not_mem_nil, or_false] at hp; subst hp; exact ⟨(HK5.out.hd.far (p := ⟨o5, a, none⟩) (by simp; omega) _).far (p := ⟨o5, b, none⟩) (by simp; omega) _, (HK5.out.blk _ (List.mem_cons_self ..)).2⟩, HBS.out⟩
          obtain ⟨z0, z1⟩ := HKS.out.cb
          have HI6 := hide HO6.out.ints
          clear hst hst2 HBS HK3 HB5 HK5 HO5 HI3 hxa
          go_wp2_with fail
          refine (HF1.out _ _ _ HI6.out).mono ?_
          rintro e w7 ⟨A7, m7, c7, rfl, ho7, hb7⟩
          obtain rfl : m7 = m := ho7.1.symm.trans HI.out.1
          have HK7 := hide (HKS.out.step hb7)
          obtain ⟨y0, y1⟩ := HK7.out.cb
          have HI7 := hide ho7.ints
          have HX7 := hide ((HI6.out.below hb7 (Nat.le_refl _)).more hb7.size)
          clear ho7 hb7 HKS
          go_wp2_with fail
          refine (HF2.out _ _ _ HX7.out).mono ?_
          rintro e w8 ⟨A8, m8, c8, rfl, ho8, hb8⟩
          obtain rfl : m8 = m7 := ho8.1.symm.trans HI.out.1
          have HK8 := hide (HK7.out.step hb8)
          have HI8 := hide ho8.ints
          have HI78 := hide (HI7.out.below hb8 (Nat.le_refl _))
          have HIA := hide (HI.out.below HK8.out.below (Nat.le_refl _))
          have HE := hide fun (q : Nat) => below_drewN (HB1.out.trans (HK8.out.below.mono hs1)) q
          clear ho8 hb8 HK7
          go_wp2_with fail
          refine (sameInts_yes A7 A1 m8 c7 m8 cp _ _ h h _ HI78.out HIA.out (by unfold maxLen; omega) (by unfold maxLen; omega) rfl).mono ?_
          rintro e w9 ⟨rfl, q, rfl⟩
          go_wp2_with fail
          refine (sameInts_yes A8 A1 m8 c8 m8 cp _ _ h h _ (HI8.out.drewN q) (HIA.out.drewN q) (by unfold maxLen; omega) (by unfold maxLen; omega) rfl).mono ?_
          rintro e w10 ⟨rfl, q2, rfl⟩
          go_wp2
          go_ret
          exact ⟨rfl, HE.out (q + q2)⟩
end Go.Proofs.Ytldbcenipahkfaa
