/-
  The walk of FnMendGood.
-/
import Derived.Test.YtldbcenipahkfaaDrawK2
import Derived.Test.YtldbcenipahkfaaSpecK3
import Derived.Test.YtldbcenipahkfaaInts
namespace Go.Proofs.Ytldbcenipahkfaa
open Go.RowKit
set_option linter.unusedVariables false
set_option maxRecDepth 100000

set_option maxHeartbeats 6400000 in
theorem mendGood_walk (A : Option Addr) (n c : Nat) (bs : Nat → Int) (w : World) (hb : Bytes w w.heap.size A n bs) (hn : n ≤ c) (hc : c ≤ maxLen) :
    Calls Try.prog 8 #[.slice A n c] w fun e w' => e = .returned (.bool true) ∧ Below w.heap.size w w' := by
  by_cases hbig : 1048576 < n
  · go_enter Try.func8, Try.ntmps8
    go_wp2
    go_ret
    exact ⟨rfl, Below.refl _ _⟩
  · go_enter Try.func8, Try.ntmps8
    go_wp2_with fail
    refine (drawKG_any A n c bs _ hb hn hc).mono ?_
    rintro e w1 ⟨A1, m, cp, h, c1, c2, rfl, hq1, hq2, hd, hm7, hcap⟩
    have HB1 := hide hd.below
    have HI := hide hd.ints
    have HCAP := hide hcap
    have hs1 := hd.below.size
    have hmc : m ≤ cp := hd.nc.1
    have hcm : cp ≤ 9223372036854775807 := by have := hd.nc.2; unfold maxLen at this; omega
    have HP1 := hide fun (W : World) (hB : Below w1.heap.size w1 W) => implCG A1 m cp _ h c1 c2 W (hd.ints.below hB (Nat.le_refl _)) hB.size (by omega)
    have HP2 := hide fun (W : World) (hB : Below w1.heap.size w1 W) => specCG A1 m cp _ h c1 c2 W (hd.ints.below hB (Nat.le_refl _)) hB.size (by omega)
    obtain ⟨v, hv⟩ : ∃ v, goV h (c1, c2) = v := ⟨_, rfl⟩
    rw [hv] at HP1 HP2
    have HV := hide hv
    obtain ⟨g, hg⟩ : ∃ g, w1.heap.size = g := ⟨_, rfl⟩
    have HK1 := hide ((Kp.refl w1).pushN g hg 26 #[.int .i64 c1, .int .i64 c2])
    obtain ⟨q0, q1⟩ := HK1.out.cb
    clear hb hd hv hcap
    go_wp2_with fail
    refine (HP1.out _ HK1.out.below).mono ?_
    rintro e w2 ⟨rfl, hb2⟩
    have HK2 := hide (HK1.out.step hb2)
    obtain ⟨r0, r1⟩ := HK2.out.cb
    clear hb2 HK1 HP1
    go_wp2_with fail
    refine (HP2.out _ HK2.out.below).mono ?_
    rintro e w3 ⟨rfl, hb3⟩
    have HK3 := hide (HK2.out.step hb3)
    obtain ⟨s0, s1⟩ := HK3.out.cb
    clear hb3 HK2 HP2 hg
    rcases v with _ | _
    · have HE := hide (HB1.out.trans (HK3.out.below.mono hs1))
      go_wp2
      go_ret
      exact ⟨rfl, HE.out⟩
    · have hV := HV.out
      obtain ⟨hcv, hck⟩ := goV_iff.1 hV
      have hlen : h.length = m := HI.out.1
      have hm1 : 1 ≤ m := by have := (colV_iff.1 hcv).2.1; omega
      have hm6 : m ≤ 6 := by have := (colV_iff.1 hcv).2.2; omega
      have hkv := goV_rng hV
      unfold ckV at hkv
      rw [Bool.and_eq_true, inB_iff, inB_iff] at hkv
      obtain ⟨m1, m2, m3⟩ := md_good hcv (goV_rng hV) hck
      have HM := hide fun (W : World) (hB : Below w1.heap.size w1 W) => implCM A1 m cp _ h c1 c2 W (HI.out.below hB (Nat.le_refl _)) hB.size (by omega) HCAP.out (by omega) (by omega) (by omega) (by omega)
      rw [m1, m2, m3] at HM
      clear hV hcv hck m1 m2 m3 hkv hlen
      go_wp2_with fail
      refine (HM.out _ HK3.out.below).mono ?_
      rintro e w4 ⟨A4, m4, c4, rfl, ho4, hb4⟩
      obtain rfl : m4 = m := ho4.1.symm.trans HI.out.1
      have HK4 := hide (HK3.out.step hb4)
      have HO4 := hide ho4.ints
      have HI4 := hide (HI.out.below HK4.out.below (Nat.le_refl _))
      clear ho4 hb4 HK3 HM
      go_wp2_with fail
      refine (sameInts_yes A4 A1 m4 c4 m4 cp _ _ h h _ HO4.out HI4.out (by unfold maxLen; omega) (by unfold maxLen; omega) rfl).mono ?_
      rintro e w5 ⟨rfl, q, rfl⟩
      have HE := hide (below_drewN (HB1.out.trans (HK4.out.below.mono hs1)) q)
      go_wp2
      go_ret
      exact ⟨rfl, HE.out⟩
end Go.Proofs.Ytldbcenipahkfaa
