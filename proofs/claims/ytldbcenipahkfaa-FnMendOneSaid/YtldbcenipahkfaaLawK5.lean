/-
  The walk of FnMendOne.
-/
import Derived.Test.YtldbcenipahkfaaDrawK2
import Derived.Test.YtldbcenipahkfaaSpecK3
import Derived.Test.YtldbcenipahkfaaInts
namespace Go.Proofs.Ytldbcenipahkfaa
open Go.RowKit
set_option linter.unusedVariables false
set_option maxRecDepth 100000

set_option maxHeartbeats 6400000 in
theorem mendOne_walk (A : Option Addr) (n c : Nat) (bs : Nat → Int) (A' : Option Addr) (n' c' : Nat) (bs' : Nat → Int) (w : World) (hb : Bytes w w.heap.size A n bs) (hn : n ≤ c) (hc : c ≤ maxLen) (hb' : Bytes w w.heap.size A' n' bs') (hn' : n' ≤ c') (hc' : c' ≤ maxLen) :
    Calls Try.prog 7 #[.slice A n c, .slice A' n' c'] w fun e w' => e = .returned (.bool true) ∧ Below w.heap.size w w' := by
  by_cases hbig : 1048576 < n
  · go_enter Try.func7, Try.ntmps7
    go_wp2
    go_ret
    exact ⟨rfl, Below.refl _ _⟩
  · by_cases hbig' : 1048576 < n'
    · go_enter Try.func7, Try.ntmps7
      go_wp2
      go_ret
      exact ⟨rfl, Below.refl _ _⟩
    · go_enter Try.func7, Try.ntmps7
      go_wp2_with fail
      refine (drawKG_any A n c bs _ hb hn hc).mono ?_
      rintro e w1 ⟨A1, m, cp, h, c1, c2, rfl, hq1, hq2, hd, hm7, hcap⟩
      have HB1 := hide hd.below
      have HI := hide hd.ints
      have HCAP := hide hcap
      have hs1 := hd.below.size
      have hmc : m ≤ cp := hd.nc.1
      have hcm : cp ≤ 9223372036854775807 := by have := hd.nc.2; unfold maxLen at this; omega
      have HP1 := hide fun (W : World) (hB : Below w1.heap.size w1 W) => implCG A1 m cp _ h c1 c2 W (hd.ints.below hB (Nat.le_refl _)) hB.size (by omega)
      have HP2 := hide fun (W : World) (hB : Below w1.heap.size w1 W) => specCG A1 m cp _ h c1 c2 W (hd.ints.below hB (Nat.le_refl _)) hB.size (by omega)
      obtain ⟨v, hv⟩ : ∃ v, goV h (c1, c2) = v := ⟨_, rfl⟩
      rw [hv] at HP1 HP2
      have HV := hide hv
      obtain ⟨g, hg⟩ : ∃ g, w1.heap.size = g := ⟨_, rfl⟩
      have HK1 := hide ((Kp.refl w1).pushN g hg 26 #[.int .i64 c1, .int .i64 c2])
      obtain ⟨q0, q1⟩ := HK1.out.cb
      clear hb hd hv hcap
      go_wp2_with fail
      refine (HP1.out _ HK1.out.below).mono ?_
      rintro e w2 ⟨rfl, hb2⟩
      have HK2 := hide (HK1.out.step hb2)
      obtain ⟨r0, r1⟩ := HK2.out.cb
      clear hb2 HK1 HP1
      go_wp2_with fail
      refine (HP2.out _ HK2.out.below).mono ?_
      rintro e w3 ⟨rfl, hb3⟩
      have HK3 := hide (HK2.out.step hb3)
      obtain ⟨s0, s1⟩ := HK3.out.cb
      clear hb3 HK2 HP2 hg
      rcases v with _ | _
      · have HE := hide (HB1.out.trans (HK3.out.below.mono hs1))
        go_wp2
        go_ret
        exact ⟨rfl, HE.out⟩
      · have hV := HV.out
        obtain ⟨hcv, hck⟩ := goV_iff.1 hV
        have hlen : h.length = m := HI.out.1
        have hm1 : 1 ≤ m := by have := (colV_iff.1 hcv).2.1; omega
        have hm6 : m ≤ 6 := by have := (colV_iff.1 hcv).2.2; omega
        have hkv := goV_rng hV
        unfold ckV at hkv
        rw [Bool.and_eq_true, inB_iff, inB_iff] at hkv
        obtain ⟨k, hk⟩ : ∃ k, n' % m = k := ⟨_, rfl⟩
        have hkm : k < m := by rw [← hk]; exact Nat.mod_lt _ (by omega)
        have ek : (n' : Int) % (m : Int) = (k : Int) := by rw [← hk]; rfl
        have tk : (n' : Int).tmod (m : Int) = (k : Int) := by rw [← hk]; rfl
        obtain ⟨d, ed⟩ : ∃ d : Int, (n' : Int) / 7 = d := ⟨_, rfl⟩
        have td : (n' : Int).tdiv 7 = d := by rw [Int.tdiv_eq_ediv_of_nonneg (by omega)]; exact ed
        have hd0 : 0 ≤ d := by omega
        obtain ⟨l, el⟩ : ∃ l : Int, d % 99 = l := ⟨_, rfl⟩
        have tl : d.tmod 99 = l := by rw [Int.tmod_eq_emod_of_nonneg hd0]; exact el
        have hxr := colV_at hcv (show k < h.length by omega)
        have hov := other_val hxr.1 hxr.2 hd0
        rw [el] at hov
        have hl0 : 0 ≤ l ∧ l ≤ 98 := by omega
        obtain ⟨x, hxe⟩ : ∃ x, h.getD k 0 = x := ⟨_, rfl⟩
        rw [hxe] at hov hxr
        obtain ⟨u, eu⟩ : ∃ u : Int, (x + 1 + l) % 100 = u := ⟨_, rfl⟩
        have tu : (x + 1 + l).tmod 100 = u := by rw [Int.tmod_eq_emod_of_nonneg (by omega)]; exact eu
        rw [eu] at hov
        have wx1 : IntKind.i64.wrap (x + 1) = x + 1 := IntWalk.i64_in _ (by omega)
        have wx2 : IntKind.i64.wrap (x + 1 + l) = x + 1 + l := IntWalk.i64_in _ (by omega)
        -- what the model says
        have hne : u ≠ h.getD k 0 := by rw [hxe]; exact hov.1
        have hch : chk (h.set k u) ≠ (c1, c2) := by rw [← hck]; exact chk_one (by omega) hne (by rw [hxe]; omega) (by rw [hxe]; omega)
        have hcx : colV (h.set k u) = true := colV_set hcv k hov.2.1 hov.2.2
        have hmo := mend_one hcv (k := k) (by omega) hov.2.1 hov.2.2 hne
        rw [hck] at hmo
        obtain ⟨m1, m2, m3⟩ := md_some hcx (goV_rng hV) hch hmo.1
        rw [hmo.2] at m3
        have HM := hide fun (A9 : Option Addr) (c9 : Nat) (W : World) (hi : Ints W W.heap.size A9 m (h.set k u)) (hz : A9 = none → m = 0 ∧ c9 = 0) => implCM A9 m c9 _ (h.set k u) c1 c2 W hi (Nat.le_refl _) (by omega) hz (by omega) (by omega) (by omega) (by omega)
        rw [m1, m2, m3] at HM
        have HXE := hide hxe
        have HI3 := hide (HI.out.below HK3.out.below (Nat.le_refl _))
        have hs3 := HK3.out.below.size
        clear hV hcv hck m1 m2 m3 hkv hlen hne hch hcx hmo hov hxe hk
        go_wp2_with (at_builtin; refine wpList_append_ints rfl _ _ rfl w3.heap.size 0 0 w1.heap.size m cp _ _ [] h rfl (Own.lit0 w3 _ (Nat.le_refl _)) rfl (HI3.out.alloc hs3 _) (by omega) (by simp) ?_; intro A5 c5 w5 ho5 hg5 hat5; clear hat5; simp only [Nat.zero_add, List.nil_append] at ho5 ⊢; have HB5 := hide (below_app0 (Below.refl _ _) (Nat.le_refl _) hg5); have HK5 := hide (HK3.out.step HB5.out); obtain ⟨o, rfl, hob, hol⟩ := ho5.shape (by omega); have hcell := ho5.cell (g := o) (j := k) hkm; rw [HXE.out] at hcell; have hfree := ho5.free (g := o) (j := k); have hst := ho5.stored (g := o) (j := k) u; have HO5 := hide hst.1; have HBS := hide (HK5.out.below.grown hst.2 HK5.out.below.size (by intro q hq; injection hq with hq; omega)); have hgo : g < o := Nat.lt_of_lt_of_le HK3.out.lt hob; have hblk := HK5.out.hd.far (p := ⟨o, k, none⟩) (by simp; omega) (.int .i64 u); obtain ⟨z0, z1⟩ := (⟨by rw [hblk.cell]; rfl, by rw [hblk.cell]; rfl⟩ : (w5.setCell ⟨o, k, none⟩ (.int .i64 u)).cell? ⟨g, 0, none⟩ = some (.int .i64 c1) ∧ (w5.setCell ⟨o, k, none⟩ (.int .i64 u)).cell? ⟨g, 1, none⟩ = some (.int .i64 c2)); clear ho5 hg5 hst hblk)
        refine (HM.out _ _ _ HO5.out.ints HO5.out.cap0).mono ?_
        rintro e w6 ⟨A6, m6, c6, rfl, ho6, hb6⟩
        obtain rfl : m6 = m := ho6.1.symm.trans HI.out.1
        have HBB := hide (HBS.out.trans (hb6.mono HBS.out.size))
        have HO6 := hide ho6.ints
        have HI6 := hide (HI.out.below HBB.out (Nat.le_refl _))
        clear ho6 hb6 HM
        go_wp2_with fail
        refine (sameInts_yes A6 A1 m6 c6 m6 cp _ _ h h _ HO6.out HI6.out (by unfold maxLen; omega) (by unfold maxLen; omega) rfl).mono ?_
        rintro e w7 ⟨rfl, q, rfl⟩
        have HE := hide (below_drewN (HB1.out.trans (HBB.out.mono hs1)) q)
        go_wp2
        go_ret
        exact ⟨rfl, HE.out⟩
end Go.Proofs.Ytldbcenipahkfaa
