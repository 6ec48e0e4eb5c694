/-
  The walk of FnColumnsTwo.
-/
import Derived.Test.YtldbcenipahkfaaDrawK2
import Derived.Test.YtldbcenipahkfaaSpecK3
import Derived.Test.YtldbcenipahkfaaInts
import Derived.Deep.Cut
namespace Go.Proofs.Ytldbcenipahkfaa
open Go.RowKit
set_option linter.unusedVariables false
set_option maxRecDepth 100000

set_option maxHeartbeats 6400000 in
theorem colTwo_walk (A : Option Addr) (n c : Nat) (bs : Nat → Int) (A' : Option Addr) (n' c' : Nat) (bs' : Nat → Int) (w : World) (hb : Bytes w w.heap.size A n bs) (hn : n ≤ c) (hc : c ≤ maxLen) (hb' : Bytes w w.heap.size A' n' bs') (hn' : n' ≤ c') (hc' : c' ≤ maxLen) :
    Calls Try.prog 5 #[.slice A n c, .slice A' n' c'] w fun e w' => e = .returned (.bool true) ∧ Below w.heap.size w w' := by
  by_cases hbig : 1048576 < n
  · go_enter Try.func5, Try.ntmps5
    go_wp2
    go_ret
    exact ⟨rfl, Below.refl _ _⟩
  · by_cases hbig' : 1048576 < n'
    · go_enter Try.func5, Try.ntmps5
      go_wp2
      go_ret
      exact ⟨rfl, Below.refl _ _⟩
    · go_enter Try.func5, Try.ntmps5
      go_wp2_with fail
      refine (drawKG_any A n c bs _ hb hn hc).mono ?_
      rintro e w1 ⟨A1, m, cp, h, c1, c2, rfl, hq1, hq2, hd, hm7, hcap⟩
      have HB1 := hide hd.below
      have HI := hide hd.ints
      have HCAP := hide hcap
      have hs1 := hd.below.size
      have hmc : m ≤ cp := hd.nc.1
      have hcm : cp ≤ 9223372036854775807 := by have := hd.nc.2; unfold maxLen at this; omega
      have HP1 := hide fun (W : World) (hB : Below w1.heap.size w1 W) => implCG A1 m cp _ h c1 c2 W (hd.ints.below hB (Nat.le_refl _)) hB.size (by omega)
      have HP2 := hide fun (W : World) (hB : Below w1.heap.size w1 W) => specCG A1 m cp _ h c1 c2 W (hd.ints.below hB (Nat.le_refl _)) hB.size (by omega)
      obtain ⟨v, hv⟩ : ∃ v, goV h (c1, c2) = v := ⟨_, rfl⟩
      rw [hv] at HP1 HP2
      have HV := hide hv
      obtain ⟨g, hg⟩ : ∃ g, w1.heap.size = g := ⟨_, rfl⟩
      have HK1 := hide ((Kp.refl w1).pushN g hg 26 #[.int .i64 c1, .int .i64 c2])
      obtain ⟨q0, q1⟩ := HK1.out.cb
      clear hb hd hv hcap
      go_wp2_with fail
      refine (HP1.out _ HK1.out.below).mono ?_
      rintro e w2 ⟨rfl, hb2⟩
      have HK2 := hide (HK1.out.step hb2)
      obtain ⟨r0, r1⟩ := HK2.out.cb
      clear hb2 HK1 HP1
      go_wp2_with fail
      refine (HP2.out _ HK2.out.below).mono ?_
      rintro e w3 ⟨rfl, hb3⟩
      have HK3 := hide (HK2.out.step hb3)
      obtain ⟨s0, s1⟩ := HK3.out.cb
      clear hb3 HK2 HP2 hg
      rcases v with _ | _
      · have HE := hide (HB1.out.trans (HK3.out.below.mono hs1))
        go_wp2
        go_ret
        exact ⟨rfl, HE.out⟩
      · have hV := HV.out
        obtain ⟨hcv, hck⟩ := goV_iff.1 hV
        have hlen : h.length = m := HI.out.1
        have hm1 : 1 ≤ m := by have := (colV_iff.1 hcv).2.1; omega
        have hm6 : m ≤ 6 := by have := (colV_iff.1 hcv).2.2; omega
        obtain ⟨a, ha⟩ : ∃ k, n' % m = k := ⟨_, rfl⟩
        have ham : a < m := by rw [← ha]; exact Nat.mod_lt _ (by omega)
        have ea : (n' : Int) % (m : Int) = (a : Int) := by rw [← ha]; rfl
        have ta : (n' : Int).tmod (m : Int) = (a : Int) := by rw [← ha]; rfl
        obtain ⟨d, hd⟩ : ∃ d : Nat, n' / 7 = d := ⟨_, rfl⟩
        have ed : (n' : Int) / 7 = (d : Int) := by omega
        have td : (n' : Int).tdiv 7 = (d : Int) := by rw [Int.tdiv_eq_ediv_of_nonneg (by omega)]; exact ed
        obtain ⟨b, hb⟩ : ∃ k, d % m = k := ⟨_, rfl⟩
        have hbm : b < m := by rw [← hb]; exact Nat.mod_lt _ (by omega)
        have eb : (d : Int) % (m : Int) = (b : Int) := by rw [← hb]; rfl
        have tb : (d : Int).tmod (m : Int) = (b : Int) := by rw [← hb]; rfl
        obtain ⟨l, el⟩ : ∃ l : Int, (n' : Int) % 99 = l := ⟨_, rfl⟩
        have tl : (n' : Int).tmod 99 = l := by rw [Int.tmod_eq_emod_of_nonneg (by omega)]; exact el
        obtain ⟨d3, ed3⟩ : ∃ d : Int, (n' : Int) / 3 = d := ⟨_, rfl⟩
        have td3 : (n' : Int).tdiv 3 = d3 := by rw [Int.tdiv_eq_ediv_of_nonneg (by omega)]; exact ed3
        have hd30 : 0 ≤ d3 := by omega
        obtain ⟨l3, el3⟩ : ∃ l : Int, d3 % 99 = l := ⟨_, rfl⟩
        have tl3 : d3.tmod 99 = l3 := by rw [Int.tmod_eq_emod_of_nonneg (by omega)]; exact el3
        have hl0 : 0 ≤ l ∧ l ≤ 98 := by omega
        have hl3 : 0 ≤ l3 ∧ l3 ≤ 98 := by omega
        have hxr := colV_at hcv (show a < h.length by omega)
        have hyr := colV_at hcv (show b < h.length by omega)
        have hov := other_val hxr.1 hxr.2 (show (0 : Int) ≤ (n' : Int) by omega)
        rw [el] at hov
        obtain ⟨x, hxe⟩ : ∃ x, h.getD a 0 = x := ⟨_, rfl⟩
        obtain ⟨y, hye⟩ : ∃ y, h.getD b 0 = y := ⟨_, rfl⟩
        rw [hxe] at hov hxr
        rw [hye] at hyr
        obtain ⟨u, eu⟩ : ∃ u : Int, (x + 1 + l) % 100 = u := ⟨_, rfl⟩
        have tu : (x + 1 + l).tmod 100 = u := by rw [Int.tmod_eq_emod_of_nonneg (by omega)]; exact eu
        rw [eu] at hov
        obtain ⟨v, ev⟩ : ∃ v : Int, (y + 1 + l3) % 100 = v := ⟨_, rfl⟩
        have tv : (y + 1 + l3).tmod 100 = v := by rw [Int.tmod_eq_emod_of_nonneg (by omega)]; exact ev
        have wx1 : IntKind.i64.wrap (x + 1) = x + 1 := IntWalk.i64_in _ (by omega)
        have wx2 : IntKind.i64.wrap (x + 1 + l) = x + 1 + l := IntWalk.i64_in _ (by omega)
        have wy1 : IntKind.i64.wrap (y + 1) = y + 1 := IntWalk.i64_in _ (by omega)
        have wy2 : IntKind.i64.wrap (y + 1 + l3) = y + 1 + l3 := IntWalk.i64_in _ (by omega)
        have hne : u ≠ h.getD a 0 := by rw [hxe]; exact hov.1
        obtain ⟨hg1, hg2⟩ := two_no (b := b) (u := v) hV (show a < h.length by omega) (show b < h.length by omega) hne hov.2.1 hov.2.2
        have HG1 : Hid (∀ (A9 : Option Addr) (c9 : Nat) (W : World), Ints W W.heap.size A9 m (h.set a u) → Calls Try.prog 19 #[.slice A9 m c9, .agg #[.int .i64 c1, .int .i64 c2]] W fun e w' => e = .returned (.bool false) ∧ Below W.heap.size W w') := fun A9 c9 W hi => by
          have h9 := implCG A9 m c9 _ (h.set a u) c1 c2 W hi (Nat.le_refl _) (by omega)
          rwa [hg1] at h9
        have HXE := hide hxe
        have HGD := hide (show a ≠ b → (h.set a u).getD b 0 = y from fun hab => by rw [getD_set_ne hab]; exact hye)
        have HG2 : Hid (a ≠ b → ∀ (A9 : Option Addr) (c9 : Nat) (W : World), Ints W W.heap.size A9 m ((h.set a u).set b v) → Calls Try.prog 19 #[.slice A9 m c9, .agg #[.int .i64 c1, .int .i64 c2]] W fun e w' => e = .returned (.bool false) ∧ Below W.heap.size W w') := fun hab A9 c9 W hi => by
          have h9 := implCG A9 m c9 _ ((h.set a u).set b v) c1 c2 W hi (Nat.le_refl _) (by omega)
          rwa [hg2 hab] at h9
        have HI3 := hide (HI.out.below HK3.out.below (Nat.le_refl _))
        clear hV hcv hck hlen hne hov hxe hye ha hd hb hg1 hg2 HI
        go_upto_region 12 with (at_builtin; refine wpList_append_ints rfl _ _ rfl (w3).heap.size 0 0 w1.heap.size m cp _ _ [] h rfl (Own.lit0 (w3) _ (Nat.le_refl _)) rfl (HI3.out.alloc HK3.out.below.size _) (by omega) (by simp) ?_; intro A5 c5 w5 ho5 hg5 hat5; clear hat5; simp only [Nat.zero_add, List.nil_append] at ho5 ⊢; have HB5 := hide (below_app0 (Below.refl _ _) (Nat.le_refl _) hg5); have HK5 := hide (HK3.out.step HB5.out); obtain ⟨o5, rfl, hob5, hol5⟩ := ho5.shape (by omega); have hcell := ho5.cell (g := o5) (j := a) ham; rw [HXE.out] at hcell; have hfree := ho5.free (g := o5) (j := a); have hst := ho5.stored (g := o5) (j := a) u; have HO5 := hide hst.1; have HBS := hide (HK5.out.below.grown hst.2 HK5.out.below.size (by intro q hq; injection hq with hq; have := HK3.out.below.size; omega)); have hgo : g < o5 := Nat.lt_of_lt_of_le HK3.out.lt hob5; have HKS : Hid (Kp w1 (w5.setCell ⟨o5, a, none⟩ (.int .i64 u)) [(g, 26, #[.int .i64 c1, .int .i64 c2])]) := ⟨fun p hp => by simp only [List.mem_cons, List.not_mem_nil, or_false] at hp; subst hp; exact ⟨HK5.out.hd.far (p := ⟨o5, a, none⟩) (by simp; omega) _, (HK5.out.blk _ (List.mem_cons_self ..)).2⟩, HBS.out⟩; clear ho5 hg5 hst HBS HK3 HB5 HK5)
        generalize w5.setCell ⟨o5, a, none⟩ (.int .i64 u) = W5 at HO5 HKS ⊢
        have HI5 := hide HO5.out.ints
        by_cases hab : b = a
        · have hab' : ((b : Int) != (a : Int)) = false := by simp; omega
          clear hab HG2 HGD
          go_wp2_with (at_builtin; refine wpList_append_ints rfl _ _ rfl (W5).heap.size 0 0 W5.heap.size m c5 _ _ [] (h.set a u) rfl (Own.lit0 (W5) _ (Nat.le_refl _)) rfl (HI5.out.alloc (Nat.le_refl _) _) (by omega) (by simp) ?_; intro A7 c7 w7 ho7 hg7 hat7; clear hat7; simp only [Nat.zero_add, List.nil_append] at ho7 ⊢; have HB7 := hide (below_app0 (Below.refl _ _) (Nat.le_refl _) hg7); have HK7 := hide (HKS.out.step HB7.out); obtain ⟨o7, rfl, hob7, hol7⟩ := ho7.shape (by omega); have HO7 := hide ho7.ints; have HI7 := hide ((HI5.out.below HB7.out (Nat.le_refl _)).more HB7.out.size); obtain ⟨z0, z1⟩ := HK7.out.cb; clear ho7 hg7)
          refine (HG1.out _ _ _ HI7.out).mono ?_
          rintro e w8 ⟨rfl, hb8⟩
          have HK9 := hide (HK7.out.step hb8)
          have HO9 := hide ((HO7.out.below hb8 (Nat.le_refl _)).more hb8.size)
          obtain ⟨y0, y1⟩ := HK9.out.cb
          clear hb8
          go_wp2_with fail
          refine (HG1.out _ _ _ HO9.out).mono ?_
          rintro e w10 ⟨rfl, hb10⟩
          have HE := hide (HB1.out.trans ((HK9.out.step hb10).below.mono hs1))
          clear hb10
          go_wp2
          go_ret
          exact ⟨rfl, HE.out⟩
        · have hab' : ((b : Int) != (a : Int)) = true := by simp; omega
          have HG2' := hide (HG2.out (fun e => hab e.symm))
          have HGD' := hide (HGD.out (fun e => hab e.symm))
          clear hab HG2 HGD
          go_wp2_with (at_builtin; refine wpList_append_ints rfl _ _ rfl (W5).heap.size 0 0 W5.heap.size m c5 _ _ [] (h.set a u) rfl (Own.lit0 (W5) _ (Nat.le_refl _)) rfl (HI5.out.alloc (Nat.le_refl _) _) (by omega) (by simp) ?_; intro A7 c7 w7 ho7 hg7 hat7; clear hat7; simp only [Nat.zero_add, List.nil_append] at ho7 ⊢; have HB7 := hide (below_app0 (Below.refl _ _) (Nat.le_refl _) hg7); have HK7 := hide (HKS.out.step HB7.out); obtain ⟨o7, rfl, hob7, hol7⟩ := ho7.shape (by omega); have hcell := ho7.cell (g := o7) (j := b) hbm; rw [HGD'.out] at hcell; have hfree := ho7.free (g := o7) (j := b); have hst := ho7.stored (g := o7) (j := b) v; have HBS := hide (HK7.out.below.grown hst.2 HK7.out.below.size (by intro q hq; injection hq with hq; have := HKS.out.below.size; omega)); have hgo7 : g < o7 := Nat.lt_of_lt_of_le HKS.out.lt hob7; have HK8 : Hid (Kp w1 (w7.setCell ⟨o7, b, none⟩ (.int .i64 v)) [(g, 26, #[.int .i64 c1, .int .i64 c2])]) := ⟨fun p hp => by simp only [List.mem_cons, List.not_mem_nil, or_false] at hp; subst hp; exact ⟨HK7.out.hd.far (p := ⟨o7, b, none⟩) (by simp; omega) _, (HK7.out.blk _ (List.mem_cons_self ..)).2⟩, HBS.out⟩; have HO7 := hide hst.1.ints; have HI7 := hide (((HI5.out.below HB7.out (Nat.le_refl _)).grown hst.2 HB7.out.size (by intro q hq; injection hq with hq; omega)).more (Nat.le_trans HB7.out.size hst.2.size)); obtain ⟨z0, z1⟩ := HK8.out.cb; clear ho7 hg7 hst HBS)
          refine (HG1.out _ _ _ HI7.out).mono ?_
          rintro e w8 ⟨rfl, hb8⟩
          have HK9 := hide (HK8.out.step hb8)
          have HO9 := hide ((HO7.out.below hb8 (Nat.le_refl _)).more hb8.size)
          obtain ⟨y0, y1⟩ := HK9.out.cb
          clear hb8
          go_wp2_with fail
          refine (HG2'.out _ _ _ HO9.out).mono ?_
          rintro e w10 ⟨rfl, hb10⟩
          have HE := hide (HB1.out.trans ((HK9.out.step hb10).below.mono hs1))
          clear hb10
          go_wp2
          go_ret
          exact ⟨rfl, HE.out⟩
end Go.Proofs.Ytldbcenipahkfaa
