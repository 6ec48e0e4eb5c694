/-
  The walk of FnFillSame.
-/
import Derived.Test.YtldbcenipahkfaaDrawK2
import Derived.Test.YtldbcenipahkfaaSpecK3
import Derived.Test.YtldbcenipahkfaaInts
import Derived.Deep.Cut
namespace Go.Proofs.Ytldbcenipahkfaa
open Go.RowKit
set_option linter.unusedVariables false
set_option maxRecDepth 100000

set_option maxHeartbeats 6400000 in
theorem fillSame_walk (A : Option Addr) (n c : Nat) (bs : Nat → Int) (A' : Option Addr) (n' c' : Nat) (bs' : Nat → Int) (w : World) (hb : Bytes w w.heap.size A n bs) (hn : n ≤ c) (hc : c ≤ maxLen) (hb' : Bytes w w.heap.size A' n' bs') (hn' : n' ≤ c') (hc' : c' ≤ maxLen) :
    Calls Try.prog 11 #[.slice A n c, .slice A' n' c'] w fun e w' => e = .returned (.bool true) ∧ Below w.heap.size w w' := by
  by_cases hbig : 1048576 < n
  · go_enter Try.func11, Try.ntmps11
    go_wp2
    go_ret
    exact ⟨rfl, Below.refl _ _⟩
  · by_cases hbig' : 1048576 < n'
    · go_enter Try.func11, Try.ntmps11
      go_wp2
      go_ret
      exact ⟨rfl, Below.refl _ _⟩
    · go_enter Try.func11, Try.ntmps11
      go_wp2_with fail
      refine (drawKF_any A n c bs _ hb hn hc).mono ?_
      rintro e w1 ⟨A1, m, cp, h, a, b, c1, c2, rfl, hq1, hq2, ha, hbb, hd⟩
      have HB1 := hide hd.below
      have HI := hide hd.ints
      have hs1 := hd.below.size
      have hlen := hd.ints.1
      have hm7 := hd.num
      have HP1 := hide fun (W : World) (hB : Below w1.heap.size w1 W) => implCF A1 m cp _ h a b c1 c2 W (hd.ints.below hB (Nat.le_refl _)) hB.size (by omega) (by omega) (by omega) (by omega) (by omega)
      have HP2 := hide fun (W : World) (hB : Below w1.heap.size w1 W) => specCF A1 m cp _ h a b c1 c2 W (hd.ints.below hB (Nat.le_refl _)) hB.size (by omega)
      have hall := fill_all (xs := h) (c := (c1, c2)) (a := a) (b := b)
      rw [hlen] at hall
      have hno : fillV h a b (c1, c2) = false → fillL h a b (c1, c2) = [] := fun e => by
        unfold fillV at e
        unfold fillL
        split
        · rename_i h9
          rw [h9, Bool.true_and] at e
          rcases hf : fillF h a.toNat b.toNat (c1, c2) with _ | _
          · rfl
          · rw [hf] at e; cases e
        · rfl
      generalize hL : fillL h a b (c1, c2) = L at *
      obtain ⟨v, hv⟩ : ∃ v, fillV h a b (c1, c2) = v := ⟨_, rfl⟩
      rw [hv] at HP1 HP2 hall hno
      have HALL := hide hall
      have HNO := hide hno
      have HVE := hide hv
      have HLE := hide hL
      obtain ⟨g, hg⟩ : ∃ g, w1.heap.size = g := ⟨_, rfl⟩
      have HK1 := hide ((Kp.refl w1).pushN g hg 26 #[.int .i64 c1, .int .i64 c2])
      obtain ⟨q0, q1⟩ := HK1.out.cb
      clear hb hd hall hno hv hL
      go_wp2_with fail
      refine (HP1.out _ HK1.out.below).mono ?_
      rintro e w2 ⟨A2, m2, k2, rfl, ho2, hb2⟩
      have HK2 := hide (HK1.out.step hb2)
      obtain ⟨r0, r1⟩ := HK2.out.cb
      have HO2 := hide ho2.ints
      have HLN := hide ho2.1
      clear hb2 HK1 HP1 ho2
      go_wp2_with fail
      refine (HP2.out _ HK2.out.below).mono ?_
      rintro e w3 ⟨A3, m3, k3, rfl, ho3, hb3⟩
      obtain rfl : m3 = m2 := ho3.1.symm.trans HLN.out
      have HK3 := hide (HK2.out.step hb3)
      obtain ⟨s0, s1⟩ := HK3.out.cb
      have HO3 := hide ho3.ints
      have HX3 := hide (HO2.out.below hb3 (Nat.le_refl _))
      have HI3 := hide (HI.out.below HK3.out.below (Nat.le_refl _))
      have HS23 := hide hb3.size
      clear hb3 HK2 HP2 hg ho3 HO2
      rcases v with _ | _
      · have hL := HNO.out rfl
        rw [hL] at HX3 HO3 HLN
        obtain rfl : m3 = 0 := HLN.out.symm
        have HS := hide fun (q : Nat) => sameInts_yes A2 A3 0 k2 0 k3 _ _ [] [] (w3.drewN q) (HX3.out.drewN q) (HO3.out.drewN q) (by unfold maxLen; omega) (by unfold maxLen; omega) rfl
        have HE := hide fun (q : Nat) => below_drewN (HB1.out.trans (HK3.out.below.mono hs1)) q
        clear HALL hL
        go_wp2_with fail
        refine (HS.out 0).mono ?_
        rintro e w4 ⟨rfl, q4, rfl⟩
        rw [drewN0K]
        go_wp2_with fail
        refine (HS.out q4).mono ?_
        rintro e w5 ⟨rfl, q5, rfl⟩
        rw [World.drewN_drewN]
        go_wp2
        go_ret
        exact ⟨rfl, HE.out _⟩
      · obtain ⟨l1, l2, l3⟩ := HALL.out rfl
        obtain rfl : m3 = m := HLN.out.symm.trans l1
        have HG2 := hide l2
        have HD := hide l3
        have HS := hide fun (q : Nat) => sameInts_yes A2 A3 m3 k2 m3 k3 _ _ L L (w3.drewN q) (HX3.out.drewN q) (HO3.out.drewN q) (by unfold maxLen; omega) (by unfold maxLen; omega) rfl
        clear l1 l2 l3 HALL HNO hlen
        go_wp2_with fail
        refine (HS.out 0).mono ?_
        rintro e w4 ⟨rfl, q4, rfl⟩
        rw [drewN0K]
        have HK4 := hide (HK3.out.drewN q4)
        have HX4 := hide (HX3.out.drewN q4)
        have HI4 := hide (HI3.out.drewN q4)
        have HZ4 := hide (show w2.heap.size ≤ (w3.drewN q4).heap.size from HS23.out)
        clear HS HK3 HX3 HI3 HO3 s0 s1 HS23
        have hv := HVE.out
        have hw : fillW h a b (c1, c2) = true := by unfold fillV at hv; rw [Bool.and_eq_true] at hv; exact hv.1
        obtain ⟨hcv, hck, hal, hbl, hab⟩ := fillW_iff.1 hw
        rw [HI.out.1] at hal hbl
        obtain ⟨ka, rfl⟩ := Int.eq_ofNat_of_zero_le hal.1
        obtain ⟨kb, rfl⟩ := Int.eq_ofNat_of_zero_le hbl.1
        have hka : ka < m3 := by omega
        have hkb : kb < m3 := by omega
        have hm6 : m3 ≤ 6 := by have := (colV_iff.1 hcv).2.2; have := HI.out.1; omega
        have hkk : ka ≠ kb := fun e => hab (by rw [e])
        obtain ⟨u, eu⟩ : ∃ u : Int, (n' : Int) % 100 = u := ⟨_, rfl⟩
        have tu : (n' : Int).tmod 100 = u := by rw [Int.tmod_eq_emod_of_nonneg (by omega)]; exact eu
        obtain ⟨d, ed⟩ : ∃ d : Int, (n' : Int) / 7 = d := ⟨_, rfl⟩
        have td : (n' : Int).tdiv 7 = d := by rw [Int.tdiv_eq_ediv_of_nonneg (by omega)]; exact ed
        obtain ⟨v, ev⟩ : ∃ v : Int, d % 100 = v := ⟨_, rfl⟩
        have tv : d.tmod 100 = v := by rw [Int.tmod_eq_emod_of_nonneg (by omega)]; exact ev
        obtain ⟨f1, f2⟩ := fill_other hv (u := u) (v := v) (by omega) (by omega)
        rw [HLE.out] at f2
        have HF1 : Hid (∀ (A9 : Option Addr) (c9 : Nat) (W : World), Ints W W.heap.size A9 m3 ((h.set ka u).set kb v) → Calls Try.prog 27 #[.slice A9 m3 c9, .int .i64 ka, .int .i64 kb, .agg #[.int .i64 c1, .int .i64 c2]] W (RsPost W true L)) := fun A9 c9 W hi => by
          have h9 := implCF A9 m3 c9 _ ((h.set ka u).set kb v) ka kb c1 c2 W hi (Nat.le_refl _) (by omega) (by omega) (by omega) (by omega) (by omega)
          rwa [f1, f2] at h9
        clear hv hw hcv hck hal hbl hab f1 f2 HVE HLE ha hbb
        have hsz4 := HK4.out.below.size
        generalize hw4 : w3.drewN q4 = w4 at HK4 HX4 HI4 HZ4 hsz4 ⊢
        clear hw4
        go_upto_region 9 with (at_builtin; refine wpList_append_ints rfl _ _ rfl (w4).heap.size 0 0 w1.heap.size m3 cp _ _ [] h rfl (Own.lit0 (w4) _ (Nat.le_refl _)) rfl (HI4.out.alloc hsz4 _) (by omega) (by simp) ?_; intro A5 c5 w5 ho5 hg5 hat5; clear hat5; simp only [Nat.zero_add, List.nil_append] at ho5 ⊢; have HB5 := hide (below_app0 (Below.refl _ _) (Nat.le_refl _) hg5); have HK5 := hide (HK4.out.step HB5.out); obtain ⟨o5, rfl, hob5, hol5⟩ := ho5.shape (by omega); have HO5 := hide ho5; have HX5 := hide ((HX4.out.below HB5.out HZ4.out)); clear ho5 hg5)
        have hcell := HO5.out.cell (g := o5) (j := ka) hka
        have hfree := HO5.out.free (g := o5) (j := ka)
        have hst := HO5.out.stored (g := o5) (j := ka) u
        have hcell2 := hst.1.cell (g := o5) (j := kb) hkb
        have hfree2 := hst.1.free (g := o5) (j := kb)
        have hst2 := hst.1.stored (g := o5) (j := kb) v
        have HO6 := hide hst2.1
        have hgr := grown_trans' hst.2 hst2.2
        have HBS := hide (HK5.out.below.grown hgr HK5.out.below.size (by intro q hq; injection hq with hq; have := HK4.out.below.size; omega))
        have hgo : g < o5 := Nat.lt_of_lt_of_le HK4.out.lt hob5
        have HKS : Hid (Kp w1 ((w5.setCell ⟨o5, ka, none⟩ (.int .i64 u)).setCell ⟨o5, kb, none⟩ (.int .i64 v)) [(g, 26, #[.int .i64 c1, .int .i64 c2])]) :=
          ⟨fun p hp => by simp only [List.mem_cons, List.not_mem_nil, or_false] at hp; subst hp; exact ⟨(HK5.out.hd.far (p := ⟨o5, ka, none⟩) (by simp; omega) _).far (p := ⟨o5, kb, none⟩) (by simp; omega) _, (HK5.out.blk _ (List.mem_cons_self ..)).2⟩, HBS.out⟩
        have HX6 := hide (HX5.out.grown hgr (Nat.le_trans HZ4.out HB5.out.size) (by intro q hq; injection hq with hq; have := HZ4.out; omega))
        have HZ6 := hide (show w2.heap.size ≤ ((w5.setCell ⟨o5, ka, none⟩ (.int .i64 u)).setCell ⟨o5, kb, none⟩ (.int .i64 v)).heap.size from Nat.le_trans (Nat.le_trans HZ4.out HB5.out.size) hgr.size)
        obtain ⟨z0, z1⟩ := HKS.out.cb
        have HI6 := hide HO6.out.ints
        clear hst hst2 HBS HK4 HB5 HK5 HO5 HI4 hgr HX5 HX4
        go_wp2_with fail
        refine (HF1.out _ _ _ HI6.out).mono ?_
        rintro e w7 ⟨A7, m7, c7, rfl, ho7, hb7⟩
        obtain rfl : m7 = m3 := ho7.1.symm.trans HLN.out
        have HK7 := hide (HKS.out.step hb7)
        have HI7 := hide ho7.ints
        have HX7 := hide (HX6.out.below hb7 HZ6.out)
        have HE := hide fun (q : Nat) => below_drewN (HB1.out.trans (HK7.out.below.mono hs1)) q
        clear ho7 hb7 HKS
        go_wp2_with fail
        refine (sameInts_yes A7 A2 m7 c7 m7 k2 _ _ L L _ HI7.out HX7.out (by unfold maxLen; omega) (by unfold maxLen; omega) rfl).mono ?_
        rintro e w9 ⟨rfl, q, rfl⟩
        go_wp2
        go_ret
        exact ⟨rfl, HE.out q⟩
end Go.Proofs.Ytldbcenipahkfaa
