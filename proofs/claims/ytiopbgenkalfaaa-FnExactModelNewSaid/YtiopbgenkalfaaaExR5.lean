/-
  The walk of FnExactModelNew.
-/
import Derived.Test.YtiopbgenkalfaaaExR4
namespace Go.Proofs.Ytiopbgenkalfaaa
open Go.RowKit
set_option linter.unusedVariables false
set_option maxRecDepth 100000

set_option maxHeartbeats 12800000 in
theorem exactRNew_walk (A : Option Addr) (n c : Nat) (xs : List Int) (w : World) (hi : Ints w w.heap.size A n xs) (hn : n ≤ c) (hc : c ≤ maxLen) (hrng : Rng (-9223372036854775808) 9223372036854775807 xs) :
    Calls Try.prog 8 #[.slice A n c] w fun e w' => e = .returned (.bool true) ∧ Below w.heap.size w w' := by
  have hn' : n ≤ 9223372036854775807 := by unfold maxLen at hc; omega
  by_cases hbig : 1048576 < n
  · go_enter Try.func8, Try.ntmps8
    go_wp2
    go_ret
    exact ⟨rfl, Below.refl _ _⟩
  have HX := hide hi
  have hn9 : n ≤ 1000000000 := by omega
  have hn2 : n ≤ 17592186044416 := by omega
  have hnx : n ≤ maxLen := by unfold maxLen; omega
  clear hi hrng
  go_enter Try.func8, Try.ntmps8
  go_wp2_with fail
  refine (toInts_any A n c _ xs _ HX.out (Nat.le_refl _) hn2).mono ?_
  rintro e w1 ⟨T1, d1, rfl, ho1, hb1⟩
  have HB1 := hide hb1
  have hs1 := hb1.size
  have HO1 := hide ho1.ints
  clear hb1 ho1
  go_wp2_with fail
  refine (specNewM T1 n d1 w1.heap.size xs w1 HO1.out (Nat.le_refl _) hn9).mono ?_
  rintro e w2 ⟨q1, rfl, hm1, hx1, hq1, hb2⟩
  have hs2 := hb2.size
  have HQ1 := hide (And.intro hx1 hq1)
  have HM1 := hide hm1.mdi
  have HSM1 := hide (small_of hm1 hx1 hq1 newR_small)
  have HB2 := hide (HB1.out.trans (hb2.mono hs1))
  clear hb2 hm1 hx1 hq1 HO1 HB1
  unfold Mq.val
  go_upto_region 4 with (fail)
  obtain ⟨W2, hW2⟩ : ∃ W2, w2.alloc (.cells #[.slice q1.A q1.n q1.c, .slice q1.P q1.m q1.d] 27) = W2 := ⟨_, rfl⟩
  have HK3 := hide (show Blk W2 w2.heap.size 27 #[.slice q1.A q1.n q1.c, .slice q1.P q1.m q1.d] by rw [← hW2]; exact Blk.new w2 _ _)
  have HB3 := hide (show Below w.heap.size w W2 by rw [← hW2]; exact HB2.out.alloc HB2.out.size _)
  have HM3 := hide (show MdI W2 w2.heap.size q1 by rw [← hW2]; exact HM1.out.alloc (Nat.le_refl _) _)
  have hs3 : w2.heap.size < W2.heap.size := HK3.out.lt
  have hs02 := HB2.out.size
  rw [hW2]
  clear hW2 HM1 HB2
  generalize w2.heap.size = g3 at HK3 HM3 hs3 hs2 hs02 ⊢
  go_wp2_with fail
  refine (toInts_any A n c _ xs _ (HX.out.below HB3.out (Nat.le_refl _)) HB3.out.size hn2).mono ?_
  rintro e w4 ⟨A4, c4, rfl, ho4, hb4⟩
  have hs4 := hb4.size
  have HO4 := hide ho4
  have HB4 := hide (HB3.out.trans (hb4.mono HB3.out.size))
  have HK4 := hide (HK3.out.below hb4 HK3.out.lt)
  have HM4 := hide (HM3.out.below hb4 (by omega))
  clear ho4 hb4 HB3 HK3 HM3
  go_wp2_with fail
  refine (implNewM A4 n c4 w4.heap.size xs w4 HO4.out.ints (Nat.le_refl _) hn9 (fun e => by have h1 := own_nilc HO4.out e; have h2 := HO4.out.cap.1; omega)).mono ?_
  rintro e w5 ⟨q5, rfl, hm5, hx5, hq5, hb5⟩
  have HQ5 := hide (And.intro hx5 hq5)
  have HSM5 := hide (small_of hm5 hx5 hq5 newR_small)
  have hs5 := hb5.size
  have HE := hide (show EN w (w5.alloc (.cells #[.slice q5.A q5.n q5.c, .slice q5.P q5.m q5.d] 27)) g3 W2.heap.size w4.heap.size g3 w5.heap.size A n xs q1 A4 c4 xs q5 from
    { i := ((HX.out.below (HB4.out.trans (hb5.mono HB4.out.size)) (Nat.le_refl _))).alloc (by have := HB4.out.size; omega) _, w1 := (HM4.out.below hb5 (by omega)).alloc (by omega) _, k3 := (HK4.out.below hb5 HK4.out.lt).alloc _,
      o4 := (HO4.out.below hb5).alloc _, o5 := hm5.alloc _, k6 := Blk.new w5 _ _, b := (HB4.out.trans (hb5.mono HB4.out.size)).alloc (by have := HB4.out.size; omega) _,
      le0 := hs02, le1 := by omega, lt3 := hs3, le2 := hs4, le3 := by (simp; omega), l4 := fun g e => (HO4.out.block g e).2, g6 := hs5 })
  clear hm5 hx5 hq5 hb5 HB4 HK4 HM4 HO4
  unfold Mq.val
  go_upto_region 6 with (fail)
  generalize w5.alloc (.cells #[.slice q5.A q5.n q5.c, .slice q5.P q5.m q5.d] 27) = W5 at HE ⊢
  generalize w5.heap.size = g6 at HE hs5 ⊢
  generalize w4.heap.size = B5 at HE hs5 hs4
  generalize W2.heap.size = B4 at HE hs4 hs3
  obtain ⟨ok, hok⟩ : ∃ ok, (newR xs).isSome = ok := ⟨_, rfl⟩
  have HOKK := hide hok
  rw [hok]
  clear hok
  have hoo : (ok != ok) = false := by cases ok <;> rfl
  have HEQ := hide (And.intro (HQ5.out.1.trans HQ1.out.1.symm) (HQ5.out.2.trans HQ1.out.2.symm))
  have hm51 : q5.m ≤ 1000000000 := by have := HSM5.out.m; omega
  have hn51 : q5.n ≤ 1000000000 := by have := HSM5.out.n; omega
  obtain ⟨⟨x0, x1⟩, x2, x3⟩ := HE.out.cells
  go_wp2_with fail
  refine (eqMod_yes q5 q1 _ _ _ HE.out.o5.mdi HE.out.w1 (Nat.le_refl _) (by have := HE.out.le1; have := HE.out.le2; have := HE.out.le3; omega) hm51 HEQ.out.1 HEQ.out.2).mono ?_
  rintro e w6 ⟨rfl, hbb⟩
  have HE6 := hide (HE.out.below hbb)
  clear hbb HE x0 x1 x2 x3
  go_wp2_with fail
  refine (toInts_any A n c _ xs _ HE6.out.i HE6.out.b.size hn2).mono ?_
  rintro e w7 ⟨A7, c7, rfl, ho7, hb7⟩
  have HE7 := hide (HE6.out.below hb7)
  have HY7 := hide ho7.ints
  clear ho7 hb7 HE6
  go_wp2_with fail
  refine (eqIntS_yes A4 A7 n c4 n c7 w7.heap.size w7.heap.size xs xs w7 HE7.out.o4.ints HY7.out hnx hnx rfl).mono ?_
  rintro e w8 ⟨rfl, z8, rfl⟩
  have HE8 := hide (HE7.out.below (below_drewN (Below.refl _ _) z8))
  clear HE7 HY7
  go_wp2_with fail
  refine (mark_any A4 n c4 B4 1 xs _ HE8.out.o4 (by omega) (by omega) hn9).mono ?_
  rintro e w9 ⟨rfl, ho9, hg9⟩
  have HE9 := hide (HE8.out.mark4 ho9 hg9)
  clear ho9 hg9 HE8
  have hk9 : ¬ (1 : Int) + (n : Int) < 0 := by omega
  obtain ⟨⟨x0, x1⟩, x2, x3⟩ := HE9.out.cells
  go_wp2_with fail
  refine (eqMod_yes q5 q1 _ _ _ HE9.out.o5.mdi HE9.out.w1 (Nat.le_refl _) (by have := HE9.out.le1; have := HE9.out.le2; have := HE9.out.le3; omega) hm51 HEQ.out.1 HEQ.out.2).mono ?_
  rintro e w10 ⟨rfl, hbb⟩
  have HE10 := hide (HE9.out.below hbb)
  clear hbb HE9 x0 x1 x2 x3
  obtain ⟨⟨x0, x1⟩, x2, x3⟩ := HE10.out.cells
  have HMV := hide (HSM5.out.mv HE10.out.o5.mdi)
  go_wp2_with fail
  refine (markMod_any q5 B5 w10.heap.size 1 w10 HE10.out.o5 HE10.out.o5.lim HE10.out.le3 (by omega) HMV.out hn51 hm51).mono ?_
  rintro e w11 ⟨rfl, ho11, hc11, hk11⟩
  have HE11 := hide (HE10.out.mark5 ho11 ⟨rfl, rfl, rfl, rfl, rfl, rfl⟩ hc11 hk11)
  clear ho11 hc11 hk11 HE10 x0 x1 x2 x3
  obtain ⟨M, hM⟩ : ∃ M, mvN (1 + (q5.n : Int)) q5.qs = M := ⟨_, rfl⟩
  have hM0 : 0 ≤ M := by rw [← hM]; exact Int.le_trans (show (0 : Int) ≤ 1 + (q5.n : Int) by omega) (mvN_ge _ _)
  have HMM := hide hM
  rw [hM]
  clear hM
  have hMneg : ¬ M < 0 := by omega
  obtain ⟨⟨x0, x1⟩, x2, x3⟩ := HE11.out.cells
  go_wp2_with fail
  refine (heldMod_any q5 w11.heap.size 1 w11 HE11.out.o5.mdi.now HE11.out.o5.mdi.past (Nat.le_refl _) (by omega) HMV.out hn51 hm51).mono ?_
  rw [HMM.out]
  rintro e w12 ⟨rfl, hb12⟩
  have HE12 := hide (HE11.out.below hb12)
  clear hb12 HE11 x0 x1 x2 x3
  go_wp2_with fail
  refine (toInts_any A n c _ xs _ HE12.out.i HE12.out.b.size hn2).mono ?_
  rintro e w13 ⟨A13, c13, rfl, ho13, hb13⟩
  have HE13 := hide (HE12.out.below hb13)
  have HO13 := hide ho13
  clear ho13 hb13 HE12
  go_wp2_with fail
  refine (implNewM A13 n c13 w13.heap.size xs w13 HO13.out.ints (Nat.le_refl _) hn9 (fun e => by have h1 := own_nilc HO13.out e; have h2 := HO13.out.cap.1; omega)).mono ?_
  rintro e w14 ⟨q6, rfl, hm6, hx6, hq6, hb6⟩
  have HQ6 := hide (And.intro (hx6.trans HQ1.out.1.symm) (hq6.trans HQ1.out.2.symm))
  have HSM6 := hide (small_of hm6 hx6 hq6 newR_small)
  have HE14 := hide ((HE13.out.below hb6).below (below_new w14 (.cells #[.slice q6.A q6.n q6.c, .slice q6.P q6.m q6.d] 27)))
  have HM6 := hide (hm6.mdi.alloc (Nat.le_refl _) (.cells #[.slice q6.A q6.n q6.c, .slice q6.P q6.m q6.d] 27))
  have HK6 := hide (Blk.new w14 27 #[.slice q6.A q6.n q6.c, .slice q6.P q6.m q6.d])
  clear hm6 hx6 hq6 hb6 HE13 HO13
  unfold Mq.val
  rw [HOKK.out]
  go_upto_region 23 with (fail)
  have hs15 : w14.heap.size ≤ (w14.alloc (.cells #[.slice q6.A q6.n q6.c, .slice q6.P q6.m q6.d] 27)).heap.size := by simp
  generalize w14.alloc (.cells #[.slice q6.A q6.n q6.c, .slice q6.P q6.m q6.d] 27) = w15 at HE14 HM6 HK6 hs15 ⊢
  generalize w14.heap.size = g11 at HM6 HK6 hs15 ⊢
  obtain ⟨⟨x0, x1⟩, x2, x3⟩ := HE14.out.cells
  obtain ⟨y0, y1⟩ := mod_box (q := q6) HK6.out
  go_wp2_with fail
  refine (eqMod_yes q6 q1 g11 _ _ HM6.out HE14.out.w1 hs15 (by have := HE14.out.le1; have := HE14.out.le2; have := HE14.out.le3; omega) (by have := HSM6.out.m; omega) HQ6.out.1 HQ6.out.2).mono ?_
  rintro e w16 ⟨rfl, hb16⟩
  have HE16 := hide (HE14.out.below hb16)
  clear hb16 HE14 HM6 HK6 x0 x1 x2 x3 y0 y1
  obtain ⟨⟨x0, x1⟩, x2, x3⟩ := HE16.out.cells
  go_wp2_with fail
  refine (heldMod_any q5 w16.heap.size 1 w16 HE16.out.o5.mdi.now HE16.out.o5.mdi.past (Nat.le_refl _) (by omega) HMV.out hn51 hm51).mono ?_
  rw [HMM.out]
  rintro e w17 ⟨rfl, hb17⟩
  have HB17 := hide (HE16.out.below hb17).b
  clear hb17 HE16 x0 x1 x2 x3
  go_wp2
  go_ret
  exact ⟨rfl, HB17.out⟩
end Go.Proofs.Ytiopbgenkalfaaa
