/-
  The walk of FnExactLayersWrite.
-/
import Derived.Test.YtapfbkjgmfmepaaExL1
import Derived.Test.YtapfbkjgmfmepaaSpecY4
import Derived.Test.YtapfbkjgmfmepaaImpL8
namespace Go.Proofs.Ytapfbkjgmfmepaa
open Go.RowKit
set_option linter.unusedVariables false
set_option maxRecDepth 100000

set_option maxHeartbeats 6400000 in
theorem exactLWrite_walk (A : Option Addr) (n c : Nat) (qs : List Lq) (X : Option Addr) (m d : Nat) (xs : List Int) (w : World) (hr : LyI w w.heap.size A n qs) (hn : n ≤ c) (hc : c ≤ maxLen) (hx : Ints w w.heap.size X (m * 2) xs) (hmd : m ≤ d) (hd : d ≤ maxLen) :
    Calls Try.prog 13 #[.slice A n c, .slice X m d] w fun e w' => e = .returned (.bool true) ∧ Below w.heap.size w w' := by
  have HS := hide (szPairSS_any A n c w.heap.size qs w hr hn hc)
  have HR := hide hr
  have hlen := hr.1
  clear hr
  go_enter Try.func13, Try.ntmps13
  go_wp2_with fail
  refine HS.out.mono ?_
  rintro e w1 ⟨r, rfl, hr0, hr1, hr2, rfl⟩
  by_cases h : r < 0
  · go_wp2
    go_ret
    exact ⟨rfl, Below.refl _ _⟩
  · obtain ⟨hn1, hmv⟩ := hr2 (by omega)
    have HL := hide (szL_words (show 0 ≤ r by omega) hmv)
    have HMV := hide (show mvL 1 qs ≤ 2097153 by omega)
    have hn9 : n ≤ 1000000000 := by omega
    clear hr2 hmv HS
    have hm0 : m ≤ 9223372036854775807 := by unfold maxLen at hd; omega
    have hpf := fl_unfl m xs hx.1
    have HX := hide (show PrI w w.heap.size X m (unfl xs) from ⟨hpf.2, by rw [hpf.1]; exact hx⟩)
    clear hx hpf
    generalize unfl xs = ps at HX
    have HSP := hide (szPair_var X m d r w hm0 (by omega) hr0)
    clear hmd hd hm0
    go_wp2_with fail
    refine HSP.out.mono ?_
    rintro e w1 ⟨⟨r2, rfl, q1, q2, q3⟩, rfl⟩
    clear HSP
    by_cases h2 : r2 < 0
    · go_wp2
      go_ret
      exact ⟨rfl, Below.refl _ _⟩
    have hmb : m ≤ 1048576 := by have := q3 (by omega); omega
    have hm9 : m ≤ 1000000000 := by omega
    clear q3
    have HMW := hide hmb
    obtain ⟨E, hE⟩ : ∃ E, wrL (lys qs) ps = E := ⟨_, rfl⟩
    obtain ⟨v, hv⟩ : ∃ v, wrV (lys qs) ps = v := ⟨_, rfl⟩
    have HSM := hide (show SmallL E by rw [← hE]; exact small_wrL _ _)
    have HEE := hide hE
    have HVV := hide hv
    clear hE hv
    go_wp2_with fail
    refine (toPairSS_any A n c w.heap.size qs _ HR.out (Nat.le_refl _) hn9 HL.out).mono ?_
    rintro e w2 ⟨A2, c2, qs2, rfl, ho2, hz2, hb2⟩
    have HB2 := hide hb2
    have hs2 := hb2.size
    have hc2 := ho2.cap
    have HZ2 := hide ho2.lyi
    have HE2 := hide hz2
    have HQ2 := hide (words_lys hz2 HL.out)
    have HR2 := hide (HR.out.below hb2 (Nat.le_refl _))
    have HX2 := hide (HX.out.below hb2 (Nat.le_refl _))
    clear HX
    clear ho2 hz2 hb2 HR
    go_wp2_with fail
    refine (toPairS_any X m d w.heap.size (fl ps) _ HX2.out.2 hs2 hm9).mono ?_
    rintro e w2' ⟨X2, d2, rfl, hxo2, hxb2⟩
    have HB2' := hide (HB2.out.trans (hxb2.mono hs2))
    have hs2' := HB2'.out.size
    have hs22 := hxb2.size
    have HZ2' := hide (HZ2.out.below hxb2 (Nat.le_refl _))
    have HR2' := hide (HR2.out.below hxb2 hs2)
    have HX2' := hide (HX2.out.below hxb2 hs2)
    have HXO2 := hide (show PrI _ _ X2 m ps from ⟨HX2.out.1, hxo2.ints⟩)
    clear hxo2 hxb2 HB2 HZ2 HR2 HX2 hs2
    go_wp2_with fail
    refine (specWrite A2 X2 n c2 m d2 _ qs2 ps _ (HZ2'.out.more hs22) HXO2.out (Nat.le_refl _) HQ2.out hn9 hm9).mono ?_
    rw [HE2.out, HEE.out, HVV.out]
    rintro e w3 ⟨A3, m3, c3, rs, rfl, ho3, hz3, hb3⟩
    have HB3 := hide (HB2'.out.trans (hb3.mono hs2'))
    have hs3 := HB3.out.size
    have HR3 := hide (HR2'.out.below hb3 hs2')
    have HX3 := hide (HX2'.out.below hb3 hs2')
    have HW3 := hide ho3.lyi
    have HZ3 := hide hz3
    have hm3 := ho3.len
    have hm3' : m3 ≤ 10 := by have h1 := HSM.out; rw [← HZ3.out] at h1; have := h1.len; omega
    clear ho3 hz3 hb3 HR2' HB2' HZ2' HE2 HQ2 hs2' HX2' HXO2 hs22 hc2
    go_wp2_with fail
    refine (toPairSS_any A n c w.heap.size qs _ HR3.out hs3 hn9 HL.out).mono ?_
    rintro e w4 ⟨A4, c4, ys, rfl, ho4, hz4, hb4⟩
    have HB4 := hide (HB3.out.trans (hb4.mono hs3))
    have hs4 := HB4.out.size
    have hs34 := hb4.size
    have HR4 := hide (HR3.out.below hb4 hs3)
    have HX4 := hide (HX3.out.below hb4 hs3)
    have HW4 := hide (HW3.out.below hb4 (Nat.le_refl _))
    have HO4 := hide ho4
    have HZ4 := hide hz4
    have HQ4 := hide (words_lys hz4 HL.out)
    have HMY := hide (show mvL 1 ys ≤ 1000000000 by rw [mvL_lys 1 hz4]; have := HMV.out; omega)
    have HMY2 := hide (show mvL 1 ys + ((m * 2 : Nat) : Int) ≤ 1000000000 by rw [mvL_lys 1 hz4]; have := HMV.out; have := HMW.out; omega)
    clear ho4 hz4 hb4 HR3 HX3 HB3 HW3
    go_wp2_with fail
    refine (toPairS_any X m d w.heap.size (fl ps) _ HX4.out.2 hs4 hm9).mono ?_
    rintro e w4' ⟨X6, d6, rfl, hxo4, hxb4⟩
    have HB4' := hide (HB4.out.trans (hxb4.mono hs4))
    have hs4' := HB4'.out.size
    have hs44 := hxb4.size
    have HR4' := hide (HR4.out.below hxb4 hs4)
    have HX4' := hide (HX4.out.below hxb4 hs4)
    have HW4' := hide (HW4.out.below hxb4 hs34)
    have HO4' := hide (HO4.out.below hxb4)
    have HLM := hide HO4.out.lim
    have HXO4 := hide (show PrR _ _ X6 m d6 ps from ⟨HX4.out.1, hxo4⟩)
    clear hxo4 hxb4 HB4 HR4 HX4 HW4 HO4 hs4
    go_wp2_with fail
    refine (implWrite A4 X6 n c4 m d6 _ ys ps _ HO4'.out.lyi HXO4.out.pri (Nat.le_refl _) HQ4.out hn9 hm9).mono ?_
    rw [HZ4.out, HEE.out, HVV.out]
    rintro e w5 ⟨A5, m5, c5, gs, rfl, ho5, hz5, hb5⟩
    have hm5 := ho5.len
    obtain rfl : m5 = m3 := by
      have h1 := lys_len (hz5.trans HZ3.out.symm)
      omega
    have hm59 : m5 ≤ 1000000000 := by omega
    have HG := hide (hz5.trans HZ3.out.symm)
    have HSG := hide (show SmallL (lys gs) by rw [hz5]; exact HSM.out)
    have HGL := hide HSG.out.words
    have HGM := hide HSG.out.mv
    have HE : Hid (LW w w5 w3.heap.size w3.heap.size w4.heap.size w4'.heap.size A n qs X m ps A3 m5 rs A4 n c4 ys X6 d6 A5 m5 c5 gs) :=
      { i := HR4'.out.below hb5 hs4', i2 := HX4'.out.below hb5 hs4', w1 := HW4'.out.below hb5 (Nat.le_trans hs34 hs44), o4 := HO4'.out.below hb5, l4 := HLM.out, o6 := HXO4.out.below hb5, l6 := fun b e => (HXO4.out.block b e).2
        g5 := ho5, b := HB4'.out.trans (hb5.mono hs4'), le0 := hs3, le1 := Nat.le_refl _, le2 := hs34, le6 := hs44, le3 := hb5.size }
    clear ho5 hz5 hb5 HB4' HR4' HX4' HW4' HO4' HXO4 HLM hs3 hs4' hs34 hs44 hm3 hm5 HSM
    generalize w3.heap.size = B1 at HE
    generalize w4.heap.size = B6 at HE
    generalize w4'.heap.size = B5 at HE
    go_wp2_with fail
    refine (eqPairSS_yes A5 A3 m5 c5 c3 _ _ gs rs _ HE.out.g5.lyi HE.out.w1 (Nat.le_refl _) (by have := HE.out.le1; have := HE.out.le2; have := HE.out.le6; have := HE.out.le3; omega) hm59 HGL.out HG.out).mono ?_
    rintro e w6 ⟨rfl, hb6⟩
    have HE6 := hide (HE.out.below hb6)
    clear hb6 HE
    go_wp2_with fail
    refine (toPairSS_any A n c w.heap.size qs _ HE6.out.i HE6.out.b.size hn9 HL.out).mono ?_
    rintro e w7 ⟨A7, c7, zs, rfl, ho7, hz7, hb7⟩
    have HE7 := hide (HE6.out.below hb7)
    have HO7 := hide ho7.lyi
    have HZ7 := hide (HZ4.out.trans hz7.symm)
    clear hb7 ho7 hz7 HE6
    go_wp2_with fail
    refine (eqPairSS_yes A4 A7 n c4 c7 _ _ ys zs _ HE7.out.o4.lyi HO7.out (Nat.le_refl _) (Nat.le_refl _) hn9 HQ4.out HZ7.out).mono ?_
    rintro e w8 ⟨rfl, hb8⟩
    have HE8 := hide (HE7.out.below hb8)
    clear hb8 HE7 HO7 HZ7
    go_wp2_with fail
    refine (toPairS_any X m d w.heap.size (fl ps) _ HE8.out.i2.2 HE8.out.b.size hm9).mono ?_
    rintro e w8' ⟨X8, d8, rfl, hxo8, hxb8⟩
    have HE8' := hide (HE8.out.below hxb8)
    have HXO8 := hide hxo8.ints
    clear hxo8 hxb8 HE8
    go_wp2_with fail
    refine (eqPairS_yes X6 X8 m d6 d8 _ _ (fl ps) _ HE8'.out.o6.pri.2 (Nat.le_refl _) HXO8.out (Nat.le_refl _) hm9).mono ?_
    rintro e w8b ⟨rfl, hb8⟩
    have HE8b := hide (HE8'.out.below hb8)
    clear HE8' HXO8 hb8
    go_wp2_with fail
    refine (markPairSS_any A4 n c4 B1 B6 1 ys _ HE8b.out.o4 HE8b.out.l4 (by have := HE8b.out.le1; have := HE8b.out.le2; have := HE8b.out.le6; have := HE8b.out.le3; omega) (by omega) HMY.out hn9).mono ?_
    rintro e w9 ⟨rfl, ho9, hc9⟩
    have HE9 := hide (HE8b.out.mark4 hc9)
    clear ho9 hc9 HE8b
    have hk9a := mvL_ge 1 ys
    have hk9b := HMY2.out
    have hk9c := HMY.out
    generalize mvL 1 ys = k9 at hk9a hk9b hk9c
    go_wp2_with fail
    refine (markPairS_any X6 m d6 B6 k9 (fl ps) _ HE9.out.o6.2 (by omega) hk9c hm9).mono ?_
    rintro e w9' ⟨rfl, ho9, hg9⟩
    have HE9x := hide (HE9.out.mark6 hg9)
    clear ho9 hg9 HE9
    have hkn : ¬ k9 + ((m * 2 : Nat) : Int) < 0 := by omega
    generalize k9 + ((m * 2 : Nat) : Int) = k9' at hkn hk9b ⊢
    clear hk9a hk9c
    go_wp2_with fail
    refine (eqPairSS_yes A5 A3 m5 c5 c3 _ _ gs rs _ HE9x.out.g5.lyi HE9x.out.w1 (Nat.le_refl _) (by have := HE9x.out.le2; have := HE9x.out.le3; omega) hm59 HGL.out HG.out).mono ?_
    rintro e w10 ⟨rfl, hb10⟩
    have HE10 := hide (HE9x.out.below hb10)
    clear hb10 HE9x
    go_wp2_with fail
    refine (markPairSS_any A5 m5 c5 B5 _ 1 gs _ HE10.out.g5 HE10.out.g5.lim HE10.out.le3 (by omega) HGM.out hm59).mono ?_
    rintro e w11 ⟨rfl, ho11, hc11⟩
    have HE11 := hide (HE10.out.mark5 ho11 hc11)
    clear ho11 hc11 HE10
    have hk11 := mvL_ge 1 gs
    have hkn11 : ¬ mvL 1 gs < 0 := by omega
    obtain ⟨kk, hkk⟩ : ∃ kk, mvL 1 gs = kk := ⟨_, rfl⟩
    have HKK := hide hkk
    simp only [hkk] at hk11 hkn11
    rw [hkk]
    clear hkk hk11
    go_wp2_with fail
    refine (heldPairSS_any A5 m5 c5 _ 1 gs _ HE11.out.g5.lyi (by omega) HGM.out hm59).mono ?_
    rw [HKK.out]
    rintro e w' ⟨rfl, rfl⟩
    go_wp2_with fail
    refine (toPairSS_any A n c w.heap.size qs _ HE11.out.i HE11.out.b.size hn9 HL.out).mono ?_
    rintro e w12 ⟨A12, c12, us, rfl, ho12, hz12, hb12⟩
    have HE12 := hide (HE11.out.below hb12)
    have HO12 := hide ho12.lyi
    have HZ12 := hide hz12
    have HQ12 := hide (words_lys hz12 HL.out)
    clear hb12 ho12 hz12 HE11
    go_wp2_with fail
    refine (toPairS_any X m d w.heap.size (fl ps) _ HE12.out.i2.2 HE12.out.b.size hm9).mono ?_
    rintro e w12' ⟨X12, d12, rfl, hxo12, hxb12⟩
    have HE12x := hide (HE12.out.below hxb12)
    have hs12 := hxb12.size
    have HO12x := hide ((HO12.out.below hxb12 (Nat.le_refl _)).more hs12)
    have HXO12 := hide (show PrI _ _ X12 m ps from ⟨HE12.out.i2.1, hxo12.ints⟩)
    clear hxo12 hxb12 HE12 HO12
    go_wp2_with fail
    refine (implWrite A12 X12 n c12 m d12 _ us ps _ HO12x.out HXO12.out (Nat.le_refl _) HQ12.out hn9 hm9).mono ?_
    rw [HZ12.out, HEE.out, HVV.out]
    rintro e w13 ⟨A13, m13, c13, hs, rfl, ho13, hz13, hb13⟩
    obtain rfl : m13 = m5 := by
      have h1 := lys_len (hz13.trans HZ3.out.symm)
      have h2 := ho13.len
      have h3 := HE12x.out.w1.1
      omega
    have HE13 := hide (HE12x.out.below hb13)
    have HO13 := hide ho13.lyi
    have HZ13 := hide (hz13.trans HZ3.out.symm)
    have HQ13 := hide (words_lys (hz13.trans HZ3.out.symm) (words_lys HG.out.symm HGL.out))
    clear ho13 hz13 hb13 HE12x HO12x HZ12 HXO12 hs12
    go_wp2_with fail
    refine (eqPairSS_yes A13 A3 m13 c13 c3 _ _ hs rs _ HO13.out HE13.out.w1 (Nat.le_refl _) (by have := HE13.out.le2; have := HE13.out.le3; omega) hm59 HQ13.out HZ13.out).mono ?_
    rintro e w14 ⟨rfl, hb14⟩
    have HE14 := hide (HE13.out.below hb14)
    clear hb14 HE13 HO13 HZ13
    go_wp2_with fail
    refine (heldPairSS_any A5 m13 c5 _ 1 gs _ HE14.out.g5.lyi (by omega) HGM.out hm59).mono ?_
    rw [HKK.out]
    rintro e w' ⟨rfl, rfl⟩
    go_wp2
    go_ret
    exact ⟨rfl, HE14.out.b⟩
end Go.Proofs.Ytapfbkjgmfmepaa
