/-
  The walk of FnExactLayersDiff.
-/
import Derived.Test.YtapfbkjgmfmepabExL1
import Derived.Test.YtapfbkjgmfmepabSpecY6
import Derived.Test.YtapfbkjgmfmepabImpL9
import Derived.Test.YtapfbkjgmfmepabExI2
namespace Go.Proofs.Ytapfbkjgmfmepab
open Go.RowKit
set_option linter.unusedVariables false
set_option maxRecDepth 100000

set_option maxHeartbeats 6400000 in
theorem exactLDiff_walk (A : Option Addr) (n c : Nat) (qs : List Lq) (a b : Int) (w : World) (hr : LyI w w.heap.size A n qs) (hn : n ≤ c) (hc : c ≤ maxLen) (i0 : -9223372036854775808 ≤ a) (i1 : a ≤ 9223372036854775807) (j0 : -9223372036854775808 ≤ b) (j1 : b ≤ 9223372036854775807) :
    Calls Try.prog 4 #[.slice A n c, .int .i64 a, .int .i64 b] w fun e w' => e = .returned (.bool true) ∧ Below w.heap.size w w' := by
  have HS := hide (szPairSS_any A n c w.heap.size qs w hr hn hc)
  have HR := hide hr
  have hlen := hr.1
  clear hr
  go_enter Try.func4, Try.ntmps4
  go_wp2_with fail
  refine HS.out.mono ?_
  rintro e w1 ⟨r, rfl, hr0, hr1, hr2, rfl⟩
  by_cases h : r < 0
  · go_wp2
    go_ret
    exact ⟨rfl, Below.refl _ _⟩
  · obtain ⟨hn1, hmv⟩ := hr2 (by omega)
    have HL := hide (szL_words (show 0 ≤ r by omega) hmv)
    have HMV := hide (show mvL 1 qs ≤ 1000000000 by omega)
    have hn9 : n ≤ 1000000000 := by omega
    clear hr2 hmv HS
    obtain ⟨E, hE⟩ : ∃ E, dfL (lys qs) a b = E := ⟨_, rfl⟩
    have hel : E.length ≤ 12 := by rw [← hE]; exact dfL_le _ _ _
    have HEE := hide hE
    clear hE
    go_wp2_with fail
    refine (toPairSS_any A n c w.heap.size qs _ HR.out (Nat.le_refl _) hn9 HL.out).mono ?_
    rintro e w2 ⟨A2, c2, qs2, rfl, ho2, hz2, hb2⟩
    have HB2 := hide hb2
    have hs2 := hb2.size
    have HZ2 := hide ho2.lyi
    have HE2 := hide hz2
    have HQ2 := hide (words_lys hz2 HL.out)
    have HR2 := hide (HR.out.below hb2 (Nat.le_refl _))
    clear ho2 hz2 hb2 HR
    go_wp2_with fail
    refine (specDiff A2 n c2 _ qs2 a b _ HZ2.out (Nat.le_refl _) HQ2.out hn9).mono ?_
    rw [HE2.out, HEE.out]
    rintro e w3 ⟨A3, m3, c3, rfl, ho3, hb3⟩
    have HB3 := hide (HB2.out.trans (hb3.mono hs2))
    have hs3 := HB3.out.size
    have HR3 := hide (HR2.out.below hb3 hs2)
    have HW3 := hide ho3.ints
    have hm3 := ho3.1
    clear ho3 hb3 HR2 HB2 HZ2 HE2 HQ2 hs2
    have hm39 : m3 ≤ 1000000000 := by omega
    have hm3x : m3 ≤ maxLen := by unfold maxLen; omega
    go_wp2_with fail
    refine (toPairSS_any A n c w.heap.size qs _ HR3.out hs3 hn9 HL.out).mono ?_
    rintro e w4 ⟨A4, c4, ys, rfl, ho4, hz4, hb4⟩
    have HB4 := hide (HB3.out.trans (hb4.mono hs3))
    have hs4 := HB4.out.size
    have hs34 := hb4.size
    have HR4 := hide (HR3.out.below hb4 hs3)
    have HW4 := hide (HW3.out.below hb4 (Nat.le_refl _))
    have HO4 := hide ho4
    have HZ4 := hide hz4
    have HQ4 := hide (words_lys hz4 HL.out)
    have HMY := hide (show mvL 1 ys ≤ 1000000000 by rw [mvL_lys 1 hz4]; exact HMV.out)
    clear ho4 hz4 hb4 HR3 HB3 HW3
    go_wp2_with fail
    refine (implDiff A4 n c4 _ ys a b _ HO4.out.lyi (Nat.le_refl _) HQ4.out hn9).mono ?_
    rw [HZ4.out, HEE.out]
    rintro e w5 ⟨A5, m5, c5, rfl, ho5, hb5⟩
    have hm5 := ho5.1
    obtain rfl : m5 = m3 := by omega
    have HE : Hid (KW w w5 w3.heap.size w3.heap.size w4.heap.size A n qs A3 m5 E A4 n c4 ys A5 m5 c5 E) :=
      { i := HR4.out.below hb5 hs4, w1 := HW4.out.below hb5 hs34, o4 := HO4.out.below hb5, l4 := HO4.out.lim
        g5 := ho5, b := HB4.out.trans (hb5.mono hs4), le0 := hs3, le1 := Nat.le_refl _, le2 := hs34, le3 := hb5.size }
    clear ho5 hb5 HB4 HR4 HW4 HO4 hs3 hs4 hs34 hm3 hm5
    generalize w3.heap.size = B1 at HE
    generalize w4.heap.size = B5 at HE
    go_wp2_with fail
    refine (eqI_yes A5 A3 m5 c5 c3 _ _ E _ HE.out.g5.ints HE.out.w1 hm3x).mono ?_
    rintro e w6 ⟨rfl, hb6⟩
    have HE6 := hide (HE.out.below hb6)
    clear hb6 HE
    go_wp2_with fail
    refine (toPairSS_any A n c w.heap.size qs _ HE6.out.i HE6.out.b.size hn9 HL.out).mono ?_
    rintro e w7 ⟨A7, c7, zs, rfl, ho7, hz7, hb7⟩
    have HE7 := hide (HE6.out.below hb7)
    have HO7 := hide ho7.lyi
    have HZ7 := hide (HZ4.out.trans hz7.symm)
    clear hb7 ho7 hz7 HE6
    go_wp2_with fail
    refine (eqPairSS_yes A4 A7 n c4 c7 _ _ ys zs _ HE7.out.o4.lyi HO7.out (Nat.le_refl _) (Nat.le_refl _) hn9 HQ4.out HZ7.out).mono ?_
    rintro e w8 ⟨rfl, hb8⟩
    have HE8 := hide (HE7.out.below hb8)
    clear hb8 HE7 HO7 HZ7
    go_wp2_with fail
    refine (markPairSS_any A4 n c4 B1 B5 1 ys _ HE8.out.o4 HE8.out.l4 (by have := HE8.out.le1; have := HE8.out.le2; have := HE8.out.le3; omega) (by omega) HMY.out hn9).mono ?_
    rintro e w9 ⟨rfl, ho9, hc9⟩
    have HE9 := hide (HE8.out.mark4 hc9)
    clear ho9 hc9 HE8
    have hk9a := mvL_ge 1 ys
    have hkn : ¬ mvL 1 ys < 0 := by omega
    generalize mvL 1 ys = k9 at hk9a hkn
    clear hk9a
    go_wp2_with fail
    refine (eqI_yes A5 A3 m5 c5 c3 _ _ E _ HE9.out.g5.ints HE9.out.w1 hm3x).mono ?_
    rintro e w10 ⟨rfl, hb10⟩
    have HE10 := hide (HE9.out.below hb10)
    clear hb10 HE9
    go_wp2_with fail
    refine (mark_any A5 m5 c5 B5 1 E _ HE10.out.g5 (by omega) (by omega) hm39).mono ?_
    rintro e w11 ⟨rfl, ho11, hg11⟩
    have HE11 := hide (HE10.out.mark5 ho11 hg11)
    clear ho11 hg11 HE10
    have hkn11 : ¬ (1 : Int) + (m5 : Int) < 0 := by omega
    go_wp2_with fail
    refine (held_any A5 m5 c5 _ 1 _ HE11.out.g5.ints (by omega) (by omega) hm39).mono ?_
    rintro e w' ⟨rfl, rfl⟩
    go_wp2_with fail
    refine (toPairSS_any A n c w.heap.size qs _ HE11.out.i HE11.out.b.size hn9 HL.out).mono ?_
    rintro e w12 ⟨A12, c12, us, rfl, ho12, hz12, hb12⟩
    have HE12 := hide (HE11.out.below hb12)
    have HO12 := hide ho12.lyi
    have HZ12 := hide hz12
    have HQ12 := hide (words_lys hz12 HL.out)
    clear hb12 ho12 hz12 HE11
    go_wp2_with fail
    refine (implDiff A12 n c12 _ us a b _ HO12.out (Nat.le_refl _) HQ12.out hn9).mono ?_
    rw [HZ12.out, HEE.out]
    rintro e w13 ⟨A13, m13, c13, rfl, ho13, hb13⟩
    obtain rfl : m13 = m5 := by
      have h1 := ho13.1
      have h2 := HE12.out.w1.1
      omega
    have HE13 := hide (HE12.out.below hb13)
    have HO13 := hide ho13.ints
    clear ho13 hb13 HE12 HO12 HZ12
    go_wp2_with fail
    refine (eqI_yes A13 A3 m13 c13 c3 _ _ E _ HO13.out HE13.out.w1 hm3x).mono ?_
    rintro e w14 ⟨rfl, hb14⟩
    have HE14 := hide (HE13.out.below hb14)
    clear hb14 HE13 HO13
    go_wp2_with fail
    refine (held_any A5 m13 c5 _ 1 _ HE14.out.g5.ints (by omega) (by omega) hm39).mono ?_
    rintro e w' ⟨rfl, rfl⟩
    go_wp2
    go_ret
    exact ⟨rfl, HE14.out.b⟩
end Go.Proofs.Ytapfbkjgmfmepab
