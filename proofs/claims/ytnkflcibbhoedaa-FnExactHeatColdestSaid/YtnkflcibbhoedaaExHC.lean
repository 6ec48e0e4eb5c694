/-
  The walk of FnExactHeatColdest.
-/
import Derived.Test.YtnkflcibbhoedaaLawH0
import Derived.Test.YtnkflcibbhoedaaExI2
namespace Go.Proofs.Ytnkflcibbhoedaa
open Go.RowKit
set_option linter.unusedVariables false
set_option maxRecDepth 100000

set_option maxHeartbeats 6400000 in
theorem exactHC_walk (A : Option Addr) (n c : Nat) (xs : List Int) (X : Option Addr) (m d : Nat) (zs : List Int) (b : Int) (w : World) (hi : Ints w w.heap.size A n xs) (hn : n ≤ c) (hc : c ≤ maxLen) (hrng : Rng (-9223372036854775808) 9223372036854775807 xs)
    (hx : Ints w w.heap.size X m zs) (hm : m ≤ d) (hd : d ≤ maxLen) (hrng2 : Rng (-9223372036854775808) 9223372036854775807 zs) (hb0 : -9223372036854775808 ≤ b) (hb1 : b ≤ 9223372036854775807) :
    Calls Try.prog 13 #[.slice A n c, .slice X m d, .int .i64 b] w fun e w' => e = .returned (.bool true) ∧ Below w.heap.size w w' := by
  have hn' : n ≤ 9223372036854775807 := by unfold maxLen at hc; omega
  have hm' : m ≤ 9223372036854775807 := by unfold maxLen at hd; omega
  by_cases hbig : 1048576 < n
  · go_enter Try.func13, Try.ntmps13
    go_wp2
    go_ret
    exact ⟨rfl, Below.refl _ _⟩
  by_cases hbig2 : 1048576 < m
  · go_enter Try.func13, Try.ntmps13
    go_wp2
    go_ret
    exact ⟨rfl, Below.refl _ _⟩
  have hn9 : n ≤ 1048576 := by omega
  have hm9 : m ≤ 1048576 := by omega
  have HX := hide hi
  have HY := hide hx
  obtain ⟨ws, hws⟩ : ∃ ws, coldS xs zs b = ws := ⟨_, rfl⟩
  have HL12 := hide (show ws.length ≤ 12 by rw [← hws]; exact coldS_le xs zs b)
  have HPI : Hid (∀ (A' X' : Option Addr) (c' d' B B' : Nat) (W : World), Ints W B A' n xs → B ≤ W.heap.size → Ints W B' X' m zs → B' ≤ W.heap.size → Calls Try.prog 24 #[.slice A' n c', .slice X' m d', .int .i64 b] W (LPost W ws)) := fun A' X' c' d' B B' W h hB h' hB' => by
    have h2 := implHC A' X' n c' m d' B B' xs zs b W h hB (by omega) h' hB' (by omega) hb1
    rwa [hws] at h2
  have HPS : Hid (∀ (A' X' : Option Addr) (c' d' B B' : Nat) (W : World), Ints W B A' n xs → B ≤ W.heap.size → Ints W B' X' m zs → B' ≤ W.heap.size → Calls Try.prog 25 #[.slice A' n c', .slice X' m d', .int .i64 b] W (LPost W ws)) := fun A' X' c' d' B B' W h hB h' hB' => by
    have h2 := specHC A' X' n c' m d' B B' xs zs b W h hB (by omega) h' hB' (by omega)
    rwa [hws] at h2
  have HTA : Hid (∀ (B : Nat) (W : World), Ints W B A n xs → B ≤ W.heap.size → Calls Try.prog 27 #[.slice A n c] W fun e w' => ∃ A2 c2, e = .returned (.slice A2 n c2) ∧ Own w' W.heap.size A2 n c2 xs ∧ Below W.heap.size W w') := fun B W h hB => toInts_any A n c B xs W h hB (by omega)
  have HTX : Hid (∀ (B : Nat) (W : World), Ints W B X m zs → B ≤ W.heap.size → Calls Try.prog 27 #[.slice X m d] W fun e w' => ∃ A2 c2, e = .returned (.slice A2 m c2) ∧ Own w' W.heap.size A2 m c2 zs ∧ Below W.heap.size W w') := fun B W h hB => toInts_any X m d B zs W h hB (by omega)
  clear hi hx hrng hrng2 hws
  go_enter Try.func13, Try.ntmps13
  go_wp2_with fail
  refine (HTA.out _ _ HX.out (Nat.le_refl _)).mono ?_
  rintro e w1 ⟨T1, d1, rfl, ho1, hb1⟩
  have HB1 := hide hb1
  have hs1 := hb1.size
  have HX1 := hide (HX.out.below hb1 (Nat.le_refl _))
  have HY1 := hide (HY.out.below hb1 (Nat.le_refl _))
  have HO1 := hide ho1.ints
  clear hb1 ho1 HX HY
  go_wp2_with fail
  refine (HTX.out _ _ HY1.out hs1).mono ?_
  rintro e w2 ⟨T2, d2, rfl, ho2, hb2⟩
  have HB2 := hide (HB1.out.trans (hb2.mono hs1))
  have hs2 := HB2.out.size
  have hs12 := hb2.size
  have HX2 := hide (HX1.out.below hb2 hs1)
  have HY2 := hide (HY1.out.below hb2 hs1)
  have HO12 := hide (HO1.out.below hb2 (Nat.le_refl _))
  have HO2 := hide ho2.ints
  clear hb2 ho2 HX1 HY1 HO1 HB1
  go_wp2_with fail
  refine (HPS.out T1 T2 d1 d2 _ _ _ HO12.out hs12 HO2.out (Nat.le_refl _)).mono ?_
  rintro e w3 ⟨A1, K, c1, rfl, ho3, hb3⟩
  have hK12 : K ≤ 12 := by rw [← ho3.1]; exact HL12.out
  have hKx : K ≤ maxLen := by unfold maxLen; omega
  have HKE := hide ho3.1
  have HB3 := hide (HB2.out.trans (hb3.mono hs2))
  have hs3 := HB3.out.size
  have HX3 := hide (HX2.out.below hb3 hs2)
  have HY3 := hide (HY2.out.below hb3 hs2)
  have HW3 := hide ho3.ints
  clear hb3 ho3 HX2 HY2 HO12 HO2 HB2 hs12 hs2 hs1 HPS
  go_wp2_with fail
  refine (HTA.out _ _ HX3.out hs3).mono ?_
  rintro e w4 ⟨A4, c4, rfl, ho4, hb4⟩
  have HB4 := hide (HB3.out.trans (hb4.mono hs3))
  have hs4 := HB4.out.size
  have hs34 := hb4.size
  have HX4 := hide (HX3.out.below hb4 hs3)
  have HY4 := hide (HY3.out.below hb4 hs3)
  have HW4 := hide (HW3.out.below hb4 (Nat.le_refl _))
  have HO4 := hide ho4
  clear hb4 ho4 HX3 HY3 HW3 HB3
  go_wp2_with fail
  refine (HTX.out _ _ HY4.out hs4).mono ?_
  rintro e w5 ⟨A6, c6, rfl, ho5, hb5⟩
  have HB5 := hide (HB4.out.trans (hb5.mono hs4))
  have hs5 := HB5.out.size
  have hs45 := hb5.size
  have HX5 := hide (HX4.out.below hb5 hs4)
  have HY5 := hide (HY4.out.below hb5 hs4)
  have HW5 := hide (HW4.out.below hb5 hs34)
  have HO45 := hide (HO4.out.below hb5)
  have HO5 := hide ho5
  have HL4 := hide (fun g e => (HO4.out.block g e).2)
  clear hb5 ho5 HX4 HY4 HW4 HO4 HB4
  go_wp2_with fail
  refine (HPI.out A4 A6 c4 c6 _ _ _ HO45.out.ints (Nat.le_refl _) HO5.out.ints (Nat.le_refl _)).mono ?_
  rintro e w6 ⟨A5, K5, c5, rfl, ho6, hb6⟩
  obtain rfl : K5 = K := by have h1 := ho6.1; have h2 := HKE.out; omega
  have HE : Hid (ZI w w6 w3.heap.size w3.heap.size w4.heap.size w5.heap.size A n xs X m zs A1 K5 ws A4 n c4 xs A6 m c6 zs A5 K5 c5 ws) :=
    { i := HX5.out.below hb6 hs5, i2 := HY5.out.below hb6 hs5, w1 := HW5.out.below hb6 (Nat.le_trans hs34 hs45), o4 := HO45.out.below hb6, o6 := HO5.out.below hb6, g5 := ho6, b := HB5.out.trans (hb6.mono hs5)
      le0 := hs3, le1 := Nat.le_refl _, le2 := hs34, le6 := hs45, le3 := hb6.size, l4 := HL4.out, l6 := fun g e => (HO5.out.block g e).2 }
  clear hb6 ho6 HX5 HY5 HW5 HO45 HO5 HB5 HL4 hs3 hs4 hs5 hs34 hs45
  generalize w3.heap.size = B1 at HE
  generalize w4.heap.size = B6 at HE
  generalize w5.heap.size = B5 at HE
  have hK9 : K5 ≤ 1000000000 := by omega
  go_wp2_with fail
  refine (eqI_yes A5 A1 K5 c5 c1 _ _ ws _ HE.out.g5.ints HE.out.w1 hKx).mono ?_
  rintro e w7 ⟨rfl, hb7⟩
  have HE7 := hide (HE.out.below hb7)
  clear HE hb7
  go_wp2_with fail
  refine (HTA.out _ _ HE7.out.i HE7.out.b.size).mono ?_
  rintro e w8 ⟨A8, c8, rfl, ho8, hb8⟩
  have HE8 := hide (HE7.out.below hb8)
  have HO8 := hide ho8.ints
  clear hb8 ho8 HE7
  go_wp2_with fail
  refine (eqI_yes A4 A8 n c4 c8 _ _ xs _ HE8.out.o4.ints HO8.out (by unfold maxLen; omega)).mono ?_
  rintro e w9 ⟨rfl, hb9⟩
  have HE9 := hide (HE8.out.below hb9)
  clear HE8 HO8 hb9
  go_wp2_with fail
  refine (HTX.out _ _ HE9.out.i2 HE9.out.b.size).mono ?_
  rintro e w10 ⟨A10, c10, rfl, ho10, hb10⟩
  have HE10 := hide (HE9.out.below hb10)
  have HO10 := hide ho10.ints
  clear hb10 ho10 HE9
  go_wp2_with fail
  refine (eqI_yes A6 A10 m c6 c10 _ _ zs _ HE10.out.o6.ints HO10.out (by unfold maxLen; omega)).mono ?_
  rintro e w11 ⟨rfl, hb11⟩
  have HE11 := hide (HE10.out.below hb11)
  clear HE10 HO10 hb11
  go_wp2_with fail
  refine (mark_any A4 n c4 B1 1 xs _ HE11.out.o4 (by omega) (by omega) (by omega)).mono ?_
  rintro e w12 ⟨rfl, ho12, hg12⟩
  have HE12 := hide (HE11.out.mark4 ho12 hg12)
  clear ho12 hg12 HE11
  obtain ⟨q1, hq1⟩ : ∃ q1, (1 : Int) + ((n : Nat) : Int) = q1 := ⟨_, rfl⟩
  have hq10 : 0 ≤ q1 := by omega
  have hq11 : q1 ≤ 3000000 := by omega
  rw [hq1]
  clear hq1
  go_wp2_with fail
  refine (mark_any A6 m c6 B6 q1 zs _ HE12.out.o6 hq10 (by omega) (by omega)).mono ?_
  rintro e w13 ⟨rfl, ho13, hg13⟩
  have HE13 := hide (HE12.out.mark6 ho13 hg13)
  clear ho13 hg13 HE12
  have hkn : ¬ q1 + (m : Int) < 0 := by omega
  generalize q1 + (m : Int) = q2 at hkn ⊢
  have hkd : decide (q2 < 0) = false := by simpa using hkn
  go_wp2_with fail
  refine (eqI_yes A5 A1 K5 c5 c1 _ _ ws _ HE13.out.g5.ints HE13.out.w1 hKx).mono ?_
  rintro e w14 ⟨rfl, hb14⟩
  have HE14 := hide (HE13.out.below hb14)
  clear HE13 hb14
  go_wp2_with fail
  refine (mark_any A5 K5 c5 B5 1 ws _ HE14.out.g5 (by omega) (by omega) hK9).mono ?_
  rintro e w15 ⟨rfl, ho15, hg15⟩
  have HE15 := hide (HE14.out.mark5 ho15 hg15)
  clear ho15 hg15 HE14
  have hmn : ¬ (1 : Int) + (K5 : Int) < 0 := by omega
  have HH : Hid (∀ W : World, Ints W W.heap.size A5 K5 (marks 1 K5) → Calls Try.prog 30 #[.slice A5 K5 c5, .int .i64 1] W fun e w' => e = .returned (.int .i64 (1 + (K5 : Int))) ∧ W = w') := fun W h => held_any A5 K5 c5 _ 1 W h (by omega) (by omega) hK9
  generalize (K5 : Int) = mm at hmn HH
  go_wp2_with fail
  refine (HH.out _ HE15.out.g5.ints).mono ?_
  rintro e w' ⟨rfl, rfl⟩
  go_wp2_with fail
  refine (HTA.out _ _ HE15.out.i HE15.out.b.size).mono ?_
  rintro e w16 ⟨A16, c16, rfl, ho16, hb16⟩
  have HE16 := hide (HE15.out.below hb16)
  have HO16 := hide ho16.ints
  clear hb16 ho16 HE15
  go_wp2_with fail
  refine (HTX.out _ _ HE16.out.i2 HE16.out.b.size).mono ?_
  rintro e w17 ⟨A17, c17, rfl, ho17, hb17⟩
  have HE17 := hide (HE16.out.below hb17)
  have HO167 := hide (HO16.out.below hb17 (Nat.le_refl _))
  have HO17 := hide ho17.ints
  have hs167 := hb17.size
  clear hb17 ho17 HE16 HO16
  go_wp2_with fail
  refine (HPI.out A16 A17 c16 c17 _ _ _ HO167.out hs167 HO17.out (Nat.le_refl _)).mono ?_
  rintro e w18 ⟨A18, K18, c18, rfl, ho18, hb18⟩
  obtain rfl : K18 = K5 := by have h1 := ho18.1; have h2 := HKE.out; omega
  have HE18 := hide (HE17.out.below hb18)
  have HO18 := hide ho18.ints
  clear hb18 ho18 HE17 HO167 HO17 hs167
  go_wp2_with fail
  refine (eqI_yes A18 A1 K18 c18 c1 _ _ ws _ HO18.out HE18.out.w1 hKx).mono ?_
  rintro e w19 ⟨rfl, hb19⟩
  have HE19 := hide (HE18.out.below hb19)
  clear HE18 HO18 hb19
  go_wp2_with fail
  refine (HH.out _ HE19.out.g5.ints).mono ?_
  rintro e w' ⟨rfl, rfl⟩
  go_wp2
  go_ret
  exact ⟨rfl, HE19.out.b⟩
end Go.Proofs.Ytnkflcibbhoedaa
