/-
  The walk of FnExactHeatUse.
-/
import Derived.Test.YtnkflcibbhoedaaLawH0
import Derived.Test.YtnkflcibbhoedaaExI2
import Derived.Test.YtnkflcibbhoedaaExW
namespace Go.Proofs.Ytnkflcibbhoedaa
open Go.RowKit
set_option linter.unusedVariables false
set_option maxRecDepth 100000

set_option maxHeartbeats 6400000 in
theorem exactHU_walk (A : Option Addr) (n c : Nat) (xs : List Int) (b : Int) (w : World) (hi : Ints w w.heap.size A n xs) (hn : n ≤ c) (hc : c ≤ maxLen) (hrng : Rng (-9223372036854775808) 9223372036854775807 xs) (hb0 : -9223372036854775808 ≤ b) (hb1 : b ≤ 9223372036854775807) :
    Calls Try.prog 11 #[.slice A n c, .int .i64 b] w fun e w' => e = .returned (.bool true) ∧ Below w.heap.size w w' := by
  have hn' : n ≤ 9223372036854775807 := by unfold maxLen at hc; omega
  by_cases hbig : 1048576 < n
  · go_enter Try.func11, Try.ntmps11
    go_wp2
    go_ret
    exact ⟨rfl, Below.refl _ _⟩
  · have HX := hide hi
    have hn9 : n ≤ 1000000000 := by omega
    have hn2 : n ≤ 17592186044416 := by omega
    have hnx : n ≤ maxLen := by unfold maxLen; omega
    obtain ⟨ws, hws⟩ : ∃ ws, useS xs b = ws := ⟨_, rfl⟩
    obtain ⟨v, hv⟩ : ∃ v, useV xs b = v := ⟨_, rfl⟩
    have hl18 : ws.length ≤ 12 := by rw [← hws]; exact useS_le xs b
    have HPI : Hid (∀ (A' : Option Addr) (c' : Nat) (W : World), Ints W W.heap.size A' n xs → Calls Try.prog 15 #[.slice A' n c', .int .i64 b] W (UsePost W v ws)) := fun A' c' W h => by
      have h2 := implHU A' n c' _ xs b W h (Nat.le_refl _) (by omega)
      rwa [hv, hws] at h2
    have HPS : Hid (∀ (A' : Option Addr) (c' : Nat) (W : World), Ints W W.heap.size A' n xs → Calls Try.prog 16 #[.slice A' n c', .int .i64 b] W (UsePost W v ws)) := fun A' c' W h => by
      have h2 := specHU A' n c' _ xs b W h (Nat.le_refl _) (by omega)
      rwa [hv, hws] at h2
    clear hi hws hrng hv
    go_enter Try.func11, Try.ntmps11
    go_wp2_with fail
    refine (toInts_any A n c _ xs _ HX.out (Nat.le_refl _) hn2).mono ?_
    rintro e w1 ⟨T1, d1, rfl, ho1, hb1⟩
    have HB1 := hide hb1
    have hs1 := hb1.size
    have HO1 := hide ho1.ints
    clear hb1 ho1
    go_wp2_with fail
    refine (HPS.out T1 d1 _ HO1.out).mono ?_
    rintro e w2 ⟨A1, m1, c1, rfl, ho2, hb2⟩
    have hm1 := ho2.1
    have hm12 : m1 ≤ 12 := by omega
    have hmx : m1 ≤ maxLen := by unfold maxLen; omega
    have HM1 := hide hm1
    have hs2 := hb2.size
    have HB2 := hide (HB1.out.trans (hb2.mono hs1))
    have HW2 := hide ho2.ints
    clear hb2 ho2 HO1 hm1
    go_wp2_with fail
    refine (toInts_any A n c _ xs _ (HX.out.below HB2.out (Nat.le_refl _)) HB2.out.size hn2).mono ?_
    rintro e w3 ⟨A4, c4, rfl, ho3, hb3⟩
    have hs3 := hb3.size
    have HB3 := hide (HB2.out.trans (hb3.mono HB2.out.size))
    have HW3 := hide (HW2.out.below hb3 (Nat.le_refl _))
    have HO3 := hide ho3
    clear hb3 ho3
    go_wp2_with fail
    refine (HPI.out A4 c4 _ HO3.out.ints).mono ?_
    rintro e w4 ⟨A5, m5, c5, rfl, ho4, hb4⟩
    obtain rfl : m5 = m1 := by have h1 := ho4.1; have h2 := HM1.out; omega
    have HE : Hid (ZX w w4 w2.heap.size w2.heap.size w3.heap.size A n xs A1 m5 ws 3 1 A4 n c4 xs 3 1 A5 m5 c5 ws) :=
      { i := HX.out.below (HB3.out.trans (hb4.mono HB3.out.size)) (Nat.le_refl _), w1 := HW3.out.below hb4 hs3, o4 := (HO3.out.below hb4).rec, g5 := ho4.rec, b := HB3.out.trans (hb4.mono HB3.out.size)
        le0 := HB2.out.size, le1 := Nat.le_refl _, le2 := hs3, le3 := hb4.size, lt4 := fun g e => (HO3.out.block g e).2 }
    clear hb4 ho4 HB1 HB2 HB3 HW2 HW3 HO3 HX hs1 hs2 hs3
    generalize w2.heap.size = B1 at HE
    generalize w3.heap.size = B5 at HE
    go_wp2_with fail
    refine (eqI_yes A5 A1 m5 c5 c1 _ _ ws _ HE.out.g5.own.ints HE.out.w1 hmx).mono ?_
    rintro e w5 ⟨rfl, hb5⟩
    have HE5 := hide (HE.out.below hb5)
    clear HE hb5
    go_wp2_with fail
    refine (toInts_any A n c _ xs _ HE5.out.i HE5.out.b.size hn2).mono ?_
    rintro e w6 ⟨A6, c6, rfl, ho6, hb6⟩
    have HE6 := hide (HE5.out.below hb6)
    have HO6 := hide ho6.ints
    clear hb6 ho6 HE5
    go_wp2_with fail
    refine (eqI_yes A4 A6 n c4 c6 _ _ xs _ HE6.out.o4.own.ints HO6.out hnx).mono ?_
    rintro e w7 ⟨rfl, hb7⟩
    have HE7 := hide (HE6.out.below hb7)
    clear hb7 HE6 HO6
    go_wp2_with fail
    refine (mark_any A4 n c4 B1 1 xs _ HE7.out.o4.own (by omega) (by omega) hn9).mono ?_
    rintro e w8 ⟨rfl, ho8, hg8⟩
    have HE8 := hide (HE7.out.mark4 ho8.rec hg8)
    clear ho8 hg8 HE7
    have hkd : decide ((1 : Int) + (n : Int) < 0) = false := by simp; omega
    have hkn : ¬ (1 : Int) + (n : Int) < 0 := by omega
    go_wp2_with fail
    refine (eqI_yes A5 A1 m5 c5 c1 _ _ ws _ HE8.out.g5.own.ints HE8.out.w1 hmx).mono ?_
    rintro e w9 ⟨rfl, hb9⟩
    have HE9 := hide (HE8.out.below hb9)
    clear HE8 hb9
    go_wp2_with fail
    refine (mark_any A5 m5 c5 B5 1 ws _ HE9.out.g5.own (by omega) (by omega) (by omega)).mono ?_
    rintro e w10 ⟨rfl, ho10, hg10⟩
    have HE10 := hide (HE9.out.mark5 ho10.rec hg10)
    clear ho10 hg10 HE9
    have hmn : ¬ (1 : Int) + (m5 : Int) < 0 := by omega
    go_wp2_with fail
    refine (held_any A5 m5 c5 _ 1 _ HE10.out.g5.own.ints (by omega) (by omega) (by omega)).mono ?_
    rintro e w' ⟨rfl, rfl⟩
    go_wp2_with fail
    refine (toInts_any A n c _ xs _ HE10.out.i HE10.out.b.size hn2).mono ?_
    rintro e w11 ⟨A11, c11, rfl, ho11, hb11⟩
    have HE11 := hide (HE10.out.below hb11)
    have HO11 := hide ho11.ints
    clear hb11 ho11 HE10
    go_wp2_with fail
    refine (HPI.out A11 c11 _ HO11.out).mono ?_
    rintro e w12 ⟨A12, m12, c12, rfl, ho12, hb12⟩
    obtain rfl : m12 = m5 := by have h1 := ho12.1; have h2 := HM1.out; omega
    have HE12 := hide (HE11.out.below hb12)
    have HO12 := hide ho12.ints
    clear hb12 ho12 HE11 HO11
    go_wp2_with fail
    refine (eqI_yes A12 A1 m12 c12 c1 _ _ ws _ HO12.out HE12.out.w1 hmx).mono ?_
    rintro e w13 ⟨rfl, hb13⟩
    have HE13 := hide (HE12.out.below hb13)
    clear HE12 HO12 hb13
    go_wp2_with fail
    refine (held_any A5 m12 c5 _ 1 _ HE13.out.g5.own.ints (by omega) (by omega) (by omega)).mono ?_
    rintro e w' ⟨rfl, rfl⟩
    go_wp2
    go_ret
    exact ⟨rfl, HE13.out.b⟩
end Go.Proofs.Ytnkflcibbhoedaa
