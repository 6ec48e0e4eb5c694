/-
  The walk of FnExactColumnsMend.
-/
import Derived.Test.YtldbcenipahkfaaExK0
namespace Go.Proofs.Ytldbcenipahkfaa
open Go.RowKit
set_option linter.unusedVariables false
set_option maxRecDepth 100000

theorem mendL_le {xs : List Int} {c : Int × Int} : (mendL xs c).length ≤ 6 := by
  unfold mendL
  split
  · rename_i h
    have h6 := (colV_iff.1 h.1).2.2
    split
    · exact h6
    · split
      · rw [List.length_set]; exact h6
      · simp
  · simp

set_option maxHeartbeats 12800000 in
theorem exactKMend_walk (A : Option Addr) (n c : Nat) (xs : List Int) (c1 c2 : Int) (w : World) (hi : Ints w w.heap.size A n xs) (hn : n ≤ c) (hc : c ≤ maxLen) (hrng : Rng (-9223372036854775808) 9223372036854775807 xs) (hd0 : -9223372036854775808 ≤ c1) (hd1 : c1 ≤ 9223372036854775807) (he0 : -9223372036854775808 ≤ c2) (he1 : c2 ≤ 9223372036854775807) :
    Calls Try.prog 14 #[.slice A n c, .agg #[.int .i64 c1, .int .i64 c2]] w fun e w' => e = .returned (.bool true) ∧ Below w.heap.size w w' := by
  have hn' : n ≤ 9223372036854775807 := by unfold maxLen at hc; omega
  have HBX := hide ((Below.refl w.heap.size w).alloc (Nat.le_refl _) (.cells #[.int .i64 c1, .int .i64 c2] 44))
  by_cases hbig : 1048576 < n
  · go_enter Try.func14, Try.ntmps14
    go_wp2
    go_ret
    exact ⟨rfl, HBX.out⟩
  · have hn9 : n ≤ 1000000000 := by omega
    have hn2 : n ≤ 17592186044416 := by omega
    have hnx : n ≤ maxLen := by unfold maxLen; omega
    obtain ⟨ws, hws⟩ : ∃ ws, mendL xs (c1, c2) = ws := ⟨_, rfl⟩
    obtain ⟨v, hv⟩ : ∃ v, mendV xs (c1, c2) = v := ⟨_, rfl⟩
    obtain ⟨i, hio⟩ : ∃ i, mendI xs (c1, c2) = i := ⟨_, rfl⟩
    have hl6 : ws.length ≤ 6 := by rw [← hws]; exact mendL_le
    have HPI : Hid (∀ (A' : Option Addr) (c' : Nat) (W : World), Ints W W.heap.size A' n xs → (A' = none → n = 0 ∧ c' = 0) → Calls Try.prog 23 #[.slice A' n c', .agg #[.int .i64 c1, .int .i64 c2]] W (MdPost W v i ws)) := fun A' c' W h hz => by
      have h2 := implCM A' n c' _ xs c1 c2 W h (Nat.le_refl _) (by omega) hz hd0 hd1 he0 he1
      rwa [hv, hio, hws] at h2
    have HPS : Hid (∀ (A' : Option Addr) (c' : Nat) (W : World), Ints W W.heap.size A' n xs → Calls Try.prog 24 #[.slice A' n c', .agg #[.int .i64 c1, .int .i64 c2]] W (MdPost W v i ws)) := fun A' c' W h => by
      have h2 := specCM A' n c' _ xs c1 c2 W h (Nat.le_refl _) (by omega)
      rwa [hv, hio, hws] at h2
    obtain ⟨g, hg⟩ : ∃ g, w.heap.size = g := ⟨_, rfl⟩
    have hbox : ∀ W : World, Below (w.alloc (.cells #[.int .i64 c1, .int .i64 c2] 44)).heap.size (w.alloc (.cells #[.int .i64 c1, .int .i64 c2] 44)) W → W.cell? ⟨g, 0, none⟩ = some (.int .i64 c1) ∧ W.cell? ⟨g, 1, none⟩ = some (.int .i64 c2) := fun W h => by rw [← hg]; exact box_cells h
    have hi0 := (hi.alloc (Nat.le_refl _) (.cells #[.int .i64 c1, .int .i64 c2] 44)).more (B' := (w.alloc (.cells #[.int .i64 c1, .int .i64 c2] 44)).heap.size) (by simp)
    clear hi hws hrng hv hio
    go_enter Try.func14, Try.ntmps14
    go_wp2_with fail
    try rw [hg]
    have HW0 := HBX
    generalize w.alloc (.cells #[.int .i64 c1, .int .i64 c2] 44) = w0 at HW0 hbox hi0 ⊢
    have HBOX := hide hbox
    have HI0 := hide hi0
    have HT : Hid (∀ W : World, Below w0.heap.size w0 W → Calls Try.prog 29 #[.slice A n c] W fun e w' => ∃ A2 c2, e = .returned (.slice A2 n c2) ∧ Own w' W.heap.size A2 n c2 xs ∧ Below W.heap.size W w') := fun W hb => toInts_any A n c _ xs W (hi0.below hb (Nat.le_refl _)) hb.size hn2
    have HK0 := hide (Kp.refl w0).drew
    clear hbox hi0 HBX hg
    go_region_held3 (fun W => W.cell? ⟨g, 0, none⟩ = some (.int .i64 c1) ∧ W.cell? ⟨g, 1, none⟩ = some (.int .i64 c2))
      (first | (exact HBOX.out _ HK0.out.below) | (exact HBOX.out _ HK1.out.below) | (exact HBOX.out _ HK2.out.below) | (exact HBOX.out _ HK3.out.below))
      ((first
        | (go_at_call 29; (with_reducible refine (Kp.callo HK0 (HT.out _ HK0.out.below)).mono ?_); rintro e w1 ⟨T1, d1, rfl, HK1, HO1, HI1⟩)
        | (go_at_call 32; (with_reducible refine (Kp.calli HK1 HI1 (toCheck_any c1 c2 _)).mono ?_); rintro e w2 ⟨rfl, HK2, HI2⟩)
        | (go_at_call 24; (with_reducible refine (HPS.out _ _ _ HI2.out).mono ?_); rintro e w3 ⟨A1, m1, k1, rfl, ho3, hb3⟩; have HK3 := hide (HK2.out.step hb3); have HW3 := hide ho3.ints; have HM1 := hide ho3.1; clear ho3 hb3)))
    all_goals
      clear HK0 HK1 HO1 HI1 HK2 HI2
      have hm6 : m1 ≤ 6 := by have := HM1.out; omega
      have hmx : m1 ≤ maxLen := by unfold maxLen; omega
      go_wp2_with fail
      refine (HT.out _ HK3.out.below).mono ?_
      rintro e w4 ⟨A4, c4, rfl, ho4, hb4⟩
      have HK4 := hide (HK3.out.step hb4)
      have HW4 := hide (HW3.out.below hb4 (Nat.le_refl _))
      have hs34 := hb4.size
      have HO4 := hide ho4
      obtain ⟨q0, q1⟩ := HBOX.out _ HK4.out.below
      clear hb4 ho4
      go_wp2_with fail
      refine (toCheck_any c1 c2 _).mono ?_
      rintro e w5 ⟨rfl, hb5⟩
      have HK5 := hide (HK4.out.step hb5)
      have HW5 := hide (HW4.out.below hb5 hs34)
      have HO5 := hide (HO4.out.below hb5)
      have hs45 := hb5.size
      have hlt4 : ∀ q, (Value.slice A4 n c4).ownBlock = some q → q < w5.heap.size := fun q e => Nat.lt_of_lt_of_le (HO4.out.block q e).2 hs45
      have HLT := hide hlt4
      clear hb5 hlt4
      go_wp2_with fail
      refine (HPI.out A4 c4 _ HO5.out.ints HO5.out.cap00).mono ?_
      rintro e w6 ⟨A5, m5, c5, rfl, ho6, hb6⟩
      obtain rfl : m5 = m1 := by have h1 := ho6.1; have h2 := HM1.out; omega
      have HE : Hid (ZX w0 w6 w3.heap.size w3.heap.size w5.heap.size A n xs A1 m5 ws 3 1 A4 n c4 xs 3 1 A5 m5 c5 ws) :=
        { i := HI0.out.below (HK5.out.below.trans (hb6.mono HK5.out.below.size)) (Nat.le_refl _), w1 := HW5.out.below hb6 (Nat.le_trans hs34 hs45), o4 := (HO5.out.below hb6).rec, g5 := ho6.rec, b := HK5.out.below.trans (hb6.mono HK5.out.below.size)
          le0 := HK3.out.below.size, le1 := Nat.le_refl _, le2 := Nat.le_trans hs34 hs45, le3 := hb6.size, lt4 := HLT.out }
      clear hb6 ho6 HK3 HK4 HK5 HW3 HW4 HW5 HO4 HO5 HLT hs34 hs45
      generalize w3.heap.size = B1 at HE
      generalize w5.heap.size = B5 at HE
      go_wp2_with fail
      refine (eqI_yes A5 A1 m5 c5 k1 _ _ ws _ HE.out.g5.own.ints HE.out.w1 hmx).mono ?_
      rintro e w7 ⟨rfl, hb7⟩
      have HE7 := hide (HE.out.below hb7)
      clear HE hb7
      go_wp2_with fail
      refine (toInts_any A n c _ xs _ HE7.out.i HE7.out.b.size hn2).mono ?_
      rintro e w8 ⟨A8, c8, rfl, ho8, hb8⟩
      have HE8 := hide (HE7.out.below hb8)
      have HO8 := hide ho8.ints
      clear hb8 ho8 HE7
      go_wp2_with fail
      refine (eqI_yes A4 A8 n c4 c8 _ _ xs _ HE8.out.o4.own.ints HO8.out hnx).mono ?_
      rintro e w9 ⟨rfl, hb9⟩
      have HE9 := hide (HE8.out.below hb9)
      clear hb9 HE8 HO8
      go_wp2_with fail
      refine (mark_any A4 n c4 B1 1 xs _ HE9.out.o4.own (by omega) (by omega) hn9).mono ?_
      rintro e w10 ⟨rfl, ho10, hg10⟩
      have HE10 := hide (HE9.out.mark4 ho10.rec hg10)
      clear ho10 hg10 HE9
      have hkd : decide ((1 : Int) + (n : Int) < 0) = false := by simp; omega
      have hkn : ¬ (1 : Int) + (n : Int) < 0 := by omega
      go_wp2_with fail
      refine (eqI_yes A5 A1 m5 c5 k1 _ _ ws _ HE10.out.g5.own.ints HE10.out.w1 hmx).mono ?_
      rintro e w11 ⟨rfl, hb11⟩
      have HE11 := hide (HE10.out.below hb11)
      clear HE10 hb11
      go_wp2_with fail
      refine (mark_any A5 m5 c5 B5 1 ws _ HE11.out.g5.own (by omega) (by omega) (by omega)).mono ?_
      rintro e w12 ⟨rfl, ho12, hg12⟩
      have HE12 := hide (HE11.out.mark5 ho12.rec hg12)
      clear ho12 hg12 HE11
      have hmn : ¬ (1 : Int) + (m5 : Int) < 0 := by omega
      go_wp2_with fail
      refine (held_any A5 m5 c5 _ 1 _ HE12.out.g5.own.ints (by omega) (by omega) (by omega)).mono ?_
      rintro e w' ⟨rfl, rfl⟩
      have HED := hide (HE12.out.drew)
      clear HE12
      go_wp2_with fail
      go_region_held3 (fun W => W.cell? ⟨g, 0, none⟩ = some (.int .i64 c1) ∧ W.cell? ⟨g, 1, none⟩ = some (.int .i64 c2))
        (first | (exact HBOX.out _ HED.out.b) | (exact HBOX.out _ HE13.out.b) | (exact HBOX.out _ HE14.out.b) | (exact HBOX.out _ HE15.out.b))
        ((first
          | (go_at_call 29; (with_reducible refine (HT.out _ HED.out.b).mono ?_); rintro e w13 ⟨A13, c13, rfl, ho13, hb13⟩; have HE13 := hide (HED.out.below hb13); have HO13 := hide ho13; clear ho13 hb13)
          | (go_at_call 32; (with_reducible refine (toCheck_any c1 c2 _).mono ?_); rintro e w14 ⟨rfl, hb14⟩; have HE14 := hide (HE13.out.below hb14); have HO14 := hide (HO13.out.below hb14); clear hb14)
          | (go_at_call 23; (with_reducible refine (HPI.out A13 c13 _ HO14.out.ints HO14.out.cap00).mono ?_); rintro e w15 ⟨A15, m15, c15, rfl, ho15, hb15⟩; have HE15 := hide (HE14.out.below hb15); have HO15 := hide ho15.ints; have HM15 := hide ho15.1; clear ho15 hb15)))
      all_goals
        obtain rfl : m15 = m5 := by have h1 := HM15.out; have h2 := HM1.out; omega
        clear HED HE13 HE14 HO13 HO14
        go_wp2_with fail
        refine (eqI_yes A15 A1 m15 c15 k1 _ _ ws _ HO15.out HE15.out.w1 hmx).mono ?_
        rintro e w16 ⟨rfl, hb16⟩
        have HE16 := hide (HE15.out.below hb16)
        clear HE15 HO15 hb16
        go_wp2_with fail
        refine (held_any A5 m15 c5 _ 1 _ HE16.out.g5.own.ints (by omega) (by omega) (by omega)).mono ?_
        rintro e w' ⟨rfl, rfl⟩
        have HEND := hide (HW0.out.trans (HE16.out.b.mono HW0.out.size))
        go_wp2
        go_ret
        exact ⟨rfl, HEND.out⟩
end Go.Proofs.Ytldbcenipahkfaa
