/-
  The exact laws' helpers on checks: toCheck, eqCheck; the exact walks of ColumnsCheck and ColumnsGood.
-/
import Derived.Test.YtldbcenipahkfaaSpecK3
import Derived.Test.YtldbcenipahkfaaExI2
import Derived.Test.YtldbcenipahkfaaExW
import Derived.Test.YtldbcenipahkfaaRng
namespace Go.Proofs.Ytldbcenipahkfaa
open Go.RowKit
set_option linter.unusedVariables false
set_option maxRecDepth 100000

theorem Own.cap00 {w : World} {b n c : Nat} {A : Option Addr} {xs : List Int} (h : Own w b A n c xs) : A = none → n = 0 ∧ c = 0 := by
  rintro rfl
  rcases h.2.2 with ⟨hv, h0⟩ | ⟨g, cap, cur, hv, hb', hh, hc, hm, hs, ht⟩
  · injection hv with _ h1 h2; exact ⟨h1, h2⟩
  · injection hv with h1; cases h1
set_option maxHeartbeats 800000 in
theorem toCheck_any (a b : Int) (w : World) : Calls Try.prog 32 #[.agg #[.int .i64 a, .int .i64 b]] w fun e w' => e = .returned (.agg #[.int .i64 a, .int .i64 b]) ∧ Below w.heap.size w w' := by
  have HK := hide ((((Kp.refl w).push 44 #[.int .i64 a, .int .i64 b]).pushN (w.heap.size + 1) (by simp) 26 #[.int .i64 a, .int .i64 b]).pushN (w.heap.size + 1 + 1) (by simp) 26 #[.int .i64 a, .int .i64 b])
  go_enter Try.func32, Try.ntmps32
  go_wp2
  exact bodyPost_ret (v := .agg #[.int .i64 a, .int .i64 b]) (by simp [results, Try.results32, go_sem]) rfl ⟨rfl, HK.out.below⟩
set_option maxHeartbeats 800000 in
theorem eqCheck_yes (a b : Int) (w : World) : Calls Try.prog 30 #[.agg #[.int .i64 a, .int .i64 b], .agg #[.int .i64 a, .int .i64 b]] w fun e w' => e = .returned (.bool true) ∧ Below w.heap.size w w' := by
  have HB := hide (((Below.refl w.heap.size w).alloc (Nat.le_refl _) (.cells #[.int .i64 a, .int .i64 b] 26)).alloc (by simp) (.cells #[.int .i64 a, .int .i64 b] 26))
  go_enter Try.func30, Try.ntmps30
  go_wp2
  go_ret
  exact ⟨rfl, HB.out⟩

set_option maxHeartbeats 3200000 in
theorem exactKCheck_walk (A : Option Addr) (n c : Nat) (xs : List Int) (w : World) (hI : Ints w w.heap.size A n xs) (hn : n ≤ c) (hc : c ≤ maxLen) (hrng : Rng (-9223372036854775808) 9223372036854775807 xs) :
    Calls Try.prog 12 #[.slice A n c] w fun e w' => e = .returned (.bool true) ∧ Below w.heap.size w w' := by
  have hn' : n ≤ 9223372036854775807 := by unfold maxLen at hc; omega
  clear hrng hc
  by_cases hbig : 1048576 < n
  · go_enter Try.func12, Try.ntmps12
    go_wp2
    go_ret
    exact ⟨rfl, Below.refl _ _⟩
  · have hk' : n ≤ maxLen := by unfold maxLen; omega
    have hk2 : n ≤ 17592186044416 := by omega
    have HI := hide hI
    have HP1 := hide fun (A9 : Option Addr) (c9 : Nat) (W : World) (hi : Ints W W.heap.size A9 n xs) => specCC A9 n c9 _ xs W hi (Nat.le_refl _) (by omega)
    have HP2 := hide fun (A9 : Option Addr) (c9 : Nat) (W : World) (hi : Ints W W.heap.size A9 n xs) => implCC A9 n c9 _ xs W hi (Nat.le_refl _) (by omega)
    clear hI
    generalize colV xs = v at *
    generalize (ckR xs).1 = a at *
    generalize (ckR xs).2 = b at *
    go_enter Try.func12, Try.ntmps12
    go_wp2_with fail
    refine (toInts_any A n c _ xs _ HI.out (Nat.le_refl _) hk2).mono ?_
    rintro e w1 ⟨A1, c1, rfl, ho1, hB1⟩
    have HK1 := hide ((Kp.refl w).step hB1)
    have HO1 := hide ho1.ints
    clear ho1 hB1
    go_wp2_with fail
    refine (HP1.out _ _ _ HO1.out).mono ?_
    rintro e w2 ⟨rfl, hb2⟩
    obtain ⟨g, hg⟩ : ∃ g, w2.heap.size = g := ⟨_, rfl⟩
    have HK2 := hide ((HK1.out.step hb2).pushN g hg 26 #[.int .i64 a, .int .i64 b])
    have HI2 := hide (HI.out.below HK2.out.below (Nat.le_refl _))
    clear hb2 HK1
    go_wp2_with fail
    clear hg
    refine (toInts_any A n c _ xs _ HI2.out HK2.out.below.size hk2).mono ?_
    rintro e w3 ⟨A3, c3, rfl, ho3, hB3⟩
    have HK3 := hide (HK2.out.step hB3)
    have HO3 := hide ho3.ints
    clear ho3 hB3 HK2
    go_wp2_with fail
    refine (HP2.out _ _ _ HO3.out).mono ?_
    rintro e w4 ⟨rfl, hb4⟩
    obtain ⟨g2, hg2⟩ : ∃ g, w4.heap.size = g := ⟨_, rfl⟩
    have HK4 := hide ((HK3.out.step hb4).pushN g2 hg2 26 #[.int .i64 a, .int .i64 b])
    obtain ⟨q0, q1⟩ := HK4.out.cb
    obtain ⟨r0, r1⟩ := HK4.out.tl.cb
    have HO4 : Hid (Ints (w4.alloc (.cells #[.int .i64 a, .int .i64 b] 26)) (w4.alloc (.cells #[.int .i64 a, .int .i64 b] 26)).heap.size A3 n xs) :=
      (((HO3.out.below hb4 (Nat.le_refl _)).more hb4.size).alloc (Nat.le_refl _) _).more (by simp)
    clear hb4 HK3 HO3
    go_wp2_with fail
    refine (eqCheck_yes a b _).mono ?_
    rintro e w5 ⟨rfl, hb5⟩
    have HK5 := hide (HK4.out.step hb5)
    have HO5 := hide ((HO4.out.below hb5 (Nat.le_refl _)).more hb5.size)
    have HI5 := hide (HI.out.below HK5.out.below (Nat.le_refl _))
    clear hb5 HK4 HO4 hg2
    go_wp2_with fail
    refine (toInts_any A n c _ xs _ HI5.out HK5.out.below.size hk2).mono ?_
    rintro e w6 ⟨A6, c6, rfl, ho6, hb6⟩
    have HK6 := hide (HK5.out.step hb6)
    have HO6 := hide (HO5.out.below hb6 (Nat.le_refl _))
    have HX6 := hide ho6.ints
    clear hb6 ho6 HK5 HO5
    go_wp2_with fail
    refine (eqI_yes A3 A6 n c3 c6 _ _ xs _ HO6.out HX6.out hk').mono ?_
    rintro e w7 ⟨rfl, hb7⟩
    have HE := hide (HK6.out.step hb7).below
    go_wp2
    go_ret
    exact ⟨rfl, HE.out⟩

/-- the checks that came in lie in the call's first block -/
theorem box_cells {w W : World} {a b : Int} {t : TypeId} (h : Below (w.alloc (.cells #[.int .i64 a, .int .i64 b] t)).heap.size (w.alloc (.cells #[.int .i64 a, .int .i64 b] t)) W) :
    W.cell? ⟨w.heap.size, 0, none⟩ = some (.int .i64 a) ∧ W.cell? ⟨w.heap.size, 1, none⟩ = some (.int .i64 b) := by
  have hb := (Blk.new w t #[.int .i64 a, .int .i64 b]).below h (by simp)
  exact ⟨by rw [hb.cell]; rfl, by rw [hb.cell]; rfl⟩

set_option maxHeartbeats 6400000 in
theorem exactKGood_walk (A : Option Addr) (n c : Nat) (xs : List Int) (a b : Int) (w : World) (hI : Ints w w.heap.size A n xs) (hn : n ≤ c) (hc : c ≤ maxLen) (hrng : Rng (-9223372036854775808) 9223372036854775807 xs) (ha0 : -9223372036854775808 ≤ a) (ha1 : a ≤ 9223372036854775807) (hb0 : -9223372036854775808 ≤ b) (hb1 : b ≤ 9223372036854775807) :
    Calls Try.prog 13 #[.slice A n c, .agg #[.int .i64 a, .int .i64 b]] w fun e w' => e = .returned (.bool true) ∧ Below w.heap.size w w' := by
  have hn' : n ≤ 9223372036854775807 := by unfold maxLen at hc; omega
  have HBX := hide ((Below.refl w.heap.size w).alloc (Nat.le_refl _) (.cells #[.int .i64 a, .int .i64 b] 44))
  clear hrng hc
  by_cases hbig : 1048576 < n
  · go_enter Try.func13, Try.ntmps13
    go_wp2
    go_ret
    exact ⟨rfl, HBX.out⟩
  · have hk' : n ≤ maxLen := by unfold maxLen; omega
    have hk2 : n ≤ 17592186044416 := by omega
    have HI := hide hI
    have HP1 := hide fun (A9 : Option Addr) (c9 : Nat) (W : World) (hi : Ints W W.heap.size A9 n xs) => specCG A9 n c9 _ xs a b W hi (Nat.le_refl _) (by omega)
    have HP2 := hide fun (A9 : Option Addr) (c9 : Nat) (W : World) (hi : Ints W W.heap.size A9 n xs) => implCG A9 n c9 _ xs a b W hi (Nat.le_refl _) (by omega)
    clear hI
    generalize goV xs (a, b) = v at *
    have HK0 := hide (((Kp.refl w).push 44 #[.int .i64 a, .int .i64 b]).drew)
    have HIX := hide fun (W : World) (hb : Below w.heap.size w W) => HI.out.below hb (Nat.le_refl _)
    have HT : Hid (∀ W : World, Below w.heap.size w W → Calls Try.prog 29 #[.slice A n c] W fun e w' => ∃ A2 c2, e = .returned (.slice A2 n c2) ∧ Own w' W.heap.size A2 n c2 xs ∧ Below W.heap.size W w') := fun W hb => toInts_any A n c _ xs W (HI.out.below hb (Nat.le_refl _)) hb.size hk2
    go_enter Try.func13, Try.ntmps13
    go_wp2_with fail
    go_region_held3 (fun W => W.cell? ⟨w.heap.size, 0, none⟩ = some (.int .i64 a) ∧ W.cell? ⟨w.heap.size, 1, none⟩ = some (.int .i64 b))
      (first | (exact Kp.cb HK0.out) | (exact Kp.cb HK1.out) | (exact Kp.cb HK2.out) | (exact Kp.cb HK3.out))
      ((first
        | (go_at_call 29; (with_reducible refine (Kp.callo HK0 (HT.out _ HK0.out.below)).mono ?_); rintro e w1 ⟨A1, c1, rfl, HK1, HO1, HI1⟩)
        | (go_at_call 32; (with_reducible refine (Kp.calli HK1 HI1 (toCheck_any a b _)).mono ?_); rintro e w2 ⟨rfl, HK2, HI2⟩)
        | (go_at_call 21; (with_reducible refine (Kp.call HK2 (HP1.out _ _ _ HI2.out)).mono ?_); rintro e w3 ⟨rfl, HK3⟩)))
    all_goals
      clear HK0 HK1 HO1 HI1 HK2 HI2
      go_wp2_with fail
      refine (Kp.callo HK3 (HT.out _ HK3.out.below)).mono ?_
      rintro e w4 ⟨A4, c4, rfl, HK4, HO4, HI4⟩
      obtain ⟨q0, q1⟩ := HK4.out.cb
      go_wp2_with fail
      refine (Kp.calli HK4 HI4 (toCheck_any a b _)).mono ?_
      rintro e w5 ⟨rfl, HK5, HI5⟩
      go_wp2_with fail
      refine (Kp.calli HK5 HI5 (HP2.out _ _ _ HI5.out)).mono ?_
      rintro e w6 ⟨rfl, HK6, HI6⟩
      clear HK3 HK4 HO4 HI4 HK5 HI5
      go_wp2_with fail
      refine (Kp.calloi HK6 HI6 (HT.out _ HK6.out.below)).mono ?_
      rintro e w7 ⟨A7, c7, rfl, HK7, HO7, HI7, HJ7⟩
      go_wp2_with fail
      refine (eqI_yes A4 A7 n c4 c7 _ _ xs _ HJ7.out HI7.out hk').mono ?_
      rintro e w8 ⟨rfl, hb8⟩
      have HE := hide (HK7.out.step hb8).below
      go_wp2
      go_ret
      exact ⟨rfl, HE.out⟩
end Go.Proofs.Ytldbcenipahkfaa
