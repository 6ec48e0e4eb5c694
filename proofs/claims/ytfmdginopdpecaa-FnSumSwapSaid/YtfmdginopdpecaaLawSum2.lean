/-
  The walks of FnSumChange and FnSumSwap: each returns true and turns nothing that was there.
-/
import Derived.Test.YtfmdginopdpecaaLawSum
import Derived.Deep.RegionHeld3
namespace Go.Proofs.Ytfmdginopdpecaa
open Go.RowKit
set_option linter.unusedVariables false

set_option maxHeartbeats 1000000 in
theorem sumChange_walk (A : Option Addr) (n c : Nat) (bs : Nat → Int) (A' : Option Addr) (n' c' : Nat) (bs' : Nat → Int) (w : World) (hb : Bytes w w.heap.size A n bs) (hn : n ≤ c) (hc : c ≤ maxLen)
    (hb' : Bytes w w.heap.size A' n' bs') (hn1 : n' ≤ c') (hc1 : c' ≤ maxLen) :
    Calls Try.prog 5 #[.slice A n c, .slice A' n' c'] w fun e w' => e = .returned (.bool true) ∧ Below w.heap.size w w' := by
  have hn' : n' ≤ 9223372036854775807 := by unfold maxLen at hc1; omega
  clear hc1 hb'
  by_cases hbig : 1048576 < n
  · go_enter Try.func5, Try.ntmps5
    go_wp2
    go_ret
    exact ⟨rfl, Below.refl _ _⟩
  by_cases hbig' : 1048576 < n'
  · go_enter Try.func5, Try.ntmps5
    go_wp2
    go_ret
    exact ⟨rfl, Below.refl _ _⟩
  · go_enter Try.func5, Try.ntmps5
    go_wp2_with fail
    refine (drawSum_any A n c bs _ hb hn hc).mono ?_
    rintro e w1 ⟨A2, k, c2, xs, rfl, hown, hk, hrng, hB⟩
    have HB := hide hB
    have HO := hide hown
    have HI := hide hown.ints
    have hk' : k ≤ maxLen := by unfold maxLen; omega
    clear hown hB hb
    go_wp2_with fail
    refine (implSum A2 k c2 _ xs _ HI.out hk').mono ?_
    rintro e w' ⟨rfl, rfl⟩
    go_wp2_with fail
    refine (specSum A2 k c2 _ xs _ HI.out hk').mono ?_
    rintro e w' ⟨rfl, rfl⟩
    have hs := sumFrom_lt xs
    have hC : Hid (0 ≤ sumFrom 7 xs → ∀ j, j < k → sumFrom 7 (xs.set j (xs.getD j 0 + 1)) ≠ sumFrom 7 xs) := fun h j hj => sum_change xs j (by rw [HI.out.1]; exact hj) h
    generalize hsx : sumFrom 7 xs = s at hs hC
    clear hsx
    obtain ⟨hs0, hs1⟩ := hs
    by_cases h0 : s < 0
    · go_wp2
      go_ret
      exact ⟨rfl, HB.out⟩
    · by_cases hk0 : k = 0
      · subst hk0
        go_wp2
        go_ret
        exact ⟨rfl, HB.out⟩
      · have hk0' : ((k : Int) == 0) = false := by simp; omega
        have hkn : ¬ (k : Int) = 0 := by omega
        obtain ⟨K, hK⟩ : ∃ K : Nat, (n' : Int) % (k : Int) = (K : Int) := Int.eq_ofNat_of_zero_le (Int.emod_nonneg _ hkn)
        have hKk : K < k := by have := Int.emod_lt_of_pos (n' : Int) (show (0 : Int) < k by omega); omega
        obtain ⟨g, rfl, hgb, hgl⟩ := HO.out.shape (by omega)
        have hcell := HO.out.cell (g := g) (j := K) hKk
        have hC2 := hide (hC.out (by omega) K hKk)
        have hx := hrng.getD (j := K) (by rw [HI.out.1]; exact hKk)
        clear hC
        generalize xs.getD K 0 = x at hcell hC2 hx
        obtain ⟨hx0, hx1⟩ := hx
        by_cases h9 : x = 9999
        · subst h9
          go_wp2
          go_ret
          exact ⟨rfl, HB.out⟩
        · have h9' : (x == 9999) = false := by simpa using h9
          go_wp2_with (first
            | (go_at_call 18; refine (changed_any _ k c2 _ K _ xs (x + 1) _ rfl HI.out (Nat.le_refl _) hKk (by omega)).mono ?_; rintro e w2 ⟨A3, c3, rfl, ho3, hB3⟩)
            | (go_at_call 16; refine (implSum A3 k c3 _ _ _ ho3.ints hk').mono ?_; rintro e w' ⟨rfl, rfl⟩))
          go_ret
          exact ⟨ret_bool (by simpa using hC2.out), HB.out.trans (hB3.mono HB.out.size)⟩

set_option maxHeartbeats 1000000 in
theorem sumSwap_walk (A : Option Addr) (n c : Nat) (bs : Nat → Int) (A' : Option Addr) (n' c' : Nat) (bs' : Nat → Int) (w : World) (hb : Bytes w w.heap.size A n bs) (hn : n ≤ c) (hc : c ≤ maxLen)
    (hb' : Bytes w w.heap.size A' n' bs') (hn1 : n' ≤ c') (hc1 : c' ≤ maxLen) :
    Calls Try.prog 6 #[.slice A n c, .slice A' n' c'] w fun e w' => e = .returned (.bool true) ∧ Below w.heap.size w w' := by
  have hn' : n' ≤ 9223372036854775807 := by unfold maxLen at hc1; omega
  clear hc1 hb'
  by_cases hbig : 1048576 < n
  · go_enter Try.func6, Try.ntmps6
    go_wp2
    go_ret
    exact ⟨rfl, Below.refl _ _⟩
  by_cases hbig' : 1048576 < n'
  · go_enter Try.func6, Try.ntmps6
    go_wp2
    go_ret
    exact ⟨rfl, Below.refl _ _⟩
  · go_enter Try.func6, Try.ntmps6
    go_wp2_with fail
    refine (drawSum_any A n c bs _ hb hn hc).mono ?_
    rintro e w1 ⟨A2, k, c2, xs, rfl, hown, hk, hrng, hB⟩
    have HB := hide hB
    have HO := hide hown
    have HI := hide hown.ints
    have hk' : k ≤ maxLen := by unfold maxLen; omega
    clear hown hB hb
    go_wp2_with fail
    refine (implSum A2 k c2 _ xs _ HI.out hk').mono ?_
    rintro e w' ⟨rfl, rfl⟩
    go_wp2_with fail
    refine (specSum A2 k c2 _ xs _ HI.out hk').mono ?_
    rintro e w' ⟨rfl, rfl⟩
    have hs := sumFrom_lt xs
    have hC : Hid (0 ≤ sumFrom 7 xs → ∀ j, j + 1 < k → (sumFrom 7 ((xs.set j (xs.getD (j + 1) 0)).set (j + 1) (xs.getD j 0)) = sumFrom 7 xs ↔ (xs.getD j 0 - xs.getD (j + 1) 0).tmod 9973 = 0)) :=
      fun h j hj => sum_swap xs j (by rw [HI.out.1]; exact hj) h
    generalize hsx : sumFrom 7 xs = s at hs hC
    clear hsx
    obtain ⟨hs0, hs1⟩ := hs
    by_cases h0 : s < 0
    · go_wp2
      go_ret
      exact ⟨rfl, HB.out⟩
    · by_cases hk0 : k < 2
      · go_wp2
        go_ret
        exact ⟨rfl, HB.out⟩
      · have hkn : ¬ (k : Int) - 1 = 0 := by omega
        obtain ⟨K, hK⟩ : ∃ K : Nat, (n' : Int) % ((k : Int) - 1) = (K : Int) := Int.eq_ofNat_of_zero_le (Int.emod_nonneg _ hkn)
        have hKk : K + 1 < k := by have := Int.emod_lt_of_pos (n' : Int) (show (0 : Int) < (k : Int) - 1 by omega); omega
        have hKk' : K < k := by omega
        obtain ⟨g, rfl, hgb, hgl⟩ := HO.out.shape (by omega)
        have hcell := HO.out.cell (g := g) (j := K) hKk'
        have hcell1 := HO.out.cell (g := g) (j := K + 1) hKk
        have hC2 := hide (hC.out (by omega) K hKk)
        have hx := hrng.getD (j := K) (by rw [HI.out.1]; exact hKk')
        have hy := hrng.getD (j := K + 1) (by rw [HI.out.1]; exact hKk)
        clear hC
        generalize xs.getD K 0 = x at hcell hC2 hx
        generalize xs.getD (K + 1) 0 = y at hcell1 hC2 hy
        obtain ⟨hx0, hx1⟩ := hx
        obtain ⟨hy0, hy1⟩ := hy
        have e1 : IntKind.i64.wrap ((K : Int) + 1) = (K : Int) + 1 := IntWalk.i64_in _ (by omega)
        have e2 : 0 ≤ (K : Int) + 1 := by omega
        have e3 : ((K : Int) + 1).toNat = K + 1 := by omega
        have hk6 : k ≤ 1000000 := by omega
        have i0 : (0 : Int) ≤ (K : Int) := by omega
        have i1 : (K : Int) < (k : Int) := by omega
        have i2 : (K : Int) + 1 < (k : Int) := by omega
        go_wp2_with fail
        go_region_held3 (fun w' => w'.cell? ⟨g, K, none⟩ = some (.int .i64 x) ∧ w'.cell? ⟨g, K + 1, none⟩ = some (.int .i64 y))
          (first
            | go_keep
            | (refine ⟨(hB4.cell (Nat.lt_of_lt_of_le hgl hB3.size)).trans ((hB3.cell hgl).trans hcell), (hB4.cell (Nat.lt_of_lt_of_le hgl hB3.size)).trans ((hB3.cell hgl).trans hcell1)⟩)
            | (refine ⟨(hB3.cell hgl).trans hcell, (hB3.cell hgl).trans hcell1⟩))
          ((first
            | (go_at_call_of 18 (Value.slice (some ⟨g, 0, none⟩) k c2); refine (changed_any _ k c2 w1.heap.size K _ xs y _ rfl ?_ ?_ hKk' (by omega)).mono ?_; exact HI.out; exact Nat.le_refl _; rintro e w2 ⟨A3, c3, rfl, ho3, hB3⟩)
            | (go_at_call 18; refine (changed_any A3 k c3 w2.heap.size (K + 1) ((K : Int) + 1) (xs.set K y) x w2 rfl ho3.ints (Nat.le_refl _) hKk hk6).mono ?_; rintro e w3 ⟨A4, c4, rfl, ho4, hB4⟩)))
        have d1 : w3.cell? ⟨g, K, none⟩ = some (.int .i64 x) := (hB4.cell (Nat.lt_of_lt_of_le hgl hB3.size)).trans ((hB3.cell hgl).trans hcell)
        have d2 : w3.cell? ⟨g, K + 1, none⟩ = some (.int .i64 y) := (hB4.cell (Nat.lt_of_lt_of_le hgl hB3.size)).trans ((hB3.cell hgl).trans hcell1)
        have HE := hide (HB.out.drew.trans ((hB3.trans (hB4.mono hB3.size)).mono HB.out.size))
        have HI4 := hide ho4.ints
        clear hcell hcell1 hB3 hB4 ho3 ho4
        have e4 : IntKind.i64.wrap (x - y) = x - y := IntWalk.i64_in _ (by omega)
        have HS5 : Hid (∀ W : World, Ints W w3.heap.size A4 k ((xs.set K y).set (K + 1) x) → Calls Try.prog 16 #[.slice A4 k c4] W fun e w' => e = .returned (.int .i64 (sumFrom 7 ((xs.set K y).set (K + 1) x))) ∧ w' = W) :=
          fun W h => (implSum A4 k c4 _ _ W h hk').mono fun _ _ ⟨a, b⟩ => ⟨a, b.symm⟩
        generalize sumFrom 7 ((xs.set K y).set (K + 1) x) = t at hC2 HS5
        go_wp2_with fail
        go_quiet ((go_at_call 16; exact Calls.quiet_of_same (HS5.out _ HI4.out)))
        go_wp2
        go_ret
        refine ⟨ret_bool ?_, below_drewN HE.out _⟩
        have h := hC2.out
        by_cases ht : t = s
        · simp [ht, h.1 ht]
        · have h2 : ¬ (x - y).tmod 9973 = 0 := fun h2 => ht (h.2 h2)
          have e1 : (t == s) = false := by simpa using ht
          have e2 : ((x - y).tmod 9973 == 0) = false := by simpa using h2
          first
            | (rw [e1, e2]; rfl)
            | (rw [e1]; simpa using h2)
end Go.Proofs.Ytfmdginopdpecaa
