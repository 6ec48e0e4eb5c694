/-
  The walks of FnSumWords and FnSumNext: each returns true and turns nothing that was there.
-/
import Derived.Test.YtfmdginopdpecaaLawSum
namespace Go.Proofs.Ytfmdginopdpecaa
open Go.RowKit
set_option linter.unusedVariables false

theorem allW_take (xs : List Int) (k : Nat) (h : k < xs.length) : allW (xs.take (k + 1)) = (allW (xs.take k) && okW (xs.getD k 0)) := by
  unfold allW
  rw [List.take_succ_eq_append_getElem h, List.all_append]
  simp [List.getD, h]
theorem not_of {b : Bool} (h : true = !b) : b = false := by cases b <;> simp_all

theorem bytes_neg (n : Nat) (h : ¬ 1048576 < n) : decide ((1048576 : Int) < (n : Int)) = false := by simp; omega

set_option maxHeartbeats 1000000 in
theorem sumWords_walk (A : Option Addr) (n c : Nat) (bs : Nat → Int) (w : World) (hb : Bytes w w.heap.size A n bs) (hn : n ≤ c) (hc : c ≤ maxLen) :
    Calls Try.prog 3 #[.slice A n c] w fun e w' => e = .returned (.bool true) ∧ Below w.heap.size w w' := by
  by_cases hbig : 1048576 < n
  · go_enter Try.func3, Try.ntmps3
    go_wp2
    go_ret
    exact ⟨rfl, Below.refl _ _⟩
  · go_enter Try.func3, Try.ntmps3
    go_wp2_with fail
    refine (drawSum_any A n c bs _ hb hn hc).mono ?_
    rintro e w1 ⟨A2, k, c2, xs, rfl, hown, hk, hrng, hB⟩
    have HB := hide hB
    have HI := hide hown.ints
    have hk' : k ≤ maxLen := by unfold maxLen; omega
    clear hown hB hb
    go_wp2_with fail
    refine (implSum A2 k c2 _ xs _ HI.out hk').mono ?_
    rintro e w' ⟨rfl, rfl⟩
    go_wp2_with fail
    refine (specSum A2 k c2 _ xs _ HI.out hk').mono ?_
    rintro e w' ⟨rfl, rfl⟩
    have hlen := HI.out.1
    have HL := hide hlen
    have hs := sumFrom_lt xs
    have hS : Hid ((allW xs = true ∧ 0 ≤ sumFrom 7 xs) ∨ (allW xs = false ∧ sumFrom 7 xs = -1)) := by
      rcases hb : allW xs with _ | _
      · exact .inr ⟨rfl, sumFrom_allW xs 7 hb⟩
      · exact .inl ⟨rfl, (sumFrom_rng xs 7 (by omega) (by omega) hb).1⟩
    generalize sumFrom 7 xs = s at hs hS
    obtain ⟨hs0, hs1⟩ := hs
    clear hlen
    go_wp2_with fail
    go_loop [6, 7] (fun b i => ∃ (j : Nat) (t : Bool), j ≤ k ∧ i = .int .i64 j ∧ b = .bool t ∧ Hid (t = !allW (xs.take j))) (fun _ i => k - (intOf i).toNat)
    case atStart => exact ⟨0, false, Nat.zero_le _, rfl, rfl, rfl⟩
    case round =>
      obtain ⟨j, t, hj, rfl, rfl, HT⟩ := hrel
      by_cases hlt : j < k
      · have hd := allW_take xs j (by have := HL.out; omega)
        have HX : Hid (_ = _) := hd
        obtain ⟨ad, rfl, _, hcell⟩ := HI.out.at_ hlt
        clear hd
        generalize xs.getD j 0 = x at hcell HX
        rcases t with _ | _
        · by_cases h1 : x < 0
          · go_wp2
            go_round
            case rel => exact ⟨j + 1, true, by omega, by go_num, rfl, by show _ = _; rw [HX.out]; have : okW x = false := by simp [okW]; omega
                                                                         rw [this]; simp⟩
            case measure => simp [intOf]; omega
          · by_cases h2 : 9999 < x
            · go_wp2
              go_round
              case rel => exact ⟨j + 1, true, by omega, by go_num, rfl, by show _ = _; rw [HX.out]; have : okW x = false := by simp [okW]; omega
                                                                           rw [this]; simp⟩
              case measure => simp [intOf]; omega
            · go_wp2
              go_round
              case rel => exact ⟨j + 1, false, by omega, by go_num, rfl, by show _ = _; rw [HX.out]; have : okW x = true := by simp [okW]; omega
                                                                            rw [this, Bool.and_true]; exact HT.out⟩
              case measure => simp [intOf]; omega
        · go_wp2
          go_round
          case rel => exact ⟨j + 1, true, by omega, by go_num, rfl, by show _ = _; rw [HX.out, not_of HT.out]; rfl⟩
          case measure => simp [intOf]; omega
      · have ht : t = !allW xs := by rw [HT.out, List.take_of_length_le (by have := HL.out; omega)]
        have hp : Ints (w1.alloc (.cells #[] 3)) (w1.heap.size + 1) (some ⟨w1.heap.size, 0, none⟩) 0 [] := ⟨rfl, fun h => absurd h (by omega)⟩
        rcases hS.out with ⟨ha, h0⟩ | ⟨ha, h0⟩
        · obtain rfl : t = false := by rw [ht, ha]; rfl
          have hm : (s == -1) = false := by simp; omega
          have HH := hide (And.intro ha ht)
          clear ha ht hS HT
          go_wp2_with (go_at_call 16; refine (implSum _ 0 0 _ [] _ hp (Nat.zero_le _)).mono ?_; rintro e w' ⟨rfl, rfl⟩)
          go_ret
          exact ⟨rfl, HB.out.alloc HB.out.size _⟩
        · obtain rfl : t = true := by rw [ht, ha]; rfl
          subst h0
          have HH := hide (And.intro ha ht)
          clear ha ht hS HT
          go_wp2_with (go_at_call 16; refine (implSum _ 0 0 _ [] _ hp (Nat.zero_le _)).mono ?_; rintro e w' ⟨rfl, rfl⟩)
          go_ret
          exact ⟨rfl, HB.out.alloc HB.out.size _⟩

set_option maxHeartbeats 1000000 in
theorem sumNext_walk (A : Option Addr) (n c : Nat) (bs : Nat → Int) (A' : Option Addr) (n' c' : Nat) (bs' : Nat → Int) (w : World) (hb : Bytes w w.heap.size A n bs) (hn : n ≤ c) (hc : c ≤ maxLen) (hb' : Bytes w w.heap.size A' n' bs') (hn1 : n' ≤ c') (hc1 : c' ≤ maxLen) :
    Calls Try.prog 4 #[.slice A n c, .slice A' n' c'] w fun e w' => e = .returned (.bool true) ∧ Below w.heap.size w w' := by
  have hn' : n' ≤ 9223372036854775807 := by unfold maxLen at hc1; omega
  clear hc1 hb'
  by_cases hbig : 1048576 < n
  · go_enter Try.func4, Try.ntmps4
    go_wp2
    go_ret
    exact ⟨rfl, Below.refl _ _⟩
  by_cases hbig' : 1048576 < n'
  · go_enter Try.func4, Try.ntmps4
    go_wp2
    go_ret
    exact ⟨rfl, Below.refl _ _⟩
  · go_enter Try.func4, Try.ntmps4
    go_wp2_with fail
    refine (drawSum_any A n c bs _ hb hn hc).mono ?_
    rintro e w1 ⟨A2, k, c2, xs, rfl, hown, hk, hrng, hB⟩
    have HB := hide hB
    have HI := hide hown.ints
    have hk' : k ≤ maxLen := by unfold maxLen; omega
    clear hown hB hb
    go_wp2_with fail
    refine (implSum A2 k c2 _ xs _ HI.out hk').mono ?_
    rintro e w' ⟨rfl, rfl⟩
    go_wp2_with fail
    refine (specSum A2 k c2 _ xs _ HI.out hk').mono ?_
    rintro e w' ⟨rfl, rfl⟩
    have hs := sumFrom_lt xs
    have hN : Hid (0 ≤ sumFrom 7 xs → ∀ y : Int, 0 ≤ y → y ≤ 9999 → sumFrom 7 (xs ++ [y]) = (31 * sumFrom 7 xs + y + 1) % 9973) := fun h y h0 h1 => sum_next xs y h h0 h1
    generalize hsx : sumFrom 7 xs = s at hs hN
    clear hsx
    obtain ⟨hs0, hs1⟩ := hs
    by_cases h0 : s < 0
    · go_wp2
      go_ret
      exact ⟨rfl, HB.out⟩
    · have hy0 : 0 ≤ (n' : Int) % 10000 := by omega
      have hy1 : (n' : Int) % 10000 ≤ 9999 := by omega
      have hN2 := hide (hN.out (by omega) _ hy0 hy1)
      clear hN
      go_wp2_with (first
        | (at_builtin; refine wpList_append_ints rfl (.tmp 36) (.tmp 37) rfl w1.heap.size 0 0 w1.heap.size k c2 _ A2 [] xs rfl (Own.lit0 w1 _ (Nat.le_refl _)) rfl (HI.out.alloc (Nat.le_refl _) _) (by omega) (by simp) ?_; intro A3 c3 w3 ho3 hg3 hat3; clear hat3; simp only [Nat.zero_add, List.nil_append] at ho3 ⊢)
        | (at_builtin; refine wpList_append_ints rfl (.tmp 38) (.tmp 40) rfl w1.heap.size k c3 _ 1 _ A3 _ xs [(n' : Int) % 10000] rfl (ho3.alloc _) rfl (Ints.one _ _) (by omega) (by have := hg3.size; simp at this; simp; omega) ?_; intro A4 c4 w4 ho4 hg4 hat4; clear hat4)
        | (go_at_call 16; refine (implSum A4 (k + 1) c4 _ _ _ ho4.ints (by unfold maxLen; omega)).mono ?_; rintro e w' ⟨rfl, rfl⟩))
      go_ret
      have hB3 := below_app0 (Below.refl w1.heap.size w1) (Nat.le_refl _) hg3
      have hB4 := below_app hB3 hB3.size ho3 (Nat.le_refl _) hg4
      exact ⟨ret_bool (by rw [hN2.out]; simp), HB.out.trans (hB4.mono HB.out.size)⟩
end Go.Proofs.Ytfmdginopdpecaa
