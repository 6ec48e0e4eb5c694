/-
  The walk of FnColdPart.
-/
import Derived.Test.YtefgngfcdigllaaColC
import Derived.Test.YtefgngfcdigllaaSpecC
import Derived.Test.YtefgngfcdigllaaDrawGC
import Derived.Test.YtefgngfcdigllaaInts
import Derived.Test.YtefgngfcdigllaaPartM
import Derived.Deep.RegionHeld3
import Derived.Deep.CutBlock
namespace Go.Proofs.Ytefgngfcdigllaa
open Go.RowKit
set_option linter.unusedVariables false
set_option maxRecDepth 100000

set_option maxHeartbeats 6400000 in
theorem coldPart_walk (A : Option Addr) (n c : Nat) (bs : Nat → Int) (A' : Option Addr) (n' c' : Nat) (bs' : Nat → Int) (w : World) (hb : Bytes w w.heap.size A n bs) (hn : n ≤ c) (hc : c ≤ maxLen)
    (hb' : Bytes w w.heap.size A' n' bs') (hn1 : n' ≤ c') (hc1 : c' ≤ maxLen) :
    Calls Try.prog 5 #[.slice A n c, .slice A' n' c'] w fun e w' => e = .returned (.bool true) ∧ Below w.heap.size w w' := by
  have hn' : n' ≤ 9223372036854775807 := by unfold maxLen at hc1; omega
  clear hc1 hb'
  by_cases hbig : 1048576 < n
  · go_enter Try.func5, Try.ntmps5
    go_wp2
    go_ret
    exact ⟨rfl, Below.refl _ _⟩
  by_cases hbig' : 1048576 < n'
  · go_enter Try.func5, Try.ntmps5
    go_wp2
    go_ret
    exact ⟨rfl, Below.refl _ _⟩
  · go_enter Try.func5, Try.ntmps5
    go_wp2_with fail
    refine (drawC_any A n c bs _ hb hn hc).mono ?_
    rintro e w1 ⟨A1, k, c1, xs, rfl, ho1, hk, hB1⟩
    have HB1 := hide hB1
    have HI1 := hide ho1.ints
    have hcap := ho1.cap
    have hs1 := hB1.size
    have HLX := hide ho1.1
    obtain ⟨v, hv⟩ : ∃ v, validC xs k = v := ⟨_, rfl⟩
    have hp1 := implPutC A1 k c1 _ xs w1 ho1.ints (Nat.le_refl _) (by omega)
    rw [hv] at hp1
    have HP1 := hide hp1
    have HP2 : Hid (∀ W : World, Below w1.heap.size w1 W → Calls Try.prog 12 #[.slice A1 k c1] W (PutPost W v xs)) := fun W h => by
      have hp2 := specPutC A1 k c1 _ xs W (HI1.out.below h (Nat.le_refl _)) h.size (by omega)
      rwa [hv] at hp2
    have HV := hide hv
    have HO1 := hide ho1
    clear ho1 hB1 hb hp1 hv
    go_wp2_with fail
    refine HP1.out.mono ?_
    rintro e w2 ⟨A2, m2, c2, rfl, ho2, hB2⟩
    have HB2 := hide (HB1.out.trans (hB2.mono hs1))
    have HW2 := hide hB2
    have HO2 := hide ho2
    have hs2 := hB2.size
    clear ho2 hB2 HP1
    go_wp2_with fail
    refine (HP2.out _ HW2.out).mono ?_
    rintro e w3 ⟨A3, m3, c3, rfl, ho3, hB3⟩
    obtain rfl : m3 = m2 := ho3.1.symm.trans HO2.out.1
    have HB3 := hide (HB2.out.trans (hB3.mono HB2.out.size))
    have HW3 := hide (HW2.out.trans (hB3.mono hs2))
    have HO2' := hide (HO2.out.below hB3)
    have HI3 := hide ho3.ints
    have hs3 := hB3.size
    have hm : m3 ≤ 1000 := by
      have h := HO2.out.1
      have h2 := HLX.out
      split at h
      · omega
      · simp at h; omega
    have hmm : m3 ≤ maxLen := by unfold maxLen; omega
    have HYES : Hid (∀ W : World, Below w3.heap.size w3 W → Calls Try.prog 13 #[.slice A2 m3 c2, .slice A3 m3 c3] W fun e w' => e = .returned (.bool true) ∧ ∃ q, w' = W.drewN q) := fun W h =>
      sameInts_yes A2 A3 m3 c2 m3 c3 _ _ _ _ W (HO2'.out.ints.below h (Nat.le_refl _)) (HI3.out.below h (Nat.le_refl _)) hmm hmm rfl
    clear ho3 hB3 HP2 HO2
    rcases v with _ | _
    · go_wp2_with fail
      refine (HYES.out _ (Below.refl _ _)).mono ?_
      rintro e w4 ⟨rfl, q, rfl⟩
      go_wp2_with fail
      refine (HYES.out _ (below_drewN (Below.refl _ _) q)).mono ?_
      rintro e w5 ⟨rfl, q', rfl⟩
      go_wp2
      go_ret
      exact ⟨rfl, below_drewN HB3.out _⟩
    · have HOW := hide (show Own w3 w1.heap.size A2 m3 c2 xs from HO2'.out)
      have HM := hide (HOW.out.1.symm.trans HLX.out)
      clear HO2'
      obtain ⟨g1, rfl, hg1b, hg1l⟩ := HO1.out.shape (by have h := validR_iff.1 HV.out; omega)
      by_cases hk2 : k < 2
      · go_wp2_with fail
        refine (HYES.out _ (Below.refl _ _)).mono ?_
        rintro e w4 ⟨rfl, q, rfl⟩
        go_wp2_with fail
        refine (HYES.out _ (below_drewN (Below.refl _ _) q)).mono ?_
        rintro e w5 ⟨rfl, q', rfl⟩
        go_wp2
        go_ret
        exact ⟨rfl, below_drewN HB3.out _⟩
      · have hkn : ¬ (k : Int) = 0 := by omega
        obtain ⟨K, hK⟩ : ∃ K : Nat, (n' : Int) % (k : Int) = (K : Int) := Int.eq_ofNat_of_zero_le (Int.emod_nonneg _ hkn)
        have hKk : K < k := by have := Int.emod_lt_of_pos (n' : Int) (show (0 : Int) < k by omega); omega
        obtain ⟨J, hJ⟩ : ∃ J, K + 1 = J := ⟨_, rfl⟩
        have hP1 := part_yes (s := 3) fldC_local (by decide) HLX.out hKk (by omega) HV.out
        have hP2 := part_no (s := 3) (mx := 6) (f := fldC) (by decide) HLX.out hKk
        rw [hJ] at hP1 hP2
        have hI4 : ∀ q, Ints (w3.drewN q) w1.heap.size (some ⟨g1, 0, none⟩) (k * 3) xs := fun q => (HI1.out.below HW3.out (Nat.le_refl _)).drewN q
        have HQ1 := hide hP1
        have HQ2 := hide hP2
        have HI4 := hide hI4
        have hJi : (K : Int) + 1 = (J : Int) := by omega
        have hkc : k ≤ c1 := hcap.1
        have b0 : (0 : Int) ≤ (K : Int) := by omega
        have b1 : (K : Int) ≤ (c1 : Int) := by omega
        have b2 : (0 : Int) ≤ (J : Int) := by omega
        have b3 : (J : Int) ≤ (k : Int) := by omega
        have b4 : (k : Int) ≤ (c1 : Int) := by omega
        have b5 : (J : Int) ≤ (c1 : Int) := by omega
        have b6 : (K : Int) ≤ (k : Int) := by omega
        have hw13 : w1.heap.size ≤ w3.heap.size := HW3.out.size
        have wJ : IntKind.i64.wrap (J : Int) = (J : Int) := IntWalk.i64_in _ (by omega)
        clear hP1 hP2 hI4
        go_wp2_with fail
        refine (HYES.out _ (Below.refl _ _)).mono ?_
        rintro e w4 ⟨rfl, q, rfl⟩
        have HBW := hide (below_drewN HB3.out q)
        have HIW := hide (HI4.out q)
        have hWs : w1.heap.size ≤ (w3.drewN q).heap.size := hw13
        obtain ⟨D1, hD1⟩ : ∃ D1, (if c1 = J then some (⟨g1, 0, none⟩ : Addr) else some ⟨g1, J * 3, none⟩) = D1 := ⟨_, rfl⟩
        have hID : ∀ W : World, Ints W w1.heap.size (some ⟨g1, 0, none⟩) (k * 3) xs → Ints W w1.heap.size D1 ((k - J) * 3) (xs.drop (J * 3)) := fun W h => by
          have h0 := h.cut (k := J * 3) (m := k * 3) (cap := c1 * 3) (Nat.mul_le_mul_right _ (by omega)) (Nat.le_refl _) (Nat.mul_le_mul_right _ hkc)
          rw [List.take_of_length_le (by rw [HLX.out]; exact Nat.le_refl _), Option.map_some, add_plain', ← Nat.sub_mul] at h0
          rw [← hD1]
          by_cases hcJ : c1 = J
          · rw [if_pos (by rw [hcJ])] at h0; rw [if_pos hcJ]; exact h0
          · rw [if_neg (by omega)] at h0; rw [if_neg hcJ]; exact h0
        have HIDD := hide hID
        clear hID
        generalize w3.drewN q = W at HBW HIW hWs ⊢
        go_wp2_with fail
        refine wp_region_any (by kernel_rfl) ?_
        try (change wpAny _ _ _ _ _ _ _ (World.drew _))
        refine wpAny_take (i := 1) (v := .slice (some ⟨g1, 0, none⟩) k c1) rfl (by kernel_rfl) (by kernel_rfl) (by kernel_rfl) (fun _ _ _ h => h) (Or.inl ⟨by rfl, fun w => by first | (go_simp; done) | (go_simp; simp; done) | (go_simp; intro h; omega)⟩) ?_
        refine wpAny_take (i := 2) (v := .int .i64 (K : Int)) rfl (by kernel_rfl) (by kernel_rfl) (by kernel_rfl) (fun _ _ _ h => h) (Or.inl ⟨by rfl, fun w => by first | (go_simp; done) | (go_simp; simp; done) | (go_simp; intro h; omega)⟩) ?_
        refine wpAny_take (i := 3) (v := .slice (some ⟨g1, 0, none⟩) K c1) rfl (by kernel_rfl) (by kernel_rfl) (by kernel_rfl) (fun _ _ _ h => h) (Or.inl ⟨by rfl, fun w => by first | (go_simp; done) | (go_simp; simp; done) | (go_simp; intro h; omega)⟩) ?_
        refine wpAny_take (i := 5) (v := .slice (some ⟨g1, 0, none⟩) k c1) rfl (by kernel_rfl) (by kernel_rfl) (by kernel_rfl) (fun _ _ _ h => h) (Or.inl ⟨by rfl, fun w => by first | (go_simp; done) | (go_simp; simp; done) | (go_simp; intro h; omega)⟩) ?_
        refine wpAny_take (i := 6) (v := .int .i64 (K : Int)) rfl (by kernel_rfl) (by kernel_rfl) (by kernel_rfl) (fun _ _ _ h => h) (Or.inl ⟨by rfl, fun w => by first | (go_simp; done) | (go_simp; simp; done) | (go_simp; intro h; omega)⟩) ?_
        refine wpAny_take (i := 7) (v := .int .i64 (J : Int)) rfl (by kernel_rfl) (by kernel_rfl) (by kernel_rfl) (fun _ _ _ h => h) (Or.inl ⟨by rfl, fun w => by first | (go_simp; done) | (go_simp; simp; done) | (go_simp; intro h; omega)⟩) ?_
        refine wpAny_take (i := 8) (v := .slice D1 (k - J) (c1 - J)) rfl (by kernel_rfl) (by kernel_rfl) (by kernel_rfl) (fun _ _ _ h => h) (Or.inl ⟨by rfl, fun w => by first | (go_simp; done) | (go_simp; simp; done) | (go_simp; intro h; omega)⟩) ?_
        refine wpAny_ready (rs := [0]) (by kernel_rfl) (by simp) ?_
        refine AllReady.cons rfl (fun K' hK => ?_) AllReady.nil
        go_simp
        refine hK _ _ ?_
        clear hK K'
        refine wpAny_ready (rs := [4]) (by kernel_rfl) (by simp) ?_
        refine AllReady.cons rfl (fun K' hK => ?_) AllReady.nil
        refine step_append_recs coldT rfl (.tmp 67) (.tmp 70) rfl W.heap.size 0 0 w1.heap.size K c1 (some ⟨W.heap.size, 0, none⟩) (some ⟨g1, 0, none⟩) [] (xs.take (K * 3)) rfl (OwnR.lit0 W _ (Nat.le_refl _) _ _) rfl ((HIW.out.firsts (m := K * 3) (Nat.mul_le_mul_right _ (by omega))).alloc hWs _) (by omega) (by simp) ?_
        intro A15 c15 w15 ho5 hg5 hat5
        clear hat5
        simp only [Nat.zero_add, List.nil_append] at ho5 ⊢
        have hB5 := below_app0 (Below.refl _ W) (Nat.le_refl _) (grown_undrawn hg5)
        have hs5 := hB5.size
        refine hK _ _ ?_
        clear hK K' hg5
        refine wpAny_ready (rs := [9]) (by kernel_rfl) (by simp) ?_
        refine AllReady.cons rfl (fun K' hK => ?_) AllReady.nil
        refine step_append_recs coldT rfl (.tmp 71) (.tmp 75) rfl W.heap.size K c15 w1.heap.size (k - J) _ A15 _ (xs.take (K * 3)) (xs.drop (J * 3)) rfl ho5 rfl ((HIDD.out _ HIW.out).below hB5 hWs) (by omega) hs5 ?_
        intro A17 c17 w17 ho7 hg7 hat7
        clear hat7
        have hB7 := hB5.grown hg7 hs5 (fun q e => (ho5.block q e).1)
        have hs7 := hB7.size
        refine hK _ _ ?_
        clear hK K' hg7 hB5 ho5 hs5
        have hp := implPutC A17 (K + (k - J)) c17 _ _ w17 ho7.ints (Nat.le_refl _) (by omega)
        have hvv : validC (xs.take (K * 3) ++ xs.drop (J * 3)) (K + (k - J)) = true := by rw [show K + (k - J) = k - 1 by omega]; exact HQ1.out
        rw [hvv] at hp
        refine wpAny_ready (rs := [10]) (by kernel_rfl) (by simp) ?_
        refine AllReady.cons rfl (fun K' hK => ?_) AllReady.nil
        go_simp
        go_at_call 11
        refine hp.mono ?_
        rintro e w18 ⟨A8, m8, c8, rfl, ho8, hB8⟩
        have hB9 := hB7.trans (hB8.mono hB7.size)
        refine hK _ _ ?_
        clear hK K' ho8 ho7 hp hB7 hB8
        refine wpAny_take (i := 11) (v := .tuple #[.slice A8 m8 c8, .bool true]) rfl (by kernel_rfl) (by kernel_rfl) (by kernel_rfl) (fun _ _ _ h => h) (Or.inl ⟨by rfl, fun w => by first | (go_simp; done) | (go_simp; simp; done) | (go_simp; intro h; omega)⟩) ?_
        refine wpAny_take (i := 12) (v := .slice A8 m8 c8) rfl (by kernel_rfl) (by kernel_rfl) (by kernel_rfl) (fun _ _ _ h => h) (Or.inl ⟨by rfl, fun w => by first | (go_simp; done) | (go_simp; simp; done) | (go_simp; intro h; omega)⟩) ?_
        refine wpAny_take (i := 13) (v := .bool true) rfl (by kernel_rfl) (by kernel_rfl) (by kernel_rfl) (fun _ _ _ h => h) (Or.inl ⟨by rfl, fun w => by first | (go_simp; done) | (go_simp; simp; done) | (go_simp; intro h; omega)⟩) ?_
        refine wpAny_take (i := 14) (v := .slice A8 m8 c8) rfl (by kernel_rfl) (by kernel_rfl) (by kernel_rfl) (fun _ _ _ h => h) (Or.inl ⟨by rfl, fun w => by first | (go_simp; done) | (go_simp; simp; done) | (go_simp; intro h; omega)⟩) ?_
        refine wpAny_take (i := 15) (v := .bool true) rfl (by kernel_rfl) (by kernel_rfl) (by kernel_rfl) (fun _ _ _ h => h) (Or.inl ⟨by rfl, fun w => by first | (go_simp; done) | (go_simp; simp; done) | (go_simp; intro h; omega)⟩) ?_
        refine wpAny_done (by kernel_rfl) ?_ _
        have hWs2 : w1.heap.size ≤ w18.heap.size := Nat.le_trans hWs hB9.size
        have HBW2 := hide (HBW.out.trans (hB9.mono HBW.out.size))
        have HIW2 := hide (HIW.out.below hB9 hWs)
        have hcK : ¬ c1 = K := by omega
        have hIE : ∀ W : World, Ints W w1.heap.size (some ⟨g1, 0, none⟩) (k * 3) xs → Ints W w1.heap.size (some ⟨g1, K * 3, none⟩) ((k - K) * 3) (xs.drop (K * 3)) := fun W h => by
          have h0 := h.cut (k := K * 3) (m := k * 3) (cap := c1 * 3) (Nat.mul_le_mul_right _ (by omega)) (Nat.le_refl _) (Nat.mul_le_mul_right _ hkc)
          rw [List.take_of_length_le (by rw [HLX.out]; exact Nat.le_refl _), Option.map_some, add_plain', ← Nat.sub_mul] at h0
          rw [if_neg (by omega)] at h0
          exact h0
        have HIEE := hide hIE
        clear hIE hB9
        go_wp2_with fail
        refine wp_region_any (by kernel_rfl) ?_
        try (change wpAny _ _ _ _ _ _ _ (World.drew _))
        refine wpAny_take (i := 1) (v := .slice (some ⟨g1, 0, none⟩) k c1) rfl (by kernel_rfl) (by kernel_rfl) (by kernel_rfl) (fun _ _ _ h => h) (Or.inl ⟨by rfl, fun w => by first | (go_simp; done) | (go_simp; simp; done) | (go_simp; intro h; omega)⟩) ?_
        refine wpAny_take (i := 2) (v := .int .i64 (K : Int)) rfl (by kernel_rfl) (by kernel_rfl) (by kernel_rfl) (fun _ _ _ h => h) (Or.inl ⟨by rfl, fun w => by first | (go_simp; done) | (go_simp; simp; done) | (go_simp; intro h; omega)⟩) ?_
        refine wpAny_take (i := 3) (v := .int .i64 (J : Int)) rfl (by kernel_rfl) (by kernel_rfl) (by kernel_rfl) (fun _ _ _ h => h) (Or.inl ⟨by rfl, fun w => by first | (go_simp; done) | (go_simp; simp; done) | (go_simp; intro h; omega)⟩) ?_
        refine wpAny_take (i := 4) (v := .slice (some ⟨g1, 0, none⟩) J c1) rfl (by kernel_rfl) (by kernel_rfl) (by kernel_rfl) (fun _ _ _ h => h) (Or.inl ⟨by rfl, fun w => by first | (go_simp; done) | (go_simp; simp; done) | (go_simp; intro h; omega)⟩) ?_
        refine wpAny_take (i := 6) (v := .slice (some ⟨g1, 0, none⟩) k c1) rfl (by kernel_rfl) (by kernel_rfl) (by kernel_rfl) (fun _ _ _ h => h) (Or.inl ⟨by rfl, fun w => by first | (go_simp; done) | (go_simp; simp; done) | (go_simp; intro h; omega)⟩) ?_
        refine wpAny_take (i := 7) (v := .int .i64 (K : Int)) rfl (by kernel_rfl) (by kernel_rfl) (by kernel_rfl) (fun _ _ _ h => h) (Or.inl ⟨by rfl, fun w => by first | (go_simp; done) | (go_simp; simp; done) | (go_simp; intro h; omega)⟩) ?_
        refine wpAny_take (i := 8) (v := .slice (some ⟨g1, K * 3, none⟩) (k - K) (c1 - K)) rfl (by kernel_rfl) (by kernel_rfl) (by kernel_rfl) (fun _ _ _ h => h) (Or.inl ⟨by rfl, fun w => by first | (go_simp; done) | (go_simp; simp; done) | (go_simp; intro h; omega)⟩) ?_
        refine wpAny_ready (rs := [0]) (by kernel_rfl) (by simp) ?_
        refine AllReady.cons rfl (fun K' hK => ?_) AllReady.nil
        go_simp
        refine hK _ _ ?_
        clear hK K'
        refine wpAny_ready (rs := [5]) (by kernel_rfl) (by simp) ?_
        refine AllReady.cons rfl (fun K' hK => ?_) AllReady.nil
        refine step_append_recs coldT rfl (.tmp 81) (.tmp 85) rfl w18.heap.size 0 0 w1.heap.size J c1 (some ⟨w18.heap.size, 0, none⟩) (some ⟨g1, 0, none⟩) [] (xs.take (J * 3)) rfl (OwnR.lit0 w18 _ (Nat.le_refl _) _ _) rfl ((HIW2.out.firsts (m := J * 3) (Nat.mul_le_mul_right _ (by omega))).alloc hWs2 _) (by omega) (by simp) ?_
        intro A25 c25 w25 ho5 hg5 hat5
        clear hat5
        simp only [Nat.zero_add, List.nil_append] at ho5 ⊢
        have hB5 := below_app0 (Below.refl _ w18) (Nat.le_refl _) (grown_undrawn hg5)
        have hs5 := hB5.size
        refine hK _ _ ?_
        clear hK K' hg5
        refine wpAny_ready (rs := [9]) (by kernel_rfl) (by simp) ?_
        refine AllReady.cons rfl (fun K' hK => ?_) AllReady.nil
        refine step_append_recs coldT rfl (.tmp 86) (.tmp 89) rfl w18.heap.size J c25 w1.heap.size (k - K) _ A25 _ (xs.take (J * 3)) (xs.drop (K * 3)) rfl ho5 rfl ((HIEE.out _ HIW2.out).below hB5 hWs2) (by omega) hs5 ?_
        intro A27 c27 w27 ho7 hg7 hat7
        clear hat7
        have hB7 := hB5.grown hg7 hs5 (fun q e => (ho5.block q e).1)
        have hs7 := hB7.size
        refine hK _ _ ?_
        clear hK K' hg7 hB5 ho5 hs5
        have hp := implPutC A27 (J + (k - K)) c27 _ _ w27 ho7.ints (Nat.le_refl _) (by omega)
        have hvv : validC (xs.take (J * 3) ++ xs.drop (K * 3)) (J + (k - K)) = false := by rw [show J + (k - K) = k + 1 by omega]; exact HQ2.out
        rw [hvv] at hp
        refine wpAny_ready (rs := [10]) (by kernel_rfl) (by simp) ?_
        refine AllReady.cons rfl (fun K' hK => ?_) AllReady.nil
        go_simp
        go_at_call 11
        refine hp.mono ?_
        rintro e w28 ⟨A8, m8, c8, rfl, ho8, hB8⟩
        have hB9 := hB7.trans (hB8.mono hB7.size)
        refine hK _ _ ?_
        clear hK K' ho8 ho7 hp hB7 hB8
        refine wpAny_take (i := 11) (v := .tuple #[.slice A8 m8 c8, .bool false]) rfl (by kernel_rfl) (by kernel_rfl) (by kernel_rfl) (fun _ _ _ h => h) (Or.inl ⟨by rfl, fun w => by first | (go_simp; done) | (go_simp; simp; done) | (go_simp; intro h; omega)⟩) ?_
        refine wpAny_take (i := 12) (v := .slice A8 m8 c8) rfl (by kernel_rfl) (by kernel_rfl) (by kernel_rfl) (fun _ _ _ h => h) (Or.inl ⟨by rfl, fun w => by first | (go_simp; done) | (go_simp; simp; done) | (go_simp; intro h; omega)⟩) ?_
        refine wpAny_take (i := 13) (v := .bool false) rfl (by kernel_rfl) (by kernel_rfl) (by kernel_rfl) (fun _ _ _ h => h) (Or.inl ⟨by rfl, fun w => by first | (go_simp; done) | (go_simp; simp; done) | (go_simp; intro h; omega)⟩) ?_
        refine wpAny_take (i := 14) (v := .slice A8 m8 c8) rfl (by kernel_rfl) (by kernel_rfl) (by kernel_rfl) (fun _ _ _ h => h) (Or.inl ⟨by rfl, fun w => by first | (go_simp; done) | (go_simp; simp; done) | (go_simp; intro h; omega)⟩) ?_
        refine wpAny_take (i := 15) (v := .bool false) rfl (by kernel_rfl) (by kernel_rfl) (by kernel_rfl) (fun _ _ _ h => h) (Or.inl ⟨by rfl, fun w => by first | (go_simp; done) | (go_simp; simp; done) | (go_simp; intro h; omega)⟩) ?_
        refine wpAny_done (by kernel_rfl) ?_ _
        go_wp2
        go_ret
        exact ⟨rfl, HBW2.out.trans (hB9.mono HBW2.out.size)⟩

end Go.Proofs.Ytefgngfcdigllaa
