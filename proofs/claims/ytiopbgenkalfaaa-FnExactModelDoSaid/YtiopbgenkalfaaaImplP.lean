/-
  impl.pairsValid, impl.PairsPut.
-/
import Derived.Test.YtiopbgenkalfaaaIterP
import Derived.Test.YtiopbgenkalfaaaMake
namespace Go.Proofs.Ytiopbgenkalfaaa
open Go.RowKit Go.Shelf
set_option linter.unusedVariables false
set_option maxRecDepth 100000

set_option maxHeartbeats 3200000 in
theorem implValidP (A : Option Addr) (n c B : Nat) (xs : List Int) (w : World) (hr : Ints w B A (n * 2) xs) (hB : B ≤ w.heap.size) (hn : n ≤ 1000000000) :
    Calls Try.prog 47 #[.slice A n c] w fun e w' => e = .returned (.bool (validP xs n)) ∧ Below w.heap.size w w' := by
  have HR := hide hr
  have HB := hide hB
  clear hr
  by_cases h0 : n < 1
  · have HV := hide (validR_len (s := 2) (f := fldP) (xs := xs) (n := n) (mx := 9) (by simp [inB]; omega))
    go_enter Try.func47, Try.ntmps47
    go_wp2
    go_ret
    exact ⟨ret_bool HV.out.symm, Below.refl _ _⟩
  by_cases h9 : 9 < n
  · have HV := hide (validR_len (s := 2) (f := fldP) (xs := xs) (n := n) (mx := 9) (by simp [inB]; omega))
    go_enter Try.func47, Try.ntmps47
    go_wp2
    go_ret
    exact ⟨ret_bool HV.out.symm, Below.refl _ _⟩
  have HN := hide (inB_true (n := n) (lo := 1) (hi := 9) (by omega) (by omega))
  go_enter Try.func47, Try.ntmps47
  go_wp2_with fail
  go_loopw [15] (fun i wr => ∃ k : Nat, k ≤ n ∧ i = .int .i64 k ∧ Hid (vals fldP xs k = true) ∧ Hid (Below w.heap.size w wr)) (fun i _ => n - (intOf i).toNat)
  case atStart => exact ⟨0, Nat.zero_le _, rfl, rfl, Below.refl _ _⟩
  case round =>
    obtain ⟨k, hk, rfl, HV, HW⟩ := hrel
    by_cases hlt : k < n
    · obtain ⟨ad, q, rfl, hq, hb, hc0, hc1⟩ := ints_at2 (HR.out.below HW.out HB.out) hlt
      have hf := fldP_in xs k
      obtain ⟨x0, hx0⟩ : ∃ x, xs.getD (k * 2) 0 = x := ⟨_, rfl⟩
      rw [hx0] at hc0
      obtain ⟨x1, hx1⟩ : ∃ x, xs.getD (k * 2 + 1) 0 = x := ⟨_, rfl⟩
      rw [hx1] at hc1
      rw [hx1] at hf
      have HF := hide hf
      have hsz := HW.out.size
      have HBA := hide (HW.out.alloc hsz (.cells #[.int .i64 x0, .int .i64 x1] 42))
      clear hf hx0 hx1
      by_cases t0 : x1 < 0
      · have hbad : fldP xs k = false := by rw [HF.out]; simp [inB]; omega
        have HBAD := hide (validR_fld (s := 2) (mx := 9) (f := fldP) hlt hbad)
        clear hbad
        go_wp2
        go_ret
        exact ⟨ret_bool HBAD.out.symm, HBA.out⟩
      · by_cases t1 : 99 < x1
        · have hbad : fldP xs k = false := by rw [HF.out]; simp [inB]; omega
          have HBAD := hide (validR_fld (s := 2) (mx := 9) (f := fldP) hlt hbad)
          clear hbad
          go_wp2
          go_ret
          exact ⟨ret_bool HBAD.out.symm, HBA.out⟩
        · have hgood : fldP xs k = true := by rw [HF.out]; simp [inB]; omega
          have HG := hide (vals_succ HV.out hgood)
          clear hgood
          go_wp2
          go_roundw
          case rel => exact ⟨k + 1, by omega, by go_num, HG.out, HBA.out⟩
          case measure => simp [intOf]; omega
    · obtain rfl : k = n := by omega
      have HVA := hide (validR_asc (s := 2) HN.out HV.out)
      have HI := hide (HR.out.below HW.out HB.out)
      have hsz := HW.out.size
      go_wp2_with fail
      refine (pairBlocks_any A k c _).mono ?_
      rintro e w1 ⟨rfl, rfl⟩
      have HAS := hide (callsIn_wide.1 (ascend_in _ _ (blocksOf 2 xs k) wr.heap.size k 4 (Nat.le_refl _) (wr.alloc (.cells #[.slice A k c] 33)) (by simp) (enters_of Try.func79 (by kernel_rfl) rfl)
        (pairBlocks_stops A k c 3 wr.heap.size wr.heap.size xs _ (by omega) (by simp) (by simp) ((Blk.new wr 33 #[.slice A k c]).cell 0) ((HI.out.more (by omega)).alloc (Nat.le_refl _) _) (by omega))))
      rw [blocksOf_length, asc_blocks] at HAS
      go_wp2_with fail
      refine HAS.out.mono ?_
      rintro e w2 ⟨rfl, hb2⟩
      go_wp2
      go_ret
      exact ⟨ret_bool HVA.out.symm, (HW.out.alloc hsz _).trans (hb2.mono (by simp; omega))⟩

set_option maxHeartbeats 3200000 in
theorem implPutP (A : Option Addr) (n c B : Nat) (xs : List Int) (w : World) (hr : Ints w B A (n * 2) xs) (hB : B ≤ w.heap.size) (hn : n ≤ 1000000000) :
    Calls Try.prog 18 #[.slice A n c] w (PutPost w (validP xs n) xs) := by
  have HR := hide hr
  have HV := hide (implValidP A n c B xs w hr hB hn)
  have HL := hide hr.1
  clear hr
  generalize validP xs n = v at HV ⊢
  go_enter Try.func18, Try.ntmps18
  go_wp2_with fail
  refine HV.out.mono ?_
  rintro e w1 ⟨rfl, hb1⟩
  have HB1 := hide hb1
  have HI1 := hide (HR.out.below hb1 hB)
  have hs1 := hb1.size
  clear hb1 HV
  rcases v with _ | _
  · go_wp2
    go_ret2
    exact ⟨_, _, _, rfl, Own.nil_ _ _, HB1.out⟩
  · go_wp2_with (at_make; refine wpList_make_ints0 rfl _ _ rfl _ _ (n * 2) rfl rfl rfl (by simp; omega) (by omega) ?_; intro w2 ho2 hb2 hs2)
    have HI2 := hide (HI1.out.below hb2 (by omega))
    have HB2 := hide (HB1.out.trans (hb2.mono hs1))
    have hs3 := hb2.size
    have hB2 : B ≤ w2.heap.size := by omega
    have HO2 := hide (ho2.mono hs1)
    clear hb2 ho2
    go_loopw [4, 16] (fun o i wr => ∃ (k d c2 : Nat) (A2 : Option Addr), k ≤ n ∧ d = k * 2 ∧ i = .int .i64 k ∧ o = .slice A2 d c2 ∧ Hid (Own wr w.heap.size A2 d c2 (xs.take d)) ∧ Hid (Below w.heap.size w wr)) (fun _ i _ => n - (intOf i).toNat)
    case atStart => exact ⟨0, 0, _, _, Nat.zero_le _, by simp, rfl, rfl, HO2, HB2⟩
    case round =>
      obtain ⟨k, d, c2, A2, hk, hd, rfl, rfl, HO, HW⟩ := hrel
      by_cases hlt : k < n
      · obtain ⟨ad, q, rfl, hq, hb, hc0, hc1⟩ := ints_at2 (HR.out.below HW.out hB) hlt
        have HX := hide (take_rec2 xs k (by have := HL.out; omega))
        rw [← hd] at HX
        obtain ⟨x0, hx0⟩ : ∃ x, xs.getD (k * 2) 0 = x := ⟨_, rfl⟩
        rw [hx0] at hc0
        obtain ⟨x1, hx1⟩ : ∃ x, xs.getD (k * 2 + 1) 0 = x := ⟨_, rfl⟩
        rw [hx1] at hc1
        rw [hd, hx0, hx1, ← hd] at HX
        clear hx0 hx1
        have hsz := HW.out.size
        have HWA := hide (HW.out.alloc hsz (.cells #[.int .i64 x0, .int .i64 x1] 42))
        have HOA := hide (HO.out.alloc (.cells #[.int .i64 x0, .int .i64 x1] 42))
        have HD := hide hd
        have hd2 : d ≤ 3000000000 := by omega
        clear hd
        go_wp2_with (at_builtin; refine wpList_append_ints rfl _ _ rfl w.heap.size d c2 (wr.heap.size + 1 + 1) 2 2 _ _ (xs.take d) [x0, x1] rfl (HOA.out.alloc (.cells #[.int .i64 x0, .int .i64 x1] 3)) rfl (by simpa using Ints.rec2 (wr.alloc (.cells #[.int .i64 x0, .int .i64 x1] 42)) 3 x0 x1) (by omega) (by simp; omega) ?_; intro A3 c3 w3 ho3 hg3 hat3; clear hat3)
        have hB3 := below_app HWA.out (by simp; omega) HOA.out (Nat.le_refl _) hg3
        rw [HX.out] at ho3
        rw [show d + 2 = (k + 1) * 2 by have := HD.out; omega] at ho3
        have HOK := hide ho3
        clear ho3 hg3
        go_roundw
        case rel => exact ⟨k + 1, d + 2, c3, A3, by omega, by have := HD.out; omega, by go_num, rfl, by rw [show d + 2 = (k + 1) * 2 by have := HD.out; omega]; exact HOK.out, hB3⟩
        case measure => simp [intOf]; omega
      · obtain rfl : k = n := by omega
        subst hd
        go_wp2
        go_ret2
        have ho := HO.out
        rw [List.take_of_length_le (by rw [HL.out]; exact Nat.le_refl _)] at ho
        exact ⟨_, _, _, rfl, ho, HW.out⟩
end Go.Proofs.Ytiopbgenkalfaaa
