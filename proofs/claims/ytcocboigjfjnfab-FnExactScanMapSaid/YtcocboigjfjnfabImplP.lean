/-
  impl.pairsValid, impl.PairsPut.
-/
import Derived.Test.YtcocboigjfjnfabIterP
import Derived.Test.YtcocboigjfjnfabMake
namespace Go.Proofs.Ytcocboigjfjnfab
open Go.RowKit Go.Shelf
set_option linter.unusedVariables false
set_option maxRecDepth 100000

set_option maxHeartbeats 3200000 in
theorem implValidP (A : Option Addr) (n c B : Nat) (xs : List Int) (w : World) (hr : Ints w B A (n * 2) xs) (hB : B ≤ w.heap.size) (hn : n ≤ 1000000000) :
    Calls Try.prog 77 #[.slice A n c] w fun e w' => e = .returned (.bool (validP xs n)) ∧ Below w.heap.size w w' := by
  have HR := hide hr
  have HB := hide hB
  clear hr
  by_cases h0 : n < 1
  · have HV := hide (validR_len (s := 2) (f := fldP) (xs := xs) (n := n) (mx := 9) (by simp [inB]; omega))
    go_enter Try.func77, Try.ntmps77
    go_wp2
    go_ret
    exact ⟨ret_bool HV.out.symm, Below.refl _ _⟩
  by_cases h9 : 9 < n
  · have HV := hide (validR_len (s := 2) (f := fldP) (xs := xs) (n := n) (mx := 9) (by simp [inB]; omega))
    go_enter Try.func77, Try.ntmps77
    go_wp2
    go_ret
    exact ⟨ret_bool HV.out.symm, Below.refl _ _⟩
  have HN := hide (inB_true (n := n) (lo := 1) (hi := 9) (by omega) (by omega))
  go_enter Try.func77, Try.ntmps77
  go_wp2_with fail
  go_loopw [15] (fun i wr => ∃ k : Nat, k ≤ n ∧ i = .int .i64 k ∧ Hid (vals fldP xs k = true) ∧ Hid (Below w.heap.size w wr)) (fun i _ => n - (intOf i).toNat)
  case atStart => exact ⟨0, Nat.zero_le _, rfl, rfl, Below.refl _ _⟩
  case round =>
    obtain ⟨k, hk, rfl, HV, HW⟩ := hrel
    by_cases hlt : k < n
    · obtain ⟨ad, q, rfl, hq, hb, hc0, hc1⟩ := ints_at2 (HR.out.below HW.out HB.out) hlt
      have hf := fldP_in xs k
      obtain ⟨x0, hx0⟩ : ∃ x, xs.getD (k * 2) 0 = x := ⟨_, rfl⟩
      rw [hx0] at hc0
      obtain ⟨x1, hx1⟩ : ∃ x, xs.getD (k * 2 + 1) 0 = x := ⟨_, rfl⟩
      rw [hx1] at hc1
      rw [hx1] at hf
      have HF := hide hf
      have hsz := HW.out.size
      have HBA := hide (HW.out.alloc hsz (.cells #[.int .i64 x0, .int .i64 x1] 99))
      clear hf hx0 hx1
      by_cases t0 : x1 < 0
      · have hbad : fldP xs k = false := by rw [HF.out]; simp [inB]; omega
        have HBAD := hide (validR_fld (s := 2) (mx := 9) (f := fldP) hlt hbad)
        clear hbad
        go_wp2
        go_ret
        exact ⟨ret_bool HBAD.out.symm, HBA.out⟩
      · by_cases t1 : 99 < x1
        · have hbad : fldP xs k = false := by rw [HF.out]; simp [inB]; omega
          have HBAD := hide (validR_fld (s := 2) (mx := 9) (f := fldP) hlt hbad)
          clear hbad
          go_wp2
          go_ret
          exact ⟨ret_bool HBAD.out.symm, HBA.out⟩
        · have hgood : fldP xs k = true := by rw [HF.out]; simp [inB]; omega
          have HG := hide (vals_succ HV.out hgood)
          clear hgood
          go_wp2
          go_roundw
          case rel => exact ⟨k + 1, by omega, by go_num, HG.out, HBA.out⟩
          case measure => simp [intOf]; omega
    · obtain rfl : k = n := by omega
      have HVA := hide (validR_asc (s := 2) HN.out HV.out)
      have HI := hide (HR.out.below HW.out HB.out)
      have hsz := HW.out.size
      go_wp2_with fail
      refine (pairBlocks_any A k c _).mono ?_
      rintro e w1 ⟨rfl, rfl⟩
      have HAS := hide (callsIn_wide.1 (ascend_in _ _ (blocksOf 2 xs k) wr.heap.size k 4 (Nat.le_refl _) (wr.alloc (.cells #[.slice A k c] 88)) (by simp) (enters_of Try.func97 (by kernel_rfl) rfl)
        (pairBlocks_stops A k c 3 wr.heap.size wr.heap.size xs _ (by omega) (by simp) (by simp) ((Blk.new wr 88 #[.slice A k c]).cell 0) ((HI.out.more (by omega)).alloc (Nat.le_refl _) _) (by omega))))
      rw [blocksOf_length, asc_blocks] at HAS
      go_wp2_with fail
      refine HAS.out.mono ?_
      rintro e w2 ⟨rfl, hb2⟩
      go_wp2
      go_ret
      exact ⟨ret_bool HVA.out.symm, (HW.out.alloc hsz _).trans (hb2.mono (by simp; omega))⟩

end Go.Proofs.Ytcocboigjfjnfab
