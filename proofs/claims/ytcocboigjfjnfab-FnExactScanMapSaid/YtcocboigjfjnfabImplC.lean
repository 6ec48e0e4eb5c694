/-
  impl.coldValid, impl.ColdPut.
-/
import Derived.Test.YtcocboigjfjnfabIterC
import Derived.Test.YtcocboigjfjnfabMake
namespace Go.Proofs.Ytcocboigjfjnfab
open Go.RowKit Go.Shelf
set_option linter.unusedVariables false
set_option maxRecDepth 100000

set_option maxHeartbeats 3200000 in
theorem implValidC (A : Option Addr) (n c B : Nat) (xs : List Int) (w : World) (hr : Ints w B A (n * 3) xs) (hB : B ≤ w.heap.size) (hn : n ≤ 1000000000) :
    Calls Try.prog 80 #[.slice A n c] w fun e w' => e = .returned (.bool (validC xs n)) ∧ Below w.heap.size w w' := by
  have HR := hide hr
  have HB := hide hB
  clear hr
  by_cases h0 : n < 1
  · have HV := hide (validR_len (s := 3) (f := fldC) (xs := xs) (n := n) (mx := 6) (by simp [inB]; omega))
    go_enter Try.func80, Try.ntmps80
    go_wp2
    go_ret
    exact ⟨ret_bool HV.out.symm, Below.refl _ _⟩
  by_cases h9 : 6 < n
  · have HV := hide (validR_len (s := 3) (f := fldC) (xs := xs) (n := n) (mx := 6) (by simp [inB]; omega))
    go_enter Try.func80, Try.ntmps80
    go_wp2
    go_ret
    exact ⟨ret_bool HV.out.symm, Below.refl _ _⟩
  have HN := hide (inB_true (n := n) (lo := 1) (hi := 6) (by omega) (by omega))
  go_enter Try.func80, Try.ntmps80
  go_wp2_with fail
  go_loopw [15] (fun i wr => ∃ k : Nat, k ≤ n ∧ i = .int .i64 k ∧ Hid (vals fldC xs k = true) ∧ Hid (Below w.heap.size w wr)) (fun i _ => n - (intOf i).toNat)
  case atStart => exact ⟨0, Nat.zero_le _, rfl, rfl, Below.refl _ _⟩
  case round =>
    obtain ⟨k, hk, rfl, HV, HW⟩ := hrel
    by_cases hlt : k < n
    · obtain ⟨ad, q, rfl, hq, hb, hc0, hc1, hc2⟩ := ints_at3 (HR.out.below HW.out HB.out) hlt
      have hf := fldC_in xs k
      obtain ⟨x0, hx0⟩ : ∃ x, xs.getD (k * 3) 0 = x := ⟨_, rfl⟩
      rw [hx0] at hc0
      obtain ⟨x1, hx1⟩ : ∃ x, xs.getD (k * 3 + 1) 0 = x := ⟨_, rfl⟩
      rw [hx1] at hc1
      obtain ⟨x2, hx2⟩ : ∃ x, xs.getD (k * 3 + 2) 0 = x := ⟨_, rfl⟩
      rw [hx2] at hc2
      rw [hx1, hx2] at hf
      have HF := hide hf
      have hsz := HW.out.size
      have HBA := hide (HW.out.alloc hsz (.cells #[.int .i64 x0, .int .i64 x1, .int .i64 x2] 102))
      clear hf hx0 hx1 hx2
      by_cases t0 : x1 < 1
      · have hbad : fldC xs k = false := by rw [HF.out]; simp [inB]; omega
        have HBAD := hide (validR_fld (s := 3) (mx := 6) (f := fldC) hlt hbad)
        clear hbad
        go_wp2
        go_ret
        exact ⟨ret_bool HBAD.out.symm, HBA.out⟩
      · by_cases t1 : 999 < x1
        · have hbad : fldC xs k = false := by rw [HF.out]; simp [inB]; omega
          have HBAD := hide (validR_fld (s := 3) (mx := 6) (f := fldC) hlt hbad)
          clear hbad
          go_wp2
          go_ret
          exact ⟨ret_bool HBAD.out.symm, HBA.out⟩
        · by_cases t2 : x2 < 0
          · have hbad : fldC xs k = false := by rw [HF.out]; simp [inB]; omega
            have HBAD := hide (validR_fld (s := 3) (mx := 6) (f := fldC) hlt hbad)
            clear hbad
            go_wp2
            go_ret
            exact ⟨ret_bool HBAD.out.symm, HBA.out⟩
          · by_cases t3 : 6 ≤ x2
            · have hbad : fldC xs k = false := by rw [HF.out]; simp [inB]; omega
              have HBAD := hide (validR_fld (s := 3) (mx := 6) (f := fldC) hlt hbad)
              clear hbad
              go_wp2
              go_ret
              exact ⟨ret_bool HBAD.out.symm, HBA.out⟩
            · have hgood : fldC xs k = true := by rw [HF.out]; simp [inB]; omega
              have HG := hide (vals_succ HV.out hgood)
              clear hgood
              go_wp2
              go_roundw
              case rel => exact ⟨k + 1, by omega, by go_num, HG.out, HBA.out⟩
              case measure => simp [intOf]; omega
    · obtain rfl : k = n := by omega
      have HVA := hide (validR_asc (s := 3) HN.out HV.out)
      have HI := hide (HR.out.below HW.out HB.out)
      have hsz := HW.out.size
      go_wp2_with fail
      refine (coldBlocks_any A k c _).mono ?_
      rintro e w1 ⟨rfl, rfl⟩
      have HAS := hide (callsIn_wide.1 (ascend_in _ _ (blocksOf 3 xs k) wr.heap.size k 4 (Nat.le_refl _) (wr.alloc (.cells #[.slice A k c] 93)) (by simp) (enters_of Try.func98 (by kernel_rfl) rfl)
        (coldBlocks_stops A k c 3 wr.heap.size wr.heap.size xs _ (by omega) (by simp) (by simp) ((Blk.new wr 93 #[.slice A k c]).cell 0) ((HI.out.more (by omega)).alloc (Nat.le_refl _) _) (by omega))))
      rw [blocksOf_length, asc_blocks] at HAS
      go_wp2_with fail
      refine HAS.out.mono ?_
      rintro e w2 ⟨rfl, hb2⟩
      go_wp2
      go_ret
      exact ⟨ret_bool HVA.out.symm, (HW.out.alloc hsz _).trans (hb2.mono (by simp; omega))⟩

end Go.Proofs.Ytcocboigjfjnfab
