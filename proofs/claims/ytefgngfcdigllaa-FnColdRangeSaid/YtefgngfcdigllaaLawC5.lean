/-
  The walk of FnColdRange.
-/
import Derived.Test.YtefgngfcdigllaaColC
import Derived.Test.YtefgngfcdigllaaSpecC
import Derived.Test.YtefgngfcdigllaaDrawGC
import Derived.Test.YtefgngfcdigllaaInts
import Derived.Test.YtefgngfcdigllaaPartM
import Derived.Deep.RegionHeld3
import Derived.Deep.CutBlock
namespace Go.Proofs.Ytefgngfcdigllaa
open Go.RowKit
set_option linter.unusedVariables false
set_option maxRecDepth 100000

set_option maxHeartbeats 6400000 in
theorem coldRange_walk (A : Option Addr) (n c : Nat) (bs : Nat → Int) (w : World) (hb : Bytes w w.heap.size A n bs) (hn : n ≤ c) (hc : c ≤ maxLen) :
    Calls Try.prog 7 #[.slice A n c] w fun e w' => e = .returned (.bool true) ∧ Below w.heap.size w w' := by
  by_cases hbig : 1048576 < n
  · go_enter Try.func7, Try.ntmps7
    go_wp2
    go_ret
    exact ⟨rfl, Below.refl _ _⟩
  · go_enter Try.func7, Try.ntmps7
    go_wp2_with fail
    refine (drawC_any A n c bs _ hb hn hc).mono ?_
    rintro e w1 ⟨A1, k, c1, xs, rfl, ho1, hk, hB1⟩
    have HB1 := hide hB1
    have HI1 := hide ho1.ints
    have hcap := ho1.cap
    have hs1 := hB1.size
    have HLX := hide ho1.1
    obtain ⟨v, hv⟩ : ∃ v, validC xs k = v := ⟨_, rfl⟩
    have hp1 := implPutC A1 k c1 _ xs w1 ho1.ints (Nat.le_refl _) (by omega)
    rw [hv] at hp1
    have HP1 := hide hp1
    have HP2 : Hid (∀ W : World, Below w1.heap.size w1 W → Calls Try.prog 12 #[.slice A1 k c1] W (PutPost W v xs)) := fun W h => by
      have hp2 := specPutC A1 k c1 _ xs W (HI1.out.below h (Nat.le_refl _)) h.size (by omega)
      rwa [hv] at hp2
    have HV := hide hv
    have HO1 := hide ho1
    clear ho1 hB1 hb hp1 hv
    go_wp2_with fail
    refine HP1.out.mono ?_
    rintro e w2 ⟨A2, m2, c2, rfl, ho2, hB2⟩
    have HB2 := hide (HB1.out.trans (hB2.mono hs1))
    have HW2 := hide hB2
    have HO2 := hide ho2
    have hs2 := hB2.size
    clear ho2 hB2 HP1
    go_wp2_with fail
    refine (HP2.out _ HW2.out).mono ?_
    rintro e w3 ⟨A3, m3, c3, rfl, ho3, hB3⟩
    obtain rfl : m3 = m2 := ho3.1.symm.trans HO2.out.1
    have HB3 := hide (HB2.out.trans (hB3.mono HB2.out.size))
    have HW3 := hide (HW2.out.trans (hB3.mono hs2))
    have HO2' := hide (HO2.out.below hB3)
    have HI3 := hide ho3.ints
    have hs3 := hB3.size
    have hm : m3 ≤ 1000 := by
      have h := HO2.out.1
      have h2 := HLX.out
      split at h
      · omega
      · simp at h; omega
    have hmm : m3 ≤ maxLen := by unfold maxLen; omega
    have HYES : Hid (∀ W : World, Below w3.heap.size w3 W → Calls Try.prog 13 #[.slice A2 m3 c2, .slice A3 m3 c3] W fun e w' => e = .returned (.bool true) ∧ ∃ q, w' = W.drewN q) := fun W h =>
      sameInts_yes A2 A3 m3 c2 m3 c3 _ _ _ _ W (HO2'.out.ints.below h (Nat.le_refl _)) (HI3.out.below h (Nat.le_refl _)) hmm hmm rfl
    clear ho3 hB3 HP2 HO2
    rcases v with _ | _
    · go_wp2_with fail
      refine (HYES.out _ (Below.refl _ _)).mono ?_
      rintro e w4 ⟨rfl, q, rfl⟩
      go_wp2_with fail
      refine (HYES.out _ (below_drewN (Below.refl _ _) q)).mono ?_
      rintro e w5 ⟨rfl, q', rfl⟩
      go_wp2
      go_ret
      exact ⟨rfl, below_drewN HB3.out _⟩
    · have HOW := hide (show Own w3 w1.heap.size A2 m3 c2 xs from HO2'.out)
      have HM := hide (HOW.out.1.symm.trans HLX.out)
      clear HO2'
      have hk1 : 1 ≤ k := by have h := validR_iff.1 HV.out; omega
      have hkc : k ≤ c1 := hcap.1
      have hw13 : w1.heap.size ≤ w3.heap.size := HW3.out.size
      go_wp2_with fail
      refine (HYES.out _ (Below.refl _ _)).mono ?_
      rintro e w4 ⟨rfl, q, rfl⟩
      have HBW := hide (below_drewN HB3.out q)
      have HIW := hide ((HI1.out.below HW3.out (Nat.le_refl _)).drewN q)
      have hWs : w1.heap.size ≤ (w3.drewN q).heap.size := hw13
      generalize w3.drewN q = W at HBW HIW hWs ⊢
      go_upto_region 10 with (at_builtin; refine wpList_append_recs coldT rfl (.tmp 50) (.tmp 51) rfl W.heap.size 0 0 w1.heap.size k c1 _ _ [] xs rfl (OwnR.lit0 W _ (Nat.le_refl _) _ _) rfl (HIW.out.alloc hWs _) (by omega) (by simp) ?_; intro A5 c5 w5 ho5 hg5 hat5; clear hat5; simp only [Nat.zero_add, List.nil_append] at ho5 ⊢; obtain ⟨g5, rfl, hg5b, hg5l⟩ := ho5.shape (by omega); have hB5 := below_app0 (Below.refl _ W) (Nat.le_refl _) hg5; clear hg5; have hc1 := ho5.cell (g := g5) (j := 1) (by omega); have hf1 := ho5.free (g := g5) (j := 1))
      have hst := ho5.stored (g := g5) (j := 1) 0
      have hB5s := hB5.grown hst.2 hB5.size (fun q e => by injection e with e; omega)
      have HX5 := hide hst.1
      have hs5 := hB5s.size
      generalize w5.setCell ⟨g5, 1, none⟩ (.int .i64 0) = W5 at hB5s HX5 hs5 ⊢
      clear hst hc1 hf1 ho5 hB5
      go_upto_region 12 with (at_builtin; refine wpList_append_recs coldT rfl (.tmp 56) (.tmp 57) rfl W5.heap.size 0 0 w1.heap.size k c1 _ _ [] xs rfl (OwnR.lit0 W5 _ (Nat.le_refl _) _ _) rfl ((HIW.out.below hB5s hWs).alloc (by omega) _) (by omega) (by simp) ?_; intro A6 c6 w6 ho6 hg6 hat6; clear hat6; simp only [Nat.zero_add, List.nil_append] at ho6 ⊢; obtain ⟨g6, rfl, hg6b, hg6l⟩ := ho6.shape (by omega); have hB6 := below_app0 (Below.refl _ W5) (Nat.le_refl _) hg6; clear hg6; have hc2 := ho6.cell (g := g6) (j := 2) (by omega); have hf2 := ho6.free (g := g6) (j := 2))
      have hst := ho6.stored (g := g6) (j := 2) 6
      have hB6s := hB6.grown hst.2 hB6.size (fun q e => by injection e with e; omega)
      have HY6 := hide hst.1
      have HX6 := hide (HX5.out.below hB6s)
      have hs6 := hB6s.size
      have HB7 := hide ((HBW.out.trans (hB5s.mono HBW.out.size)).trans (hB6s.mono (by have := HBW.out.size; omega)))
      generalize w6.setCell ⟨g6, 2, none⟩ (.int .i64 6) = W7 at HX6 HY6 HB7 hs6 hB6s ⊢
      clear hst hc2 hf2 ho6 hB6 hB6s hB5s
      have hp1 := implPutC (some ⟨g5, 0, none⟩) k c5 _ (xs.set 1 0) W7 HX6.out.ints (Nat.le_refl _) (by omega)
      have e1 : validC (xs.set 1 0) k = false := id_bad HLX.out (by omega)
      rw [e1] at hp1
      have HP1 := hide hp1
      have HP2 : Hid (∀ W' : World, Below W7.heap.size W7 W' → Calls Try.prog 11 #[.slice (some ⟨g6, 0, none⟩) k c6] W' (PutPost W' false (xs.set 2 6))) := fun W' h => by
        have h2 := implPutC (some ⟨g6, 0, none⟩) k c6 _ (xs.set 2 6) W' (HY6.out.ints.below h (Nat.le_refl _)) h.size (by omega)
        have e2 : validC (xs.set 2 6) k = false := index_bad HLX.out (by omega)
        rwa [e2] at h2
      clear hp1 e1
      go_wp2_with fail
      refine HP1.out.mono ?_
      rintro e w8 ⟨A8, m8, c8, rfl, ho8, hB8⟩
      have HB8 := hide (HB7.out.trans (hB8.mono HB7.out.size))
      have HW8 := hide hB8
      clear ho8 hB8 HP1
      go_wp2_with fail
      refine (HP2.out _ HW8.out).mono ?_
      rintro e w9 ⟨A9, m9, c9, rfl, ho9, hB9⟩
      go_wp2
      go_ret
      exact ⟨rfl, HB8.out.trans (hB9.mono HB8.out.size)⟩
end Go.Proofs.Ytefgngfcdigllaa
