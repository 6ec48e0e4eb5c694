/-
  The program's HeatColdest.
-/
import Derived.Test.YtnkflcibbhoedaaImpH2
import Derived.Test.YtnkflcibbhoedaaSortI
import Derived.Test.YtnkflcibbhoedaaDrawA
namespace Go.Proofs.Ytnkflcibbhoedaa
open Go.RowKit Go.Sort Go.Shelf
set_option linter.unusedVariables false
set_option maxRecDepth 100000

set_option maxHeartbeats 6400000 in
theorem implHC (A A' : Option Addr) (n c m d B B' : Nat) (h ls : List Int) (many : Int) (w : World) (hr : Ints w B A n h) (hB : B ≤ w.heap.size) (hn : n ≤ 1000000000)
    (hl : Ints w B' A' m ls) (hB' : B' ≤ w.heap.size) (hm : m ≤ 1000000000) (hmy : many ≤ 9223372036854775807) :
    Calls Try.prog 24 #[.slice A n c, .slice A' m d, .int .i64 many] w (LPost w (coldS h ls many)) := by
  have HI := hide hr
  have HL := hide hl
  have HV := hide (implHV A n c B h w hr (by omega))
  rcases hv : hV h with _ | _
  · rw [coldS_no many (.inl hv)]
    rw [hv] at HV
    clear hv hr hl
    go_enter Try.func24, Try.ntmps24
    go_wp2_with (go_at_call 18; refine HV.out.mono ?_; rintro e w' ⟨rfl, rfl⟩)
    go_ret
    exact ⟨_, _, _, rfl, Own.nil_ _ _, Go.RowKit.Below.refl _ _⟩
  · have HAS := hide (callsIn_wide.1 (ascend_in _ _ (blocksOf 1 ls m) w.heap.size m 4 (Nat.le_refl _) (w.alloc (.cells #[.slice A' m d] 23)) (by simp) (enters_of Try.func45 (by kernel_rfl) rfl)
      (values_stops A' m d 3 w.heap.size w.heap.size ls _ (by omega) (by simp) (by simp) ((Blk.new w 23 #[.slice A' m d]).cell 0) ((hl.more hB').alloc (Nat.le_refl _) _) hm)))
    rw [blocksOf_length, blocksOf_one hl.1] at HAS
    have eA : asc 1 ls m = ascB ls := by unfold ascB; rw [hl.1]
    rw [eA] at HAS
    rw [hv] at HV
    have HVV := hide hv
    have hn12 : n = 12 := hr.1.symm.trans (hV_len hv)
    subst hn12
    clear eA hr hl
    rcases ha : ascB ls with _ | _
    · rw [coldS_no many (.inr ha)]
      rw [ha] at HAS
      clear ha hv
      go_enter Try.func24, Try.ntmps24
      go_wp2_with (first
        | (go_at_call 18; refine HV.out.mono ?_; rintro e w' ⟨rfl, rfl⟩)
        | (go_at_call 39; refine (values_any _ _ _ _).mono ?_; rintro e w1 ⟨rfl, rfl⟩)
        | (go_at_call 38; refine HAS.out.mono ?_; rintro e w2 ⟨rfl, hb2⟩; have HB2 := hide ((below_new w _).trans (hb2.mono (by simp))); clear hb2))
      go_ret
      exact ⟨_, _, _, rfl, Own.nil_ _ _, HB2.out⟩
    · rw [ha] at HAS
      by_cases hlow : many ≤ 0
      · rw [coldS_low h ls hlow]
        clear ha hv
        go_enter Try.func24, Try.ntmps24
        go_wp2_with (first
          | (go_at_call 18; refine HV.out.mono ?_; rintro e w' ⟨rfl, rfl⟩)
          | (go_at_call 39; refine (values_any _ _ _ _).mono ?_; rintro e w1 ⟨rfl, rfl⟩)
          | (go_at_call 38; refine HAS.out.mono ?_; rintro e w2 ⟨rfl, hb2⟩; have HB2 := hide ((below_new w _).trans (hb2.mono (by simp))); clear hb2))
        go_ret
        exact ⟨_, _, _, rfl, Own.nil_ _ _, HB2.out⟩
      · rw [coldS_yes many hv ha]
        have HAA := hide ha
        have hm12 : m ≤ 12 := by rw [← HL.out.1]; exact asc_len ha
        obtain ⟨M, rfl⟩ := Int.eq_ofNat_of_zero_le (show 0 ≤ many by omega)
        have HX := hide fun (rs : List Int) (hp : rs.Perm ls) (hw : rs.Pairwise fun a b => ltH h b a = false) => cold_sorted (h := h) M ha hp hw
        clear ha hv
        go_enter Try.func24, Try.ntmps24
        go_wp2_with fail
        refine HV.out.mono ?_
        rintro e w' ⟨rfl, rfl⟩
        go_wp2_with fail
        refine (values_any _ _ _ _).mono ?_
        rintro e w1 ⟨rfl, rfl⟩
        go_wp2_with fail
        refine HAS.out.mono ?_
        rintro e w2 ⟨rfl, hb2⟩
        have HB2 := hide ((below_new w _).trans (hb2.mono (by simp)))
        clear hb2 HAS
        have hs2 := HB2.out.size
        go_wp2_with fail
        refine (values_any _ _ _ _).mono ?_
        rintro e w3 ⟨rfl, rfl⟩
        go_wp2_with fail
        refine (byHeat_any _ _ _ _).mono ?_
        rintro e w4 ⟨rfl, rfl⟩
        obtain ⟨w3, hw3⟩ : ∃ w3, w2.alloc (.cells #[.slice A' m d] 23) = w3 := ⟨_, rfl⟩
        have hs3 : w3.heap.size = w2.heap.size + 1 := by rw [← hw3]; simp
        have k3 : Blk w3 w2.heap.size 23 #[.slice A' m d] := by rw [← hw3]; exact Blk.new w2 _ _
        have HB3 := hide (show Go.RowKit.Below w.heap.size w w3 by rw [← hw3]; exact HB2.out.alloc hs2 _)
        rw [hw3]
        try rw [← hs3]
        obtain ⟨w4, hw4⟩ : ∃ w4, w3.alloc (.cells #[.slice A 12 c] 23) = w4 := ⟨_, rfl⟩
        have hs4 : w4.heap.size = w3.heap.size + 1 := by rw [← hw4]; simp
        have k4 : Blk w4 w3.heap.size 23 #[.slice A 12 c] := by rw [← hw4]; exact Blk.new w3 _ _
        have k34 : Blk w4 w2.heap.size 23 #[.slice A' m d] := by rw [← hw4]; exact k3.alloc _
        have HB4 := hide (show Go.RowKit.Below w.heap.size w w4 by rw [← hw4]; exact HB3.out.alloc HB3.out.size _)
        rw [hw4]
        have HSO := hide (sortedH_any w2.heap.size w3.heap.size c m d B B' A' A h ls w4 (k34.cell 0) (by omega) (HL.out.below HB4.out hB') (by omega) hm (k4.cell 0) (by omega) (HI.out.below HB4.out hB) (by omega) (ascB_all HAA.out).2)
        have hs4w : w.heap.size ≤ w4.heap.size := HB4.out.size
        clear hw3 hw4 k3 k4 k34 hs3 hs4
        go_wp2_with fail
        refine HSO.out.mono ?_
        rintro e w5 ⟨A2, c2, rs, rfl, ho5, hp5, hpw5, hb5⟩
        have HRS := hide (HX.out rs hp5 hpw5)
        have HB5 := hide (HB4.out.trans (hb5.mono hs4w))
        have hcap := ho5.cap
        have HO5 := hide (ho5.mono hs4w)
        clear HSO HX hp5 hpw5 ho5 hb5
        obtain ⟨hc0, hc1⟩ := hcap
        unfold maxLen at hc1
        obtain ⟨K, hK⟩ : ∃ K, min M m = K := ⟨_, rfl⟩
        have hmin : min (M : Int) (m : Int) = (K : Int) := by omega
        have hKm : K ≤ m := by omega
        have hKc : K ≤ c2 := by omega
        have e1 : rs.take M = rs.take K := by
          have hl5 := HO5.out.1
          rcases Nat.lt_or_ge M m with h1 | h1
          · rw [show K = M by omega]
          · rw [List.take_of_length_le (by omega), List.take_of_length_le (by omega)]
        rw [e1] at HRS
        have HS := hide (sortI_any w.heap.size K c2 A2 (rs.take K) w5 (HO5.out.firsts hKm) HB5.out.size (by omega))
        rw [HRS.out] at HS
        clear e1 hK HRS
        go_wp2_with (go_at_call 42; refine HS.out.mono ?_; rintro e w6 ⟨rfl, ho6, hb6⟩; have HO6 := hide ho6; have HB6 := hide (HB5.out.trans hb6); clear ho6 hb6)
        go_ret
        exact ⟨_, _, _, rfl, HO6.out, HB6.out⟩
end Go.Proofs.Ytnkflcibbhoedaa
