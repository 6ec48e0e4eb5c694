/-
  The walk of FnExactLayersRead.
-/
import Derived.Test.YtapfbkjgmfmepaaExL1
import Derived.Test.YtapfbkjgmfmepaaSpecY2R
import Derived.Test.YtapfbkjgmfmepaaImpL8
namespace Go.Proofs.Ytapfbkjgmfmepaa
open Go.RowKit
set_option linter.unusedVariables false
set_option maxRecDepth 100000

set_option maxHeartbeats 3200000 in
theorem exactLRead_walk (A : Option Addr) (n c : Nat) (qs : List Lq) (b : Int) (w : World) (hr : LyI w w.heap.size A n qs) (hn : n ≤ c) (hc : c ≤ maxLen) (i0 : -9223372036854775808 ≤ b) (i1 : b ≤ 9223372036854775807) :
    Calls Try.prog 12 #[.slice A n c, .int .i64 b] w fun e w' => e = .returned (.bool true) ∧ Below w.heap.size w w' := by
  have HS := hide (szPairSS_any A n c w.heap.size qs w hr hn hc)
  have HR := hide hr
  have hlen := hr.1
  clear hr
  go_enter Try.func12, Try.ntmps12
  go_wp2_with fail
  refine HS.out.mono ?_
  rintro e w1 ⟨r, rfl, hr0, hr1, hr2, rfl⟩
  by_cases h : r < 0
  · go_wp2
    go_ret
    exact ⟨rfl, Below.refl _ _⟩
  · obtain ⟨hn1, hmv⟩ := hr2 (by omega)
    have HL := hide (szL_words (show 0 ≤ r by omega) hmv)
    have HMV := hide (show mvL 1 qs ≤ 1000000000 by omega)
    have hn9 : n ≤ 1000000000 := by omega
    clear hr2 hmv HS
    go_wp2_with fail
    refine (toPairSS_any A n c w.heap.size qs _ HR.out (Nat.le_refl _) hn9 HL.out).mono ?_
    rintro e w2 ⟨A2, c2, qs2, rfl, ho2, hz2, hb2⟩
    have HB2 := hide hb2
    have hs2 := hb2.size
    have HZ2 := hide ho2.lyi
    have HE2 := hide hz2
    have HQ2 := hide (words_lys hz2 HL.out)
    have HR2 := hide (HR.out.below hb2 (Nat.le_refl _))
    clear ho2 hz2 hb2 HR
    go_wp2_with fail
    refine (specRead A2 n c2 _ qs2 b _ HZ2.out HQ2.out hn9).mono ?_
    rw [HE2.out]
    rintro e w3 ⟨rfl, z3, rfl⟩
    have HB3 := hide (below_drewN HB2.out z3)
    have HR3 := hide (HR2.out.drewN z3)
    have hs3 := HB3.out.size
    clear HZ2 HE2 HR2 HB2 hs2 HQ2
    generalize w2.drewN z3 = w3 at HB3 HR3 hs3 ⊢
    go_wp2_with fail
    refine (toPairSS_any A n c w.heap.size qs _ HR3.out hs3 hn9 HL.out).mono ?_
    rintro e w4 ⟨A4, c4, qs4, rfl, ho4, hz4, hb4⟩
    have HB4 := hide (HB3.out.trans (hb4.mono hs3))
    have hs4 := HB4.out.size
    have HZ4 := hide ho4.lyi
    have HE4 := hide hz4
    have HQ4 := hide (words_lys hz4 HL.out)
    have HR4 := hide (HR3.out.below hb4 hs3)
    clear ho4 hz4 hb4 HR3 HB3 hs3
    go_wp2_with fail
    refine (implRead A4 n c4 _ qs4 b _ HZ4.out (Nat.le_refl _) HQ4.out hn9).mono ?_
    rw [HE4.out]
    rintro e w5 ⟨rfl, hb5⟩
    have HB5 := hide (HB4.out.trans (hb5.mono hs4))
    have hs5 := HB5.out.size
    have hs45 := hb5.size
    have HZ5 := hide (HZ4.out.below hb5 (Nat.le_refl _))
    have HR5 := hide (HR4.out.below hb5 hs4)
    clear hb5 HZ4 HR4 HB4
    generalize w4.heap.size = B4 at HZ5 hs45
    generalize hv : rdL (lys qs) b = v
    clear hv
    go_wp2_with fail
    refine (toPairSS_any A n c w.heap.size qs _ HR5.out hs5 hn9 HL.out).mono ?_
    rintro e w6 ⟨A6, c6, qs6, rfl, ho6, hz6, hb6⟩
    have HB6 := hide (HB5.out.trans (hb6.mono hs5))
    have HZ6 := hide (HZ5.out.below hb6 hs45)
    have HY6 := hide ho6.lyi
    have HE6 := hide (HE4.out.trans hz6.symm)
    have hs6 := hb6.size
    clear ho6 hz6 hb6 HZ5 HB5
    go_wp2_with fail
    refine (eqPairSS_yes A4 A6 n c4 c6 B4 _ qs4 qs6 _ HZ6.out HY6.out (by omega) (Nat.le_refl _) hn9 HQ4.out HE6.out).mono ?_
    rintro e w7 ⟨rfl, hb7⟩
    have HB7 := hide (HB6.out.trans (hb7.mono HB6.out.size))
    go_wp2
    go_ret
    exact ⟨rfl, HB7.out⟩
end Go.Proofs.Ytapfbkjgmfmepaa
