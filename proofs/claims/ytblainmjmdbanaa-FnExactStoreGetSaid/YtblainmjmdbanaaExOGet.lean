/-
  The walk of FnExactStoreGet.
-/
import Derived.Test.YtblainmjmdbanaaExMO
import Derived.Test.YtblainmjmdbanaaSpecO4
import Derived.Test.YtblainmjmdbanaaImpO5
namespace Go.Proofs.Ytblainmjmdbanaa
open Go.RowKit
set_option linter.unusedVariables false
set_option maxRecDepth 100000

set_option maxHeartbeats 3200000 in
theorem exactOGet_walk (A : Option Addr) (n c : Nat) (qs : List Oq) (id ix : Int) (w : World) (hr : Objs w w.heap.size A n qs) (hn : n ≤ c) (hc : c ≤ maxLen) (i0 : -9223372036854775808 ≤ id) (i1 : id ≤ 9223372036854775807) (j0 : -9223372036854775808 ≤ ix) (j1 : ix ≤ 9223372036854775807) :
    Calls Try.prog 5 #[.slice A n c, .int .i64 id, .int .i64 ix] w fun e w' => e = .returned (.bool true) ∧ Below w.heap.size w w' := by
  have HS := hide (szObjectS_any A n c w.heap.size qs w hr (Nat.le_refl _) hn hc)
  have HR := hide hr
  clear hr
  go_enter Try.func5, Try.ntmps5
  go_wp2_with fail
  refine HS.out.mono ?_
  rintro e w1 ⟨r, rfl, hr1, hr2, hb1⟩
  by_cases h : r < 0
  · go_wp2
    go_ret
    exact ⟨rfl, hb1⟩
  · obtain ⟨hn1, hl⟩ := hr2 (by omega)
    have HL := hide hl
    have HR1 := hide (HR.out.below hb1 (Nat.le_refl _))
    have HB1 := hide hb1
    have hs1 := hb1.size
    have hn9 : n ≤ 1000000000 := by omega
    have hn12 : n ≤ 1000000000000 := by omega
    have hn10 : n ≤ 10000000000 := by omega
    have hnm : n ≤ maxLen := by unfold maxLen; omega
    clear hr2 hl hb1 HS HR
    go_wp2_with fail
    refine (toObjectS_any A n c w.heap.size qs _ HR1.out hs1 hn9 HL.out).mono ?_
    rintro e w2 ⟨A2, c2, qs2, rfl, ho2, hz2, hb2⟩
    have HB2 := hide (HB1.out.trans (hb2.mono hs1))
    have hs2 := HB2.out.size
    have HZ2 := hide ho2.objs
    have HE2 := hide hz2
    have HR2 := hide (HR1.out.below hb2 hs1)
    clear ho2 hz2 hb2 HR1 HB1 hs1
    go_wp2_with fail
    refine (specGetO A2 n c2 _ id ix qs2 _ HZ2.out hn10).mono ?_
    rw [HE2.out]
    rintro e w3 ⟨rfl, rfl⟩
    have HB3 := hide HB2.out
    have HR3 := hide HR2.out
    have hs3 := HB3.out.size
    clear HZ2 HE2 HR2 HB2 hs2
    go_wp2_with fail
    refine (toObjectS_any A n c w.heap.size qs _ HR3.out hs3 hn9 HL.out).mono ?_
    rintro e w4 ⟨A4, c4, qs4, rfl, ho4, hz4, hb4⟩
    have HB4 := hide (HB3.out.trans (hb4.mono hs3))
    have hs4 := HB4.out.size
    have HZ4 := hide ho4.objs
    have HE4 := hide hz4
    have HR4 := hide (HR3.out.below hb4 hs3)
    clear ho4 hz4 hb4 HR3 HB3 hs3
    go_wp2_with fail
    refine (implGetO A4 n c4 _ id ix qs4 _ HZ4.out (Nat.le_refl _) hn10 i0 i1).mono ?_
    rw [HE4.out]
    rintro e w5 ⟨rfl, hb5⟩
    have HB5 := hide (HB4.out.trans (hb5.mono hs4))
    have hs5 := HB5.out.size
    have hs45 := hb5.size
    have HZ5 := hide (HZ4.out.below hb5 (Nat.le_refl _))
    have HR5 := hide (HR4.out.below hb5 hs4)
    clear hb5 HZ4 HR4 HB4
    generalize w4.heap.size = B4 at HZ5 hs45
    generalize hv : getV (obs qs) id ix = v
    generalize hb : getB (obs qs) id ix = b
    clear hv hb
    go_wp2_with fail
    refine (toObjectS_any A n c w.heap.size qs _ HR5.out hs5 hn9 HL.out).mono ?_
    rintro e w6 ⟨A6, c6, qs6, rfl, ho6, hz6, hb6⟩
    have HB6 := hide (HB5.out.trans (hb6.mono hs5))
    have HZ6 := hide (HZ5.out.below hb6 hs45)
    have HY6 := hide ho6.objs
    have HE6 := hide (HE4.out.trans hz6.symm)
    have hs6 := hb6.size
    clear ho6 hz6 hb6 HZ5 HB5
    go_wp2_with fail
    refine (eqObjectS_yes A4 A6 n c4 c6 B4 _ qs4 qs6 _ HZ6.out HY6.out (by omega) (Nat.le_refl _) hnm HE6.out).mono ?_
    rintro e w7 ⟨rfl, hb7⟩
    have HB7 := hide (HB6.out.trans (hb7.mono HB6.out.size))
    go_wp2
    go_ret
    exact ⟨rfl, HB7.out⟩
end Go.Proofs.Ytblainmjmdbanaa
