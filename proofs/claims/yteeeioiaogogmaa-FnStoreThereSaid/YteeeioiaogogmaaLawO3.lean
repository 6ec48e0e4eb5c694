/-
  The walk of FnStoreThere.
-/
import Derived.Test.YteeeioiaogogmaaSameO
import Derived.Test.YteeeioiaogogmaaDrawO3
import Derived.Test.YteeeioiaogogmaaImpO5
import Derived.Test.YteeeioiaogogmaaStoL
namespace Go.Proofs.Yteeeioiaogogmaa
open Go.RowKit
set_option linter.unusedVariables false
set_option maxRecDepth 100000

set_option maxHeartbeats 6400000 in
theorem storeThere_walk (A : Option Addr) (n c : Nat) (bs : Nat → Int) (w : World) (hb : Bytes w w.heap.size A n bs) (hn : n ≤ c) (hc : c ≤ maxLen) :
    Calls Try.prog 5 #[.slice A n c] w fun e w' => e = .returned (.bool true) ∧ Below w.heap.size w w' := by
  by_cases hbig : 1048576 < n
  · go_enter Try.func5, Try.ntmps5
    go_wp2
    go_ret
    exact ⟨rfl, Below.refl _ _⟩
  · go_enter Try.func5, Try.ntmps5
    go_wp2_with fail
    refine (drawSP_any A n c bs _ hb hn hc).mono ?_
    rintro e w1 ⟨A1, m, c1, qs, id, X, kx, dx, xs, rfl, hd, hid0, hid1, hx1, hkx, hkdx, hdx, hnil⟩
    have HDS := hide hd
    have HB1 := hide hd.below
    have hm := hd.num
    have hs1 := HB1.out.size
    have HX1 := hide hx1
    have HP1 := hide (implPutO A1 X m c1 _ _ kx dx id qs xs w1 hd.objs (Nat.le_refl _) (by omega) hx1 (Nat.le_refl _) (by omega) hkdx hdx hnil)
    have HP2 := hide fun (W : World) (h : Below w1.heap.size w1 W) => specPutO A1 X m c1 _ _ kx dx id qs xs W (hd.objs.below h (Nat.le_refl _)) h.size (by omega) hd.nc hd.cm (hx1.below h (Nat.le_refl _)) h.size (by omega)
    clear hb hd hx1 hnil
    have hdx' : dx ≤ 9223372036854775807 := by unfold maxLen at hdx; omega
    obtain ⟨N, hN⟩ : ∃ N : Int, putN (obs qs) id xs = N := ⟨_, rfl⟩
    obtain ⟨S, hS⟩ : ∃ S : Sto, putS (obs qs) id xs = S := ⟨_, rfl⟩
    rw [hN, hS] at HP1 HP2
    have HN := hide hN
    have HS := hide hS
    clear hN hS
    go_wp2_with fail
    refine HP1.out.mono ?_
    rintro e w2 ⟨A2, m2, c2, qs2, rfl, ho2, hz2, hB2⟩
    have HO2 := hide ho2
    have HZ2 := hide hz2
    have HW2 := hide hB2
    clear ho2 hz2 hB2 HP1
    go_wp2_with fail
    refine (HP2.out _ HW2.out).mono ?_
    rintro e w3 ⟨A3, m3, c3, qs3, rfl, ho3, hz3, hB3⟩
    have HW3 := hide (HW2.out.trans (hB3.mono HW2.out.size))
    have HPR := hide (pair_same HO2.out ho3 HZ2.out hz3 hB3)
    have HX2 := hide (HO2.out.objs.below hB3 (Nat.le_refl _))
    have HB23 := hide hB3
    have hs23 := hB3.size
    obtain rfl : m3 = m2 := HPR.out.1
    have HMS := hide HPR.out.2.1
    clear ho3 hz3 hB3 HP2
    go_wp2_with fail
    refine (HPR.out.2.2 _ (Below.refl _ _)).mono ?_
    rintro e w4 ⟨rfl, hB4⟩
    have HW4 := hide (HW3.out.trans (hB4.mono HW3.out.size))
    have HW34 := hide hB4
    have HX4 := hide (HX2.out.below hB4 hs23)
    have hs4 := hB4.size
    have hs14 := HW4.out.size
    have HEND := hide fun (W : World) (h : Below w4.heap.size w4 W) => HB1.out.trans ((HW4.out.trans (h.mono HW4.out.size)).mono hs1)
    have hs24 : w2.heap.size ≤ w4.heap.size := Nat.le_trans hs23 hs4
    clear hB4
    have HI := hide (HDS.out.objs.below HW4.out (Nat.le_refl _))
    have HXI := hide (HX1.out.below HW4.out (Nat.le_refl _))
    have HXL := hide (show xs.length = kx from HX1.out.1)
    have HQL := hide (show (obs qs).length = m by rw [obs_length]; exact HDS.out.objs.1)
    rcases putN_cases (obs qs) id xs with ⟨hok, eN, eS⟩ | ⟨hok, hno, eN, eS⟩ | ⟨hok, hno, hl6, eN, eS⟩ | ⟨hok, hno, hl6, eN, eS⟩
    · obtain rfl : N = 3 := HN.out.symm.trans eN
      clear hok eN eS HS HZ2 HI HXI
      go_wp2_with fail
      refine (HPR.out.2.2 _ HW34.out).mono ?_
      rintro e w5 ⟨rfl, hB5⟩
      have HB5 := hide (HEND.out _ hB5)
      clear hB5
      go_wp2
      go_ret
      exact ⟨rfl, HB5.out⟩
    · obtain rfl : N = 1 := HN.out.symm.trans eN
      clear hok hno eN eS HS HZ2 HI HXI
      go_wp2_with fail
      refine (HPR.out.2.2 _ HW34.out).mono ?_
      rintro e w5 ⟨rfl, hB5⟩
      have HB5 := hide (HEND.out _ hB5)
      clear hB5
      go_wp2
      go_ret
      exact ⟨rfl, HB5.out⟩
    · obtain rfl : N = 2 := HN.out.symm.trans eN
      clear hok hno hl6 eN eS HS HZ2 HI HXI
      go_wp2_with fail
      refine (HPR.out.2.2 _ HW34.out).mono ?_
      rintro e w5 ⟨rfl, hB5⟩
      have HB5 := hide (HEND.out _ hB5)
      clear hB5
      go_wp2
      go_ret
      exact ⟨rfl, HB5.out⟩
    · obtain rfl : N = 0 := HN.out.symm.trans eN
      obtain rfl : S = insS (obs qs) id xs := HS.out.symm.trans eS
      obtain ⟨hv, hh, hva, hx0, hx6, hi1, hi2⟩ := put_new hok hno hl6
      have hmm : m3 ≤ 6 := by rw [HMS.out, insS_length]; omega
      have HG := hide fun (W : World) (h : Below w4.heap.size w4 W) (x i : Int) (i0 : -9223372036854775808 ≤ x) (i1 : x ≤ 9223372036854775807) => implGetO A2 m3 c2 w2.heap.size x i qs2 W (HX4.out.below h hs24) (Nat.le_trans hs24 h.size) (by omega) i0 i1
      rw [HZ2.out] at HG
      obtain ⟨pn, ps⟩ := put_again (ws := [1]) hok hno hl6 rfl
      have HP5 := hide (implPutO A2 (some ⟨w4.heap.size, 0, none⟩) m3 c2 w2.heap.size (w4.heap.size + 1) 1 1 id qs2 [1] (w4.alloc (.cells #[.int .i64 1] 3)) (HX4.out.alloc hs24 _) (by simp; omega) (by omega) (Ints.one w4 1) (by simp) (by omega) (Nat.le_refl _) (by unfold maxLen; omega) (fun h => by cases h))
      rw [HZ2.out, pn, ps] at HP5
      clear hok hno hl6 eN eS HS hh hva hv HXI HI HG pn ps
      go_wp2_with fail
      refine HP5.out.mono ?_
      rintro e w5 ⟨A5, m5, c5, qs5, rfl, ho5, hz5, hB5⟩
      have HB4 : Hid (Below w4.heap.size w4 w5) := ((Below.refl _ _).alloc (Nat.le_refl _) _).trans (hB5.mono (by simp))
      have HPR5 := hide (pair_read (c := c2) ho5 ((HX4.out.below HB4.out hs24).more (Nat.le_trans hs24 HB4.out.size)) (hz5.trans HZ2.out.symm) (Below.refl _ _))
      obtain rfl : m5 = m3 := HPR5.out.1
      clear ho5 hz5 hB5 HP5
      go_wp2_with fail
      refine (HPR5.out.2 _ (Below.refl _ _)).mono ?_
      rintro e w6 ⟨rfl, hb6⟩
      have HB6 := hide (HEND.out _ (HB4.out.trans (hb6.mono HB4.out.size)))
      clear hb6
      go_wp2
      go_ret
      exact ⟨rfl, HB6.out⟩
end Go.Proofs.Yteeeioiaogogmaa
