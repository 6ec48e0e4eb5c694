/-
  The walk of FnStoreFull.
-/
import Derived.Test.YteeeioiaogogmaaSameO
import Derived.Test.YteeeioiaogogmaaDrawO3
import Derived.Test.YteeeioiaogogmaaImpO5
import Derived.Test.YteeeioiaogogmaaStoL
namespace Go.Proofs.Yteeeioiaogogmaa
open Go.RowKit
set_option linter.unusedVariables false
set_option maxRecDepth 100000

set_option maxHeartbeats 6400000 in
theorem storeFull_walk (A : Option Addr) (n c : Nat) (bs : Nat → Int) (w : World) (hb : Bytes w w.heap.size A n bs) (hn : n ≤ c) (hc : c ≤ maxLen) :
    Calls Try.prog 6 #[.slice A n c] w fun e w' => e = .returned (.bool true) ∧ Below w.heap.size w w' := by
  by_cases hbig : 1048576 < n
  · go_enter Try.func6, Try.ntmps6
    go_wp2
    go_ret
    exact ⟨rfl, Below.refl _ _⟩
  · go_enter Try.func6, Try.ntmps6
    go_wp2_with fail
    refine (drawSP_any A n c bs _ hb hn hc).mono ?_
    rintro e w1 ⟨A1, m, c1, qs, id, X, kx, dx, xs, rfl, hd, hid0, hid1, hx1, hkx, hkdx, hdx, hnil⟩
    have HDS := hide hd
    have HB1 := hide hd.below
    have hm := hd.num
    have hs1 := HB1.out.size
    have HX1 := hide hx1
    have HP1 := hide (implPutO A1 X m c1 _ _ kx dx id qs xs w1 hd.objs (Nat.le_refl _) (by omega) hx1 (Nat.le_refl _) (by omega) hkdx hdx hnil)
    have HP2 := hide fun (W : World) (h : Below w1.heap.size w1 W) => specPutO A1 X m c1 _ _ kx dx id qs xs W (hd.objs.below h (Nat.le_refl _)) h.size (by omega) hd.nc hd.cm (hx1.below h (Nat.le_refl _)) h.size (by omega)
    clear hb hd hx1 hnil
    have hdx' : dx ≤ 9223372036854775807 := by unfold maxLen at hdx; omega
    obtain ⟨N, hN⟩ : ∃ N : Int, putN (obs qs) id xs = N := ⟨_, rfl⟩
    obtain ⟨S, hS⟩ : ∃ S : Sto, putS (obs qs) id xs = S := ⟨_, rfl⟩
    rw [hN, hS] at HP1 HP2
    have HN := hide hN
    have HS := hide hS
    clear hN hS
    go_wp2_with fail
    refine HP1.out.mono ?_
    rintro e w2 ⟨A2, m2, c2, qs2, rfl, ho2, hz2, hB2⟩
    have HO2 := hide ho2
    have HZ2 := hide hz2
    have HW2 := hide hB2
    clear ho2 hz2 hB2 HP1
    go_wp2_with fail
    refine (HP2.out _ HW2.out).mono ?_
    rintro e w3 ⟨A3, m3, c3, qs3, rfl, ho3, hz3, hB3⟩
    have HW3 := hide (HW2.out.trans (hB3.mono HW2.out.size))
    have HPR := hide (pair_same HO2.out ho3 HZ2.out hz3 hB3)
    have HX2 := hide (HO2.out.objs.below hB3 (Nat.le_refl _))
    have HB23 := hide hB3
    have hs23 := hB3.size
    obtain rfl : m3 = m2 := HPR.out.1
    have HMS := hide HPR.out.2.1
    clear ho3 hz3 hB3 HP2
    go_wp2_with fail
    refine (HPR.out.2.2 _ (Below.refl _ _)).mono ?_
    rintro e w4 ⟨rfl, hB4⟩
    have HW4 := hide (HW3.out.trans (hB4.mono HW3.out.size))
    have HW34 := hide hB4
    have HX4 := hide (HX2.out.below hB4 hs23)
    have hs4 := hB4.size
    have hs14 := HW4.out.size
    have HEND := hide fun (W : World) (h : Below w4.heap.size w4 W) => HB1.out.trans ((HW4.out.trans (h.mono HW4.out.size)).mono hs1)
    have hs24 : w2.heap.size ≤ w4.heap.size := Nat.le_trans hs23 hs4
    clear hB4
    have HI := hide (HDS.out.objs.below HW4.out (Nat.le_refl _))
    have HXI := hide (HX1.out.below HW4.out (Nat.le_refl _))
    have HXL := hide (show xs.length = kx from HX1.out.1)
    have HQL := hide (show (obs qs).length = m by rw [obs_length]; exact HDS.out.objs.1)
    rcases putN_cases (obs qs) id xs with ⟨hok, eN, eS⟩ | ⟨hok, hno, eN, eS⟩ | ⟨hok, hno, hl6, eN, eS⟩ | ⟨hok, hno, hl6, eN, eS⟩
    · obtain rfl : N = 3 := HN.out.symm.trans eN
      clear hok eN eS HS HZ2 HI HXI
      go_wp2_with fail
      refine (HPR.out.2.2 _ HW34.out).mono ?_
      rintro e w5 ⟨rfl, hB5⟩
      have HB5 := hide (HEND.out _ hB5)
      clear hB5
      go_wp2
      go_ret
      exact ⟨rfl, HB5.out⟩
    · obtain rfl : N = 1 := HN.out.symm.trans eN
      obtain rfl : S = obs qs := HS.out.symm.trans eS
      have hst := (putOk_iff.1 hok).1
      have hB0 := get_first hst hno
      have HG := hide (implGetO A1 m c1 w1.heap.size id 0 qs w4 HI.out hs14 (by omega) (by omega) (by omega))
      rw [hB0] at HG
      have HPS := hide (pair_read (c := c1) HO2.out (HI.out.more hs14) HZ2.out (HB23.out.trans (HW34.out.mono hs23)))
      obtain rfl : m3 = m := HPS.out.1
      clear hok hno eN eS HS HXI HI hB0 hst HZ2
      generalize getV (obs qs) id 0 = gv at HG
      go_wp2_with fail
      refine HG.out.mono ?_
      rintro e w5 ⟨rfl, hb5⟩
      have HB5 := hide hb5
      clear hb5 HG
      go_wp2_with fail
      refine (HPS.out.2 _ HB5.out).mono ?_
      rintro e w6 ⟨rfl, hb6⟩
      have HB6 := hide (HEND.out _ (HB5.out.trans (hb6.mono HB5.out.size)))
      clear hb6 HB5
      go_wp2
      go_ret
      exact ⟨rfl, HB6.out⟩
    · obtain rfl : N = 2 := HN.out.symm.trans eN
      obtain rfl : S = obs qs := HS.out.symm.trans eS
      have hst := (putOk_iff.1 hok).1
      have h6 : ((m : Int) == 6) = true := by
        have h1 := (stV_iff.1 hst).2.2
        have h2 := HQL.out
        have : m = 6 := by omega
        subst this
        rfl
      have hB0 := (get_no hno 0).1
      have HG := hide (implGetO A1 m c1 w1.heap.size id 0 qs w4 HI.out hs14 (by omega) (by omega) (by omega))
      rw [hB0] at HG
      have HPS := hide (pair_read (c := c1) HO2.out (HI.out.more hs14) HZ2.out (HB23.out.trans (HW34.out.mono hs23)))
      obtain rfl : m3 = m := HPS.out.1
      clear hok hno hl6 eN eS HS HXI HI hB0 hst HZ2
      generalize getV (obs qs) id 0 = gv at HG
      go_wp2_with fail
      refine HG.out.mono ?_
      rintro e w5 ⟨rfl, hb5⟩
      have HB5 := hide hb5
      clear hb5 HG
      go_wp2_with fail
      refine (HPS.out.2 _ HB5.out).mono ?_
      rintro e w6 ⟨rfl, hb6⟩
      have HB6 := hide (HEND.out _ (HB5.out.trans (hb6.mono HB5.out.size)))
      clear hb6 HB5
      go_wp2
      go_ret
      exact ⟨rfl, HB6.out⟩
    · obtain rfl : N = 0 := HN.out.symm.trans eN
      clear hok hno hl6 eN eS HS HZ2 HI HXI
      go_wp2_with fail
      refine (HPR.out.2.2 _ HW34.out).mono ?_
      rintro e w5 ⟨rfl, hB5⟩
      have HB5 := hide (HEND.out _ hB5)
      clear hB5
      go_wp2
      go_ret
      exact ⟨rfl, HB5.out⟩
end Go.Proofs.Yteeeioiaogogmaa
