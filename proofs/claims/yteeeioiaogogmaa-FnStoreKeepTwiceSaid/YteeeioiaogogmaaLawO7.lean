/-
  The walk of FnStoreKeepTwice.
-/
import Derived.Test.YteeeioiaogogmaaSameO
import Derived.Test.YteeeioiaogogmaaDrawO3
import Derived.Test.YteeeioiaogogmaaImpO5
import Derived.Test.YteeeioiaogogmaaStoL
namespace Go.Proofs.Yteeeioiaogogmaa
open Go.RowKit
set_option linter.unusedVariables false
set_option maxRecDepth 100000

set_option maxHeartbeats 6400000 in
theorem storeKeepTwice_walk (A : Option Addr) (n c : Nat) (bs : Nat → Int) (w : World) (hb : Bytes w w.heap.size A n bs) (hn : n ≤ c) (hc : c ≤ maxLen) :
    Calls Try.prog 9 #[.slice A n c] w fun e w' => e = .returned (.bool true) ∧ Below w.heap.size w w' := by
  by_cases hbig : 1048576 < n
  · go_enter Try.func9, Try.ntmps9
    go_wp2
    go_ret
    exact ⟨rfl, Below.refl _ _⟩
  · go_enter Try.func9, Try.ntmps9
    go_wp2_with fail
    refine (drawSK_any A n c bs _ hb hn hc).mono ?_
    rintro e w1 ⟨A1, m, c1, qs, X, kx, dx, xs, rfl, hd, hx1, hkx, hkdx, hdx, hrng⟩
    have HDS := hide hd
    have HB1 := hide hd.below
    have hm := hd.num
    have hs1 := HB1.out.size
    have HX1 := hide hx1
    have hrw : Rng (-9223372036854775808) 9223372036854775807 xs := fun y hy => by have := hrng y hy; omega
    have HRW := hide hrw
    have HP1 := hide (implKeepO A1 X m c1 _ _ kx dx qs xs w1 hd.objs (Nat.le_refl _) (by omega) hx1 (Nat.le_refl _) (by omega) hrw)
    have HP2 := hide fun (W : World) (h : Below w1.heap.size w1 W) => specKeepO A1 X m c1 _ _ kx dx qs xs W (hd.objs.below h (Nat.le_refl _)) h.size (by omega) hd.nc hd.cm (hx1.below h (Nat.le_refl _)) h.size (by omega)
    clear hb hd hx1 hrng hrw
    have hdx' : dx ≤ 9223372036854775807 := by unfold maxLen at hdx; omega
    obtain ⟨V, hV⟩ : ∃ V : Bool, stV (obs qs) = V := ⟨_, rfl⟩
    obtain ⟨S, hS⟩ : ∃ S : Sto, keepS (obs qs) xs = S := ⟨_, rfl⟩
    rw [hV, hS] at HP1 HP2
    have HV := hide hV
    have HS := hide hS
    clear hV hS
    go_wp2_with fail
    refine HP1.out.mono ?_
    rintro e w2 ⟨A2, m2, c2, qs2, rfl, ho2, hz2, hB2⟩
    have HO2 := hide ho2
    have HZ2 := hide hz2
    have HW2 := hide hB2
    clear ho2 hz2 hB2 HP1
    go_wp2_with fail
    refine (HP2.out _ HW2.out).mono ?_
    rintro e w3 ⟨A3, m3, c3, qs3, rfl, ho3, hz3, hB3⟩
    have HW3 := hide (HW2.out.trans (hB3.mono HW2.out.size))
    have HPR := hide (pair_same HO2.out ho3 HZ2.out hz3 hB3)
    have HX2 := hide (HO2.out.objs.below hB3 (Nat.le_refl _))
    have HB23 := hide hB3
    have hs23 := hB3.size
    obtain rfl : m3 = m2 := HPR.out.1
    have HMS := hide HPR.out.2.1
    clear ho3 hz3 hB3 HP2
    rcases V with _ | _
    all_goals
      go_wp2_with fail
      refine (HPR.out.2.2 _ (Below.refl _ _)).mono ?_
      rintro e w4 ⟨rfl, hB4⟩
      have HW4 := hide (HW3.out.trans (hB4.mono HW3.out.size))
      have HW34 := hide hB4
      have HX4 := hide (HX2.out.below hB4 hs23)
      have hs4 := hB4.size
      have hs14 := HW4.out.size
      have HEND := hide fun (W : World) (h : Below w4.heap.size w4 W) => HB1.out.trans ((HW4.out.trans (h.mono HW4.out.size)).mono hs1)
      have hs24 : w2.heap.size ≤ w4.heap.size := Nat.le_trans hs23 hs4
      clear hB4
      have HI := hide (HDS.out.objs.below HW4.out (Nat.le_refl _))
      have HXI := hide (HX1.out.below HW4.out (Nat.le_refl _))
    · clear HS HZ2 HI HXI
      go_wp2_with fail
      refine (HPR.out.2.2 _ HW34.out).mono ?_
      rintro e w5 ⟨rfl, hB5⟩
      have HB5 := hide (HEND.out _ hB5)
      clear hB5
      go_wp2
      go_ret
      exact ⟨rfl, HB5.out⟩
    · have HF := hide (show S = (obs qs).filter (fun o => hasI xs o.1) by rw [← HS.out]; unfold keepS; rw [if_pos HV.out])
      have hmm : m3 ≤ 12 := by
        rw [HMS.out, HF.out]
        have h1 := List.length_filter_le (fun o => hasI xs o.1) (obs qs)
        rw [obs_length, HDS.out.objs.1] at h1
        omega
      have hSV : stV S = true := by rw [← HS.out]; exact keepS_valid HV.out
      have hTW : keepS S xs = S := by rw [← HS.out]; exact keepS_twice HV.out
      have HP5 := hide (implKeepO A2 X m3 c2 w2.heap.size w1.heap.size kx dx qs2 xs w4 HX4.out hs24 (by omega) HXI.out hs14 (by omega) HRW.out)
      rw [HZ2.out, hSV, hTW] at HP5
      clear hSV hTW HXI
      go_wp2_with fail
      refine HP5.out.mono ?_
      rintro e w5 ⟨A5, m5, c5, qs5, rfl, ho5, hz5, hB5⟩
      have HB5 := hide hB5
      have hs5 := hB5.size
      have HPR5 := hide (pair_read (c := c2) ho5 ((HX4.out.below hB5 hs24).more (Nat.le_trans hs24 hB5.size)) (hz5.trans HZ2.out.symm) (Below.refl _ _))
      obtain rfl : m5 = m3 := HPR5.out.1
      have HP6 := hide (implKeepO A1 (some ⟨w5.heap.size, 0, none⟩) m c1 w1.heap.size (w5.heap.size + 1) 0 0 qs [] (w5.alloc (.cells #[] 3)) ((HI.out.below hB5 hs14).alloc (Nat.le_trans hs14 hs5) _) (by simp; omega) (by omega) (Ints.nil_ _ _ _) (by simp) (by omega) (by simp [Rng]))
      rw [HV.out, keepS_none] at HP6
      clear ho5 hz5 hB5 HP5 HI
      go_wp2_with fail
      refine HP6.out.mono ?_
      rintro e w6 ⟨A6, m6, c6, qs6, rfl, ho6, hz6, hB6⟩
      obtain rfl : m6 = 0 := by
        have h := congrArg List.length hz6
        rw [obs_length, ho6.len] at h
        exact h
      have HB6 : Hid (Below w5.heap.size w5 w6) := ((Below.refl _ _).alloc (Nat.le_refl _) _).trans (hB6.mono (by simp))
      clear ho6 hz6 hB6 HP6
      go_wp2_with fail
      refine (HPR5.out.2 _ HB6.out).mono ?_
      rintro e w7 ⟨rfl, hb7⟩
      have HB7 := hide (HEND.out _ (HB5.out.trans ((HB6.out.trans (hb7.mono HB6.out.size)).mono hs5)))
      clear hb7
      go_wp2
      go_ret
      exact ⟨rfl, HB7.out⟩
end Go.Proofs.Yteeeioiaogogmaa
