/-
  The walk of FnStoreKeep.
-/
import Derived.Test.YteeeioiaogogmaaSameO
import Derived.Test.YteeeioiaogogmaaDrawO3
import Derived.Test.YteeeioiaogogmaaImpO5
import Derived.Test.YteeeioiaogogmaaStoL
namespace Go.Proofs.Yteeeioiaogogmaa
open Go.RowKit
set_option linter.unusedVariables false
set_option maxRecDepth 100000

set_option maxHeartbeats 6400000 in
theorem storeKeep_walk (A : Option Addr) (n c : Nat) (bs : Nat → Int) (w : World) (hb : Bytes w w.heap.size A n bs) (hn : n ≤ c) (hc : c ≤ maxLen) :
    Calls Try.prog 8 #[.slice A n c] w fun e w' => e = .returned (.bool true) ∧ Below w.heap.size w w' := by
  by_cases hbig : 1048576 < n
  · go_enter Try.func8, Try.ntmps8
    go_wp2
    go_ret
    exact ⟨rfl, Below.refl _ _⟩
  · go_enter Try.func8, Try.ntmps8
    go_wp2_with fail
    refine (drawSK_any A n c bs _ hb hn hc).mono ?_
    rintro e w1 ⟨A1, m, c1, qs, X, kx, dx, xs, rfl, hd, hx1, hkx, hkdx, hdx, hrng⟩
    have HDS := hide hd
    have HB1 := hide hd.below
    have hm := hd.num
    have hs1 := HB1.out.size
    have HX1 := hide hx1
    have hrw : Rng (-9223372036854775808) 9223372036854775807 xs := fun y hy => by have := hrng y hy; omega
    have HRW := hide hrw
    have HP1 := hide (implKeepO A1 X m c1 _ _ kx dx qs xs w1 hd.objs (Nat.le_refl _) (by omega) hx1 (Nat.le_refl _) (by omega) hrw)
    have HP2 := hide fun (W : World) (h : Below w1.heap.size w1 W) => specKeepO A1 X m c1 _ _ kx dx qs xs W (hd.objs.below h (Nat.le_refl _)) h.size (by omega) hd.nc hd.cm (hx1.below h (Nat.le_refl _)) h.size (by omega)
    clear hb hd hx1 hrng hrw
    have hdx' : dx ≤ 9223372036854775807 := by unfold maxLen at hdx; omega
    obtain ⟨V, hV⟩ : ∃ V : Bool, stV (obs qs) = V := ⟨_, rfl⟩
    obtain ⟨S, hS⟩ : ∃ S : Sto, keepS (obs qs) xs = S := ⟨_, rfl⟩
    rw [hV, hS] at HP1 HP2
    have HV := hide hV
    have HS := hide hS
    clear hV hS
    go_wp2_with fail
    refine HP1.out.mono ?_
    rintro e w2 ⟨A2, m2, c2, qs2, rfl, ho2, hz2, hB2⟩
    have HO2 := hide ho2
    have HZ2 := hide hz2
    have HW2 := hide hB2
    clear ho2 hz2 hB2 HP1
    go_wp2_with fail
    refine (HP2.out _ HW2.out).mono ?_
    rintro e w3 ⟨A3, m3, c3, qs3, rfl, ho3, hz3, hB3⟩
    have HW3 := hide (HW2.out.trans (hB3.mono HW2.out.size))
    have HPR := hide (pair_same HO2.out ho3 HZ2.out hz3 hB3)
    have HX2 := hide (HO2.out.objs.below hB3 (Nat.le_refl _))
    have HB23 := hide hB3
    have hs23 := hB3.size
    obtain rfl : m3 = m2 := HPR.out.1
    have HMS := hide HPR.out.2.1
    clear ho3 hz3 hB3 HP2
    rcases V with _ | _
    all_goals
      go_wp2_with fail
      refine (HPR.out.2.2 _ (Below.refl _ _)).mono ?_
      rintro e w4 ⟨rfl, hB4⟩
      have HW4 := hide (HW3.out.trans (hB4.mono HW3.out.size))
      have HW34 := hide hB4
      have HX4 := hide (HX2.out.below hB4 hs23)
      have hs4 := hB4.size
      have hs14 := HW4.out.size
      have HEND := hide fun (W : World) (h : Below w4.heap.size w4 W) => HB1.out.trans ((HW4.out.trans (h.mono HW4.out.size)).mono hs1)
      have hs24 : w2.heap.size ≤ w4.heap.size := Nat.le_trans hs23 hs4
      clear hB4
      have HI := hide (HDS.out.objs.below HW4.out (Nat.le_refl _))
      have HXI := hide (HX1.out.below HW4.out (Nat.le_refl _))
    · clear HS HZ2 HI HXI
      go_wp2_with fail
      refine (HPR.out.2.2 _ HW34.out).mono ?_
      rintro e w5 ⟨rfl, hB5⟩
      have HB5 := hide (HEND.out _ hB5)
      clear hB5
      go_wp2
      go_ret
      exact ⟨rfl, HB5.out⟩
    · have HF := hide (show S = (obs qs).filter (fun o => hasI xs o.1) by rw [← HS.out]; unfold keepS; rw [if_pos HV.out])
      have hmm : m3 ≤ 12 := by
        rw [HMS.out, HF.out]
        have h1 := List.length_filter_le (fun o => hasI xs o.1) (obs qs)
        rw [obs_length, HDS.out.objs.1] at h1
        omega
      have HHI := hide fun (W : World) (h : Below w4.heap.size w4 W) (x : Int) => hasInt_any X kx dx w1.heap.size x xs W (HXI.out.below h hs14) (by unfold maxLen; omega)
      go_wp2
      go_loopw [9, 10] (fun kk i wr => ∃ (j k : Nat), j ≤ m ∧ k ≤ j ∧ i = .int .i64 j ∧ kk = .int .i64 k ∧ Hid (k = (((obs qs).take j).filter (fun o => hasI xs o.1)).length) ∧ Hid (Below w4.heap.size w4 wr)) (fun _ i _ => m - (intOf i).toNat)
      case atStart => exact ⟨0, 0, Nat.zero_le _, Nat.le_refl _, rfl, rfl, rfl, Below.refl _ _⟩
      case round =>
        obtain ⟨j, k, hj, hkj, rfl, rfl, HK, HB⟩ := hrel
        have hs := HB.out.size
        by_cases hlt : j < m
        · obtain ⟨q, hq⟩ : ∃ q, qs[j]? = some q := ⟨_, List.getElem?_eq_getElem (by rw [HDS.out.objs.1]; exact hlt)⟩
          have HQO := hide (obs_get hq)
          have hI := HI.out.below HB.out hs14
          obtain ⟨ad, p, rfl, hp, hbp, hc0, hc1⟩ := hI.at_ hq
          obtain ⟨hiw, hle, hcm, hnl⟩ := hI.words hq
          obtain ⟨qi, ws, qa, qc⟩ := q
          simp only [Oq.sl, Oq.ob] at hc0 hc1 hiw hle hcm HQO
          have j0 : (0 : Int) ≤ (j : Int) := by omega
          have j1 : (j : Int) < (m : Int) := by omega
          have HH := hide (HHI.out _ HB.out qi)
          clear hq hI hnl
          rcases hhas : hasI xs qi with _ | _
          · have HK2 := hide (show k = (((obs qs).take (j + 1)).filter (fun o => hasI xs o.1)).length by rw [filter_no HQO.out hhas]; exact HK.out)
            rw [hhas] at HH
            clear hhas hiw HK
            go_wp2_with fail
            refine HH.out.mono ?_
            rintro e w5 ⟨rfl, rfl⟩
            clear HH
            go_wp2
            go_roundw
            case rel => exact ⟨j + 1, k, by omega, by omega, by go_num, rfl, HK2.out, HB.out⟩
            case measure => simp [intOf]; omega
          · have HF1 := hide (filter_yes HQO.out (f := fun o => hasI xs o.1) hhas)
            have HK2 := hide (show k + 1 = (((obs qs).take (j + 1)).filter (fun o => hasI xs o.1)).length by rw [HF1.out, List.length_append, ← HK.out]; rfl)
            have hSk : S[k]? = some (qi, ws) := by
              have h1 : (obs qs) = (obs qs).take (j + 1) ++ (obs qs).drop (j + 1) := (List.take_append_drop _ _).symm
              rw [HF.out, h1, List.filter_append, HF1.out, List.append_assoc, List.getElem?_append_right (by rw [← HK.out]; exact Nat.le_refl _), ← HK.out, Nat.sub_self]
              rfl
            rw [← HZ2.out] at hSk
            obtain ⟨r, hr, her⟩ := obs_get_inv hSk
            have hkm : k < m3 := by rw [← HX4.out.1]; exact (List.getElem?_eq_some_iff.1 hr).1
            have hX := HX4.out.below HB.out hs24
            obtain ⟨ad', p', hA2, hp', hbp', hd0, hd1⟩ := hX.at_ hr
            obtain rfl : A2 = some ad' := hA2
            obtain ⟨hiw', hle', hcm', hnl'⟩ := hX.words hr
            obtain ⟨ri, rs, ra, rc⟩ := r
            unfold Oq.ob at her
            injection her with h1 h2
            subst h1
            subst h2
            simp only [Oq.sl] at hd0 hd1 hiw' hle' hcm'
            generalize rs.length = l at hc1 hiw hle hd1 hiw' hle'
            have k0 : (0 : Int) ≤ (k : Int) := by omega
            have k1 : (k : Int) < (m3 : Int) := by omega
            rw [hhas] at HH
            clear hhas hSk hr hX hnl' HK HF1
            go_wp2_with fail
            refine HH.out.mono ?_
            rintro e w5 ⟨rfl, rfl⟩
            have HSI := hide fun (i : Nat) => sameInts_yes ra qa l rc l qc _ _ rs rs (wr.drewN i) (hiw'.drewN i) (hiw.drewN i) (by omega) (by omega) rfl
            clear HH hiw hiw' hle hle' hcm hcm'
            go_wp2_with fail
            go_quiet ((go_at_call 23; exact quiet_on3 (HSI.out _)))
            go_wp2
            go_roundw
            case rel => exact ⟨j + 1, k + 1, by omega, by omega, by go_num, by go_num, HK2.out, by first | exact below_drewN HB.out _ | exact HB.out⟩
            case measure => simp [intOf]; omega
        · obtain rfl : j = m := by omega
          have hkm : k = m3 := by
            have h1 := HK.out
            rw [List.take_of_length_le (by rw [obs_length, HDS.out.objs.1]; exact Nat.le_refl _), ← HF.out, ← HMS.out] at h1
            exact h1
          subst hkm
          have HB6 := hide (HEND.out _ HB.out)
          clear HHI HK
          go_wp2
          go_ret
          exact ⟨rfl, HB6.out⟩
end Go.Proofs.Yteeeioiaogogmaa
