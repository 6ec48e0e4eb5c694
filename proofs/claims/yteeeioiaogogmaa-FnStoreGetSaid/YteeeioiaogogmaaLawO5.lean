/-
  The walk of FnStoreGet.
-/
import Derived.Test.YteeeioiaogogmaaDrawO4
import Derived.Test.YteeeioiaogogmaaImpO5
import Derived.Test.YteeeioiaogogmaaStoL
namespace Go.Proofs.Yteeeioiaogogmaa
open Go.RowKit
set_option linter.unusedVariables false
set_option maxRecDepth 100000

theorem getB_parts {s : Sto} {id ix : Int} (h : getB s id ix = true) : stV s = true ∧ hasS s id = true ∧ 0 ≤ ix ∧ ix < (valsAt s id).length := by
  unfold getB at h
  simp only [Bool.and_eq_true] at h
  obtain ⟨⟨a, b⟩, c⟩ := h
  obtain ⟨d, e⟩ := inB_iff.1 c
  exact ⟨a, b, d, by omega⟩

set_option maxHeartbeats 6400000 in
theorem storeGet_walk (A : Option Addr) (n c : Nat) (bs : Nat → Int) (w : World) (hb : Bytes w w.heap.size A n bs) (hn : n ≤ c) (hc : c ≤ maxLen) :
    Calls Try.prog 7 #[.slice A n c] w fun e w' => e = .returned (.bool true) ∧ Below w.heap.size w w' := by
  by_cases hbig : 1048576 < n
  · go_enter Try.func7, Try.ntmps7
    go_wp2
    go_ret
    exact ⟨rfl, Below.refl _ _⟩
  · go_enter Try.func7, Try.ntmps7
    go_wp2_with fail
    refine (drawSG_any A n c bs _ hb hn hc).mono ?_
    rintro e w1 ⟨A1, m, c1, qs, id, ix, rfl, hd, hid0, hid1, hix0, hix1⟩
    have HDS := hide hd
    have HB1 := hide hd.below
    have hm := hd.num
    have hs1 := HB1.out.size
    have HP1 := hide (implGetO A1 m c1 _ id ix qs w1 hd.objs (Nat.le_refl _) (by omega) (by omega) (by omega))
    have HP2 := hide fun (W : World) (h : Below w1.heap.size w1 W) => specGetO A1 m c1 _ id ix qs W (hd.objs.below h (Nat.le_refl _)) (by omega)
    clear hb hd
    obtain ⟨V, hV⟩ : ∃ V : Int, getV (obs qs) id ix = V := ⟨_, rfl⟩
    rcases hgb : getB (obs qs) id ix with _ | _
    · rw [hV, hgb] at HP1 HP2
      clear hV hgb
      go_wp2_with fail
      refine HP1.out.mono ?_
      rintro e w2 ⟨rfl, hB2⟩
      have HW2 := hide hB2
      clear hB2 HP1
      go_wp2_with fail
      refine (HP2.out _ HW2.out).mono ?_
      rintro e w3 ⟨rfl, rfl⟩
      have HE := hide (HB1.out.trans (HW2.out.mono hs1))
      clear HP2
      go_wp2
      go_ret
      exact ⟨rfl, HE.out⟩
    · obtain ⟨hst, hh, hi0, hi1⟩ := getB_parts hgb
      obtain ⟨x, rfl⟩ := Int.eq_ofNat_of_zero_le hi0
      have hVV : (valsAt (obs qs) id).getD x 0 = V := by rw [← hV]; unfold getV; rw [hgb]; simp
      rw [hV, hgb] at HP1 HP2
      have HVV := hide hVV
      have HST := hide hst
      have HHH := hide hh
      have HXL := hide (show x < (valsAt (obs qs) id).length by omega)
      clear hV hgb hst hh hVV hi1
      go_wp2_with fail
      refine HP1.out.mono ?_
      rintro e w2 ⟨rfl, hB2⟩
      have HW2 := hide hB2
      have HI := hide (HDS.out.objs.below hB2 (Nat.le_refl _))
      clear hB2 HP1
      go_wp2_with fail
      refine (HP2.out _ HW2.out).mono ?_
      rintro e w3 ⟨rfl, rfl⟩
      have HE := hide (HB1.out.trans (HW2.out.mono hs1))
      clear HP2
      go_wp2
      go_loop [10] (fun i => ∃ (j : Nat), j ≤ m ∧ i = .int .i64 j ∧ Hid (∀ o ∈ (obs qs).take j, o.1 ≠ id)) (fun i => m - (intOf i).toNat)
      case atStart => exact ⟨0, Nat.zero_le _, rfl, (fun o ho => absurd ho (by simp))⟩
      case round =>
        obtain ⟨j, hj, rfl, HNO⟩ := hrel
        by_cases hlt : j < m
        · obtain ⟨q, hq⟩ : ∃ q, qs[j]? = some q := ⟨_, List.getElem?_eq_getElem (by rw [HI.out.1]; exact hlt)⟩
          have hqm : q.ob ∈ obs qs := List.mem_map_of_mem (List.mem_of_getElem? hq)
          have HTK := hide (show (obs qs).take (j + 1) = (obs qs).take j ++ [q.ob] by rw [List.take_add_one, obs_get hq]; rfl)
          have HVA := hide (valsAt_mem (stV_asc HST.out) hqm)
          obtain ⟨ad, p, rfl, hp, hbp, hc0, hc1⟩ := HI.out.at_ hq
          obtain ⟨hiw, hle, hcm, hnl⟩ := HI.out.words hq
          obtain ⟨qi, ws, qa, qc⟩ := q
          simp only [Oq.sl, Oq.ob] at hc0 hc1 hiw hle hcm hqm HTK HVA
          have j0 : (0 : Int) ≤ (j : Int) := by omega
          have j1 : (j : Int) < (m : Int) := by omega
          clear hq hqm hnl
          by_cases hqi : qi = id
          · subst hqi
            have hxl := HXL.out
            have hvv := HVV.out
            rw [HVA.out] at hxl hvv
            obtain ⟨ad2, rfl, hb2, hcj⟩ := hiw.at_ hxl
            rw [hvv] at hcj
            have x0 : (0 : Int) ≤ (x : Int) := by omega
            have x1 : (x : Int) < (ws.length : Int) := by omega
            clear hiw hvv HTK HVA HNO
            generalize ws.length = l at *
            go_wp2
            go_ret
            exact ⟨rfl, HE.out⟩
          · have hqi' : (qi == id) = false := by simpa using hqi
            have HNO2 : Hid (∀ o ∈ (obs qs).take (j + 1), o.1 ≠ id) := by
              intro o ho
              rw [HTK.out] at ho
              rcases List.mem_append.1 ho with ho | ho
              · exact HNO.out o ho
              · simp at ho
                subst ho
                exact hqi
            clear hiw HTK HVA HNO
            go_wp2
            go_round
            case rel => exact ⟨j + 1, by omega, by go_num, HNO2.out⟩
            case measure => simp [intOf]; omega
        · exfalso
          obtain rfl : j = m := by omega
          obtain ⟨o, ho, he⟩ := hasS_iff.1 HHH.out
          exact HNO.out o (by rw [List.take_of_length_le (by rw [obs_length, HI.out.1]; exact Nat.le_refl _)]; exact ho) he
end Go.Proofs.Yteeeioiaogogmaa
