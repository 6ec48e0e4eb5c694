/-
  The walk of FnMend.
-/
import Derived.Test.YtldbcenipahkfaaDrawK2
import Derived.Test.YtldbcenipahkfaaSpecK3
import Derived.Test.YtldbcenipahkfaaInts
namespace Go.Proofs.Ytldbcenipahkfaa
open Go.RowKit
set_option linter.unusedVariables false
set_option maxRecDepth 100000

set_option maxHeartbeats 6400000 in
theorem mend_walk (A : Option Addr) (n c : Nat) (bs : Nat → Int) (w : World) (hb : Bytes w w.heap.size A n bs) (hn : n ≤ c) (hc : c ≤ maxLen) :
    Calls Try.prog 6 #[.slice A n c] w fun e w' => e = .returned (.bool true) ∧ Below w.heap.size w w' := by
  by_cases hbig : 1048576 < n
  · go_enter Try.func6, Try.ntmps6
    go_wp2
    go_ret
    exact ⟨rfl, Below.refl _ _⟩
  · go_enter Try.func6, Try.ntmps6
    go_wp2_with fail
    refine (drawKM_any A n c bs _ hb hn hc).mono ?_
    rintro e w1 ⟨A1, m, cp, h, c1, c2, rfl, hq1, hq2, hd, hm7, hcap⟩
    have HB1 := hide hd.below
    have HI := hide hd.ints
    have hs1 := hd.below.size
    have hlen := hd.ints.1
    have HP1 := hide fun (W : World) (hB : Below w1.heap.size w1 W) => implCM A1 m cp _ h c1 c2 W (hd.ints.below hB (Nat.le_refl _)) hB.size (by omega) hcap (by omega) (by omega) (by omega) (by omega)
    have HP2 := hide fun (W : World) (hB : Below w1.heap.size w1 W) => specCM A1 m cp _ h c1 c2 W (hd.ints.below hB (Nat.le_refl _)) hB.size (by omega)
    have hall := mend_all (xs := h) (c := (c1, c2))
    rw [hlen] at hall
    have hno : mendV h (c1, c2) = false → mendL h (c1, c2) = [] := fun e => by
      unfold mendV at e
      unfold mendL
      split
      · rename_i h9
        rw [h9.1, h9.2, Bool.true_and, Bool.true_and, Bool.or_eq_false_iff, decide_eq_false_iff_not] at e
        rw [if_neg e.1]
        rcases hf : mendF h (c1, c2) with _ | _
        · rfl
        · rw [hf] at e; simp at e
      · rfl
    have hir : -1 ≤ mendI h (c1, c2) ∧ mendI h (c1, c2) ≤ 100 := by
      unfold mendI
      split
      · split
        · omega
        · rcases hf : mendF h (c1, c2) with _ | k
          · simp
          · rename_i h8 h9
            have := (mend_good h8.1 h9 hf).1
            simp only
            omega
      · omega
    generalize mendL h (c1, c2) = L at *
    generalize mendI h (c1, c2) = at9 at *
    obtain ⟨v, hv⟩ : ∃ v, mendV h (c1, c2) = v := ⟨_, rfl⟩
    rw [hv] at HP1 HP2 hall hno
    have HALL := hide hall
    have HNO := hide hno
    obtain ⟨g, hg⟩ : ∃ g, w1.heap.size = g := ⟨_, rfl⟩
    have HK1 := hide ((Kp.refl w1).pushN g hg 26 #[.int .i64 c1, .int .i64 c2])
    obtain ⟨q0, q1⟩ := HK1.out.cb
    clear hb hd hall hno hv hcap
    go_wp2_with fail
    refine (HP1.out _ HK1.out.below).mono ?_
    rintro e w2 ⟨A2, m2, k2, rfl, ho2, hb2⟩
    have HK2 := hide (HK1.out.step hb2)
    obtain ⟨r0, r1⟩ := HK2.out.cb
    have HO2 := hide ho2.ints
    have HLN := hide ho2.1
    clear hb2 HK1 HP1 ho2
    go_wp2_with fail
    refine (HP2.out _ HK2.out.below).mono ?_
    rintro e w3 ⟨A3, m3, k3, rfl, ho3, hb3⟩
    obtain rfl : m3 = m2 := ho3.1.symm.trans HLN.out
    have HK3 := hide (HK2.out.step hb3)
    obtain ⟨s0, s1⟩ := HK3.out.cb
    have HO3 := hide ho3.ints
    have HX3 := hide (HO2.out.below hb3 (Nat.le_refl _))
    have HI3 := hide (HI.out.below HK3.out.below (Nat.le_refl _))
    have HS23 := hide hb3.size
    clear hb3 HK2 HP2 hg ho3 HO2
    rcases v with _ | _
    · have hL := HNO.out rfl
      subst hL
      obtain rfl : m3 = 0 := HLN.out.symm
      have HS := hide fun (q : Nat) => sameInts_yes A2 A3 0 k2 0 k3 _ _ [] [] (w3.drewN q) (HX3.out.drewN q) (HO3.out.drewN q) (by unfold maxLen; omega) (by unfold maxLen; omega) rfl
      have HE := hide fun (q : Nat) => below_drewN (HB1.out.trans (HK3.out.below.mono hs1)) q
      clear HALL
      go_wp2_with fail
      refine (HS.out 0).mono ?_
      rintro e w4 ⟨rfl, q4, rfl⟩
      rw [drewN0K]
      go_wp2_with fail
      refine (HS.out q4).mono ?_
      rintro e w5 ⟨rfl, q5, rfl⟩
      rw [World.drewN_drewN]
      go_wp2
      go_ret
      exact ⟨rfl, HE.out _⟩
    · obtain ⟨l1, l2, l3⟩ := HALL.out rfl
      obtain rfl : m3 = m := HLN.out.symm.trans l1
      have HG2 := hide l2
      have HD := hide l3
      have HS := hide fun (q : Nat) => sameInts_yes A2 A3 m3 k2 m3 k3 _ _ L L (w3.drewN q) (HX3.out.drewN q) (HO3.out.drewN q) (by unfold maxLen; omega) (by unfold maxLen; omega) rfl
      clear l1 l2 l3 HALL HNO hlen
      go_wp2_with fail
      refine (HS.out 0).mono ?_
      rintro e w4 ⟨rfl, q4, rfl⟩
      rw [drewN0K]
      have HK4 := hide (HK3.out.drewN q4)
      have HX4 := hide (HX3.out.drewN q4)
      have HI4 := hide (HI3.out.drewN q4)
      have HZ4 := hide (show w2.heap.size ≤ (w3.drewN q4).heap.size from HS23.out)
      clear HS HK3 HX3 HI3 HO3 s0 s1 HS23
      go_wp2_with fail
      generalize w3.drewN q4 = w5 at HK4 HX4 HI4 HZ4 ⊢
      go_loopw [11] (fun i wr => ∃ (k q : Nat), k ≤ m3 ∧ i = .int .i64 k ∧ w5.drewN q = wr) (fun i _ => m3 - (intOf i).toNat)
      case atStart => exact ⟨0, 0, by omega, rfl, rfl⟩
      case round =>
        obtain ⟨k, q, hk, rfl, rfl⟩ := hrel
        by_cases hlt : k < m3
        · have k1 : (k : Int) < (m3 : Int) := by omega
          have k0 : (0 : Int) ≤ (k : Int) := by omega
          have k2 : decide ((k : Int) < (m3 : Int)) = true := decide_eq_true k1
          obtain ⟨ad, rfl, _, hc1⟩ := (HX4.out.drewN q).at_ hlt
          obtain ⟨ad2, rfl, _, hc2⟩ := (HI4.out.drewN q).at_ hlt
          have hdk := HD.out k hlt
          generalize L.getD k 0 = x at *
          generalize h.getD k 0 = y at *
          generalize hw6 : w5.drewN q = w6 at hc1 hc2 ⊢
          have HW6 := hide hw6
          clear hw6
          by_cases hxy : x = y
          · have e1 : (x != y) = false := by simpa using hxy
            have e2 : ((k : Int) == at9) = false := by simpa using fun e => (hdk.2 e) hxy
            clear hdk hxy
            go_wp2_with fail
            go_quiet (fail)
            go_wp2
            go_roundw
            case rel => exact ⟨k + 1, _, by omega, by go_num, by rw [← HW6.out]; exact (World.drewN_drewN _ _ _).symm⟩
            case measure => simp [intOf]; omega
          · have e1 : (x != y) = true := by simpa using hxy
            have e2 : ((k : Int) == at9) = true := by simpa using hdk.1 hxy
            clear hdk hxy
            go_wp2_with fail
            go_quiet (fail)
            go_wp2
            go_roundw
            case rel => exact ⟨k + 1, _, by omega, by go_num, by rw [← HW6.out]; exact (World.drewN_drewN _ _ _).symm⟩
            case measure => simp [intOf]; omega
        · obtain rfl : k = m3 := by omega
          have d1 : decide ((k : Int) < (k : Int)) = false := by simp
          have HK6 := hide (HK4.out.drewN q)
          obtain ⟨p0, p1⟩ := HK6.out.cb
          have HG := hide (implCG A2 k k2 _ L c1 c2 (w5.drewN q) (HX4.out.drewN q) HZ4.out (by omega))
          rw [HG2.out] at HG
          clear hk hlt HD HK4 HX4 HI4
          go_wp2_with fail
          refine HG.out.mono ?_
          rintro e w7 ⟨rfl, hb7⟩
          have HE := hide (HB1.out.trans ((HK6.out.step hb7).below.mono hs1))
          go_wp2
          go_ret
          exact ⟨rfl, HE.out⟩
end Go.Proofs.Ytldbcenipahkfaa
