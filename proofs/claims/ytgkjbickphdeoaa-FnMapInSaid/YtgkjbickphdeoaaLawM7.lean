/-
  The walk of FnMapIn.
-/
import Derived.Test.YtgkjbickphdeoaaDrawM2
import Derived.Test.YtgkjbickphdeoaaSameM
import Derived.Test.YtgkjbickphdeoaaImpM2
import Derived.Test.YtgkjbickphdeoaaSpecM4
namespace Go.Proofs.Ytgkjbickphdeoaa
open Go.RowKit
set_option linter.unusedVariables false
set_option maxRecDepth 100000

set_option maxHeartbeats 6400000 in
theorem mapIn_walk (A : Option Addr) (n c : Nat) (bs : Nat → Int) (w : World) (hb : Bytes w w.heap.size A n bs) (hn : n ≤ c) (hc : c ≤ maxLen) :
    Calls Try.prog 9 #[.slice A n c] w fun e w' => e = .returned (.bool true) ∧ Below w.heap.size w w' := by
  by_cases hbig : 1048576 < n
  · go_enter Try.func9, Try.ntmps9
    go_wp2
    go_ret
    exact ⟨rfl, Below.refl _ _⟩
  · go_enter Try.func9, Try.ntmps9
    go_wp2_with fail
    refine (drawMI_any A n c bs _ hb hn hc).mono ?_
    rintro e w1 ⟨A1, m, c1, ms, z, rfl, hd⟩
    have HB1 := hide hd.below
    have HI := hide hd.mpi
    have hm := hd.num
    have hmc := hd.nc
    have hs1 := hd.below.size
    have HP1 := hide (implMI A1 m c1 _ ms z w1 hd.mpi (Nat.le_refl _) (by omega))
    have HP2 := hide fun (W : World) (h : Below w1.heap.size w1 W) => specMI A1 m c1 _ ms z W (hd.mpi.below h (Nat.le_refl _)) h.size (by omega)
    have HP3 := hide fun (W : World) (h : Below w1.heap.size w1 W) => specMV A1 m c1 _ ms W (hd.mpi.below h (Nat.le_refl _)) h.size (by omega)
    have HLM := hide hd.mpi.1
    obtain ⟨L, hL⟩ : ∃ L, inM ms z = L := ⟨_, rfl⟩
    rw [hL] at HP1 HP2
    have HL := hide hL
    have HL12 := hide (show L.length ≤ 1000 by rw [← hL]; exact Nat.le_trans (inM_le ms z) (by omega))
    clear hb hd hL
    go_wp2_with fail
    refine HP1.out.mono ?_
    rintro e w2 ⟨A2, m2, c2, rfl, ho2, hb2⟩
    have HO2 := hide ho2.ints
    have HW2 := hide hb2
    have hm2 : m2 ≤ 1000 := by rw [← ho2.1]; exact HL12.out
    have HL2 := hide ho2.1
    clear ho2 hb2 HP1
    go_wp2_with fail
    refine (HP2.out _ HW2.out).mono ?_
    rintro e w3 ⟨A3, m3, c3, rfl, ho3, hb3⟩
    obtain rfl : m3 = m2 := ho3.1.symm.trans HL2.out
    have HW3 := hide (HW2.out.trans (hb3.mono HW2.out.size))
    have HX2 := hide (HO2.out.below hb3 (Nat.le_refl _))
    have HX3 := hide ho3.ints
    have HS23 := hide hb3.size
    clear ho3 hb3 HP2 HO2
    go_wp2_with fail
    refine (sameInts_yes A2 A3 m3 c2 m3 c3 _ _ L L _ HX2.out HX3.out (by unfold maxLen; omega) (by unfold maxLen; omega) rfl).mono ?_
    rintro e w4 ⟨rfl, q4, rfl⟩
    rcases hv : mpV ms with _ | _
    · rw [hv] at HP3
      clear hv
      go_wp2_with fail
      refine (HP3.out _ (below_drewN HW3.out q4)).mono ?_
      rintro e w5 ⟨rfl, hb5⟩
      have HW5 := hide ((below_drewN HW3.out q4).trans (hb5.mono (show w1.heap.size ≤ (w3.drewN q4).heap.size from HW3.out.size)))
      have HX25 := hide ((HX2.out.drewN q4).below hb5 (show w2.heap.size ≤ (w3.drewN q4).heap.size from HS23.out))
      have HX35 := hide ((HX3.out.drewN q4).below hb5 (Nat.le_refl _))
      clear hb5 HP3
      go_wp2_with fail
      refine (sameInts_yes A2 A3 m3 c2 m3 c3 _ _ L L _ HX25.out HX35.out (by unfold maxLen; omega) (by unfold maxLen; omega) rfl).mono ?_
      rintro e w6 ⟨rfl, q6, rfl⟩
      have HE := hide (HB1.out.trans ((below_drewN HW5.out q6).mono hs1))
      go_wp2
      go_ret
      exact ⟨rfl, HE.out⟩
    · rw [hv] at HP3
      have HV := hide hv
      have hm12 : m = 12 := HLM.out.symm.trans (mpV_iff.1 hv).2
      subst hm12
      clear hv
      go_wp2_with fail
      refine (HP3.out _ (below_drewN HW3.out q4)).mono ?_
      rintro e w5 ⟨rfl, hb5⟩
      have HW5 := hide ((below_drewN HW3.out q4).trans (hb5.mono (show w1.heap.size ≤ (w3.drewN q4).heap.size from HW3.out.size)))
      have HX5 := hide ((HX2.out.drewN q4).below hb5 (show w2.heap.size ≤ (w3.drewN q4).heap.size from HS23.out))
      have HS25 := hide (Nat.le_trans HS23.out hb5.size)
      have HI5 := hide (HI.out.below HW5.out (Nat.le_refl _))
      have HS15 := hide HW5.out.size
      have HEND := hide fun (W : World) (h : Below w5.heap.size w5 W) => HB1.out.trans ((HW5.out.trans (h.mono HW5.out.size)).mono hs1)
      clear hb5 HP3 HX2 HX3
      have HLQ : Hid (L = blkP (inZ ms z) 12) := by show _ = _; rw [← HL.out]; unfold inM; rw [HV.out]; rfl
      have HO0 := hide (Own.lit0 w5 w5.heap.size (Nat.le_refl _))
      have HB0 := hide (below_new w5 (.cells #[] 3))
      go_wp2
      go_loopw [7, 8] (fun o i wr => ∃ (k j d : Nat) (X : Option Addr), k ≤ 12 ∧ j ≤ k ∧ i = .int .i64 k ∧ o = .slice X j d ∧ Hid (Own wr w5.heap.size X j d (blkP (inZ ms z) k)) ∧ Hid (Below w5.heap.size w5 wr)) (fun _ i _ => 12 - (intOf i).toNat)
      case atStart => exact ⟨0, 0, 0, _, by omega, by omega, rfl, rfl, HO0.out, HB0.out⟩
      case round =>
        clear HO0 HB0
        obtain ⟨k, j, d, X, hk, hjk, rfl, rfl, HO, HB⟩ := hrel
        by_cases hlt : k < 12
        · obtain ⟨x, hx⟩ : ∃ x, ms[k]? = some x := ⟨_, List.getElem?_eq_getElem (by rw [HLM.out]; exact hlt)⟩
          have HP := hide (inZ_at hx z)
          obtain ⟨ad, p, rfl, hp, hpb, h0, h1, h2, h3, h4⟩ := (HI5.out.below HB.out HS15.out).at_ hx
          obtain ⟨t, y, a, i, u⟩ := x
          dsimp only at h0 h1 h2 h3 h4 HP
          clear hx h2 h3 h4
          have k0 : (0 : Int) ≤ (k : Int) := by omega
          have k1 : (k : Int) < 12 := by omega
          have hsz := HB.out.size
          by_cases ht : t = 0
          · subst ht
            have HN := hide (blk_no (p := inZ ms z) (k := k) (by rw [HP.out]; simp))
            go_wp2
            go_roundw
            case rel => exact ⟨k + 1, _, _, _, by omega, by omega, by go_num, rfl, by show Own _ _ _ _ _ _; rw [HN.out]; exact HO.out, HB.out⟩
            case measure => simp [intOf]; omega
          · have ht' : (t != 0) = true := by simpa using ht
            by_cases hz : z = y
            · subst hz
              have HN := hide (blk_yes (p := inZ ms z) (k := k) (by rw [HP.out]; simp [ht]))
              go_wp2_with (at_builtin; refine wpList_append_ints rfl (.tmp 57) (.tmp 59) rfl w5.heap.size j d (wr.heap.size + 1) 1 1 X (some ⟨wr.heap.size, 0, none⟩) (blkP (inZ ms z) k) [(k : Int)] rfl (HO.out.alloc _) rfl (Ints.one wr (k : Int)) (by omega) (by simp; omega) ?_; intro A8 c8 w8 ho8 hg8 hat8; have HB8 := hide (below_app HB.out hsz HO.out (Nat.le_refl _) hg8); have HO8 := hide ho8; clear ho8 hg8 hat8)
              go_roundw
              case rel => exact ⟨k + 1, j + 1, _, _, by omega, by omega, by go_num, rfl, by show Own _ _ _ _ _ _; rw [HN.out]; exact HO8.out, HB8.out⟩
              case measure => simp [intOf]; omega
            · have hz' : (y == z) = false := by simpa using fun e => hz e.symm
              have HN := hide (blk_no (p := inZ ms z) (k := k) (by rw [HP.out]; simp [show ¬ y = z from fun e => hz e.symm]))
              go_wp2
              go_roundw
              case rel => exact ⟨k + 1, _, _, _, by omega, by omega, by go_num, rfl, by show Own _ _ _ _ _ _; rw [HN.out]; exact HO.out, HB.out⟩
              case measure => simp [intOf]; omega
        · obtain rfl : k = 12 := by omega
          have HOL := hide HO.out
          rw [← HLQ.out] at HOL
          obtain rfl : j = m3 := HOL.out.1.symm.trans HL2.out
          go_wp2_with fail
          refine (sameInts_yes X A2 j d j c2 _ _ L L _ HOL.out.ints (HX5.out.below HB.out HS25.out) (by unfold maxLen; omega) (by unfold maxLen; omega) rfl).mono ?_
          rintro e w6 ⟨rfl, q6, rfl⟩
          have HE := hide (HEND.out _ (below_drewN HB.out q6))
          go_wp2
          go_ret
          exact ⟨rfl, HE.out⟩
end Go.Proofs.Ytgkjbickphdeoaa
