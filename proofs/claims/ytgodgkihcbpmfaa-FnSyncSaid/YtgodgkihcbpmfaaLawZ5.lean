/-
  The walk of FnSync.
-/
import Derived.Test.YtgodgkihcbpmfaaSameZ
import Derived.Test.YtgodgkihcbpmfaaDrawZ4
import Derived.Test.YtgodgkihcbpmfaaImpZ5
namespace Go.Proofs.Ytgodgkihcbpmfaa
open Go.RowKit
set_option linter.unusedVariables false
set_option maxRecDepth 100000

set_option maxHeartbeats 6400000 in
theorem sync_walk (A : Option Addr) (n c : Nat) (bs : Nat → Int) (w : World) (hb : Bytes w w.heap.size A n bs) (hn : n ≤ c) (hc : c ≤ maxLen) :
    Calls Try.prog 7 #[.slice A n c] w fun e w' => e = .returned (.bool true) ∧ Below w.heap.size w w' := by
  by_cases hbig : 1048576 < n
  · go_enter Try.func7, Try.ntmps7
    go_wp2
    go_ret
    exact ⟨rfl, Below.refl _ _⟩
  · go_enter Try.func7, Try.ntmps7
    go_wp2_with fail
    refine (drawSync_any A n c bs _ hb hn hc).mono ?_
    rintro e w1 ⟨A1, m, c1, qs, rfl, hz1, hm, hmc, hcm, hl1, hB1⟩
    have HB1 := hide hB1
    have HZ1 := hide hz1
    have hs1 := hB1.size
    have HP1 := hide (implSync A1 m c1 _ qs w1 hz1 (Nat.le_refl _) (by omega))
    have HP2 := hide fun (W : World) (h : Below w1.heap.size w1 W) => specSyncD A1 m c1 _ qs W (hz1.below h (Nat.le_refl _)) h.size (by omega)
    clear hb hB1 hz1 hl1
    obtain ⟨v, hv⟩ : ∃ v, devV (zns qs) = v := ⟨_, rfl⟩
    rw [hv] at HP1 HP2
    obtain ⟨D, hD⟩ : ∃ D : Dev, syncF (zns qs) = D := ⟨_, rfl⟩
    rw [hD] at HP1 HP2
    have HD := hide (show (if v then syncD (zns qs) else []) = D by rw [← hD, ← hv]; rfl)
    clear hD hv
    go_wp2_with fail
    refine HP1.out.mono ?_
    rintro e w2 ⟨A2, m2, c2, qs2, rfl, ho2, hz2, hB2⟩
    have HO2 := hide ho2
    have HZ2 := hide hz2
    have HW2 := hide hB2
    clear ho2 hz2 hB2 HP1
    go_wp2_with fail
    refine (HP2.out _ HW2.out).mono ?_
    rintro e w3 ⟨A3, m3, c3, qs3, rfl, ho3, hz3, hB3⟩
    have HW3 := hide (HW2.out.trans (hB3.mono HW2.out.size))
    have HPR := hide (pair_same HO2.out ho3 HZ2.out hz3 hB3)
    have HX2 := hide (HO2.out.zns.below hB3 (Nat.le_refl _))
    have hs23 := hB3.size
    obtain rfl : m3 = m2 := HPR.out.1
    clear ho3 hz3 hB3 HP2
    go_wp2_with fail
    refine (HPR.out.2.2 _ (Below.refl _ _)).mono ?_
    rintro e w4 ⟨rfl, hB4⟩
    have HW4 := hide (HW3.out.trans (hB4.mono HW3.out.size))
    have HW34 := hide hB4
    have HX4 := hide (HX2.out.below hB4 hs23)
    have hs4 := hB4.size
    clear hB4
    rcases v with _ | _
    · go_wp2_with fail
      refine (HPR.out.2.2 _ HW34.out).mono ?_
      rintro e w5 ⟨rfl, hB5⟩
      have HB5 := hide (HB1.out.trans ((HW4.out.trans (hB5.mono HW4.out.size)).mono hs1))
      clear hB5
      go_wp2
      go_ret
      exact ⟨rfl, HB5.out⟩
    · have HDD := hide (show zns qs2 = syncD (zns qs) by have h := HZ2.out.trans HD.out.symm; simpa using h)
      obtain rfl : m3 = m := by
        have h := congrArg List.length HDD.out
        unfold zns syncD at h
        rw [List.length_map, List.length_map, List.length_map, HO2.out.len, HZ1.out.1] at h
        exact h
      have HZ4 := hide (HZ1.out.below HW4.out (Nat.le_refl _))
      have hs14 := HW4.out.size
      go_wp2
      go_loopw [8] (fun i wr => ∃ (k : Nat), k ≤ m3 ∧ i = .int .i64 k ∧ Hid (Below w4.heap.size w4 wr)) (fun i _ => m3 - (intOf i).toNat)
      case atStart => exact ⟨0, Nat.zero_le _, rfl, Below.refl _ _⟩
      case round =>
        obtain ⟨k, hk, rfl, HB⟩ := hrel
        have hs := HB.out.size
        by_cases hlt : k < m3
        · obtain ⟨q, hq⟩ : ∃ q, qs[k]? = some q := ⟨_, List.getElem?_eq_getElem (by rw [HZ1.out.1]; exact hlt)⟩
          obtain ⟨r, hr, her⟩ : ∃ r, qs2[k]? = some r ∧ r.zn = syncZ q.zn := zns_get_inv (by rw [HDD.out]; unfold syncD; rw [List.getElem?_map, zns_get hq]; rfl)
          have hX := HX4.out.below HB.out (by omega)
          have hY := HZ4.out.below HB.out (by have := HW4.out.size; omega)
          obtain ⟨ad', p', rfl, hp', hb', hd0, hd1, hd2⟩ := hX.at_ hr
          obtain ⟨ad, p, rfl, hp, hb5, hc0, hc1, hc2⟩ := hY.at_ hq
          obtain ⟨hi', hle', hcm'⟩ := hX.words hr
          obtain ⟨hi, hle, hcm5⟩ := hY.words hq
          clear hq hr hX hY
          obtain ⟨ws, sy, fu, qa, qc⟩ := q
          obtain ⟨ws', sy', fu', ra, rc⟩ := r
          unfold Zq.zn syncZ at her
          injection her with h1 h2
          injection h2 with h2 h3
          simp only at h1 h2 h3
          subst h1
          subst h2
          subst h3
          simp only [Zq.sl] at hc0 hc1 hc2 hi hle hcm5 hd0 hd1 hd2 hi' hle' hcm'
          generalize ws'.length = l at hc0 hi hle hd0 hd1 hi' hle'
          have hl9 : l ≤ 9223372036854775807 := by unfold maxLen at hcm5; omega
          have HBo := hide (Blk.new wr 31 #[.slice qa l qc, .int .i64 l, .bool fu'])
          have HCF := hide (cell_facts' HBo.out)
          have hbl := Blk.new wr 31 #[.slice qa l qc, .int .i64 sy, .bool fu']
          have HCG := hide (cell_facts' hbl)
          have hz0 := HCG.out.1
          have hz1 := HCG.out.2.1
          have hzf := hbl.frozen 1
          have HWZ := hide (below_box wr (.cells #[.slice qa l qc, .int .i64 l, .bool fu'] 31))
          have HSZ := hide fun (W : World) (hW : Below wr.heap.size wr W) => sameZone_yes ra qa l rc qc w2.heap.size w1.heap.size (l : Int) fu' ws' W (hi'.keep (fun p hp => hW.cell (by omega))) (hi.keep (fun p hp => hW.cell (by omega))) (by have := hW.size; omega) (by have := hW.size; omega) (by omega)
          have hd0' := (HWZ.out.cell (p := p') (by omega)).trans hd0
          have hd1' := (HWZ.out.cell (p := ⟨p'.block, p'.off + 1, none⟩) (by show p'.block < _; omega)).trans hd1
          have hd2' := (HWZ.out.cell (p := ⟨p'.block, p'.off + 2, none⟩) (by show p'.block < _; omega)).trans hd2
          have k0 : (0 : Int) ≤ (k : Int) := by omega
          have k1 : (k : Int) < (m3 : Int) := by omega
          clear hi hle hcm5 hi' hle' hcm' hbl hd0 hd1 hd2
          go_upto_region 13 with (fail)
          have hx0 := HCF.out.1
          have hx1 := HCF.out.2.1
          have hx2 := HCF.out.2.2
          have hbp' : p'.block < wr.heap.size := by omega
          have hbx : wr.heap.size < (wr.alloc (.cells #[.slice qa l qc, .int .i64 l, .bool fu'] 31)).heap.size := by simp
          go_region_held3 (fun W => W.cell? p' = some (.slice ra l rc) ∧ W.cell? ⟨p'.block, p'.off + 1, none⟩ = some (.int .i64 l) ∧ W.cell? ⟨p'.block, p'.off + 2, none⟩ = some (.bool fu') ∧
              W.cell? ⟨wr.heap.size, 0, none⟩ = some (.slice qa l qc) ∧ W.cell? ⟨wr.heap.size, 1, none⟩ = some (.int .i64 l) ∧ W.cell? ⟨wr.heap.size, 2, none⟩ = some (.bool fu'))
            (first
              | go_keep
              | (exact ⟨(hb1.cell (p := p') (by omega)).trans hd0', (hb1.cell (p := ⟨p'.block, p'.off + 1, none⟩) (by show p'.block < _; omega)).trans hd1', (hb1.cell (p := ⟨p'.block, p'.off + 2, none⟩) (by show p'.block < _; omega)).trans hd2',
                  (hb1.cell (p := ⟨wr.heap.size, 0, none⟩) hbx).trans hx0, (hb1.cell (p := ⟨wr.heap.size, 1, none⟩) hbx).trans hx1, (hb1.cell (p := ⟨wr.heap.size, 2, none⟩) hbx).trans hx2⟩))
            ((first
              | (go_at_call 15; refine (HSZ.out _ (below_drewN HWZ.out 1)).mono ?_; rintro e w5 ⟨rfl, hb1'⟩; have hb1 := below_undrew (i := 1) hb1'; clear hb1')))
          all_goals
            have HB5 := hide (HB.out.trans ((HWZ.out.mono hs).trans (hb1.mono (by have := HWZ.out.size; omega))))
            clear hb1
            go_wp2
            go_roundw
            case rel => exact ⟨k + 1, by omega, by go_num, HB5.out⟩
            case measure => simp [intOf]; omega
        · obtain rfl : k = m3 := by omega
          have HEND := hide (HB1.out.trans ((HW4.out.trans (HB.out.mono HW4.out.size)).mono hs1))
          go_wp2
          go_ret
          exact ⟨rfl, HEND.out⟩
end Go.Proofs.Ytgodgkihcbpmfaa
