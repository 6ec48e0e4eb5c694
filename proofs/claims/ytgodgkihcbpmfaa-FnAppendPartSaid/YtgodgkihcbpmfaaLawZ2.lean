/-
  The walk of FnAppend.
-/
import Derived.Test.YtgodgkihcbpmfaaSameZ
import Derived.Test.YtgodgkihcbpmfaaDrawZ4
import Derived.Test.YtgodgkihcbpmfaaImpZ6
import Derived.Test.YtgodgkihcbpmfaaQz
namespace Go.Proofs.Ytgodgkihcbpmfaa
open Go.RowKit
set_option linter.unusedVariables false
set_option maxRecDepth 100000

theorem allW_append {xs ys : List Int} : allW (xs ++ ys) = (allW xs && allW ys) := by unfold allW; rw [List.all_append]
theorem zoneOk_append {ws xs : List Int} {sy : Int} {fu : Bool} (h : zoneOk (ws, sy, fu) = true) (hx : allW xs = true) (hl : ws.length + xs.length ≤ 64) : zoneOk (ws ++ xs, sy, fu) = true := by
  unfold zoneOk at h ⊢
  simp only [Bool.and_eq_true, decide_eq_true_eq] at h ⊢
  obtain ⟨⟨h1, h2⟩, h3⟩ := h
  obtain ⟨h4, h5⟩ := inB_iff.1 h3
  refine ⟨⟨by rw [allW_append, h1, hx]; rfl, by rw [List.length_append]; exact hl⟩, inB_true h4 ?_⟩
  rw [List.length_append]
  omega

set_option maxHeartbeats 6400000 in
theorem append_walk (A : Option Addr) (n c : Nat) (bs : Nat → Int) (w : World) (hb : Bytes w w.heap.size A n bs) (hn : n ≤ c) (hc : c ≤ maxLen) :
    Calls Try.prog 4 #[.slice A n c] w fun e w' => e = .returned (.bool true) ∧ Below w.heap.size w w' := by
  by_cases hbig : 1048576 < n
  · go_enter Try.func4, Try.ntmps4
    go_wp2
    go_ret
    exact ⟨rfl, Below.refl _ _⟩
  · go_enter Try.func4, Try.ntmps4
    go_wp2_with fail
    refine (drawAppend_any A n c bs _ hb hn hc).mono ?_
    rintro e w1 ⟨A1, m, c1, qs, z, X, kx, dx, xs, rfl, ⟨hz1, hm, hmc, hcm, hl1, hB1⟩, hzz0, hzz1, hx1, hkx, hkdx, hdx⟩
    have HB1 := hide hB1
    have HZ1 := hide hz1
    have hs1 := hB1.size
    have HX1 := hide hx1
    have HP1 := hide (implAppend A1 X m c1 _ _ kx dx z qs xs w1 hz1 (Nat.le_refl _) (by omega) hx1 (Nat.le_refl _) (by omega))
    have HP2 := hide fun (W : World) (h : Below w1.heap.size w1 W) => specAppend A1 X m c1 _ _ kx dx z qs xs W (hz1.below h (Nat.le_refl _)) h.size (by omega) (hx1.below h (Nat.le_refl _)) h.size (by omega)
    clear hb hB1 hz1 hx1
    have hdx' : dx ≤ 9223372036854775807 := by unfold maxLen at hdx; omega
    obtain ⟨N, hN⟩ : ∃ N : Int, appendN (zns qs) z xs = N := ⟨_, rfl⟩
    obtain ⟨D, hD⟩ : ∃ D : Dev, appendD (zns qs) z xs = D := ⟨_, rfl⟩
    rw [hN, hD] at HP1 HP2
    have HN := hide hN
    have HD := hide hD
    have HL := hide hl1
    clear hD hN hl1
    go_wp2_with fail
    refine HP1.out.mono ?_
    rintro e w2 ⟨A2, m2, c2, qs2, rfl, ho2, hz2, hB2⟩
    have HO2 := hide ho2
    have HZ2 := hide hz2
    have HW2 := hide hB2
    clear ho2 hz2 hB2 HP1
    go_wp2_with fail
    refine (HP2.out _ HW2.out).mono ?_
    rintro e w3 ⟨A3, m3, c3, qs3, rfl, ho3, hz3, hB3⟩
    have HW3 := hide (HW2.out.trans (hB3.mono HW2.out.size))
    have HPR := hide (pair_same HO2.out ho3 HZ2.out hz3 hB3)
    have HX2 := hide (HO2.out.zns.below hB3 (Nat.le_refl _))
    have HB23 := hide hB3
    have hs23 := hB3.size
    obtain rfl : m3 = m2 := HPR.out.1
    clear ho3 hz3 hB3 HP2
    go_wp2_with fail
    refine (HPR.out.2.2 _ (Below.refl _ _)).mono ?_
    rintro e w4 ⟨rfl, hB4⟩
    have HW4 := hide (HW3.out.trans (hB4.mono HW3.out.size))
    have HW34 := hide hB4
    have HX4 := hide (HX2.out.below hB4 hs23)
    have hs4 := hB4.size
    have HEND := hide fun (W : World) (h : Below w4.heap.size w4 W) => HB1.out.trans ((HW4.out.trans (h.mono HW4.out.size)).mono hs1)
    have hW24 := HB23.out.trans (hB4.mono hs23)
    clear hB4
    rcases hok : (devV (zns qs) && inB z 0 3 && allW xs) with _ | _
    · obtain rfl : 2 = N := by rw [← HN.out, appendN_no hok]
      clear hok
      go_wp2_with fail
      refine (HPR.out.2.2 _ HW34.out).mono ?_
      rintro e w5 ⟨rfl, hB5⟩
      have HB5 := hide (HEND.out _ hB5)
      clear hB5
      go_wp2
      go_ret
      exact ⟨rfl, HB5.out⟩
    · have hzv : zoneV (zns qs) z = true := by rw [Bool.and_eq_true] at hok; exact hok.1
      obtain ⟨k, q, rfl, hk4, h4, hq, hl⟩ := zone_parts HZ1.out hzv
      subst h4
      have hN2 := HN.out
      have hD2 := HD.out
      rw [appendN_yes hok (zns_get hq)] at hN2
      rw [appendD_yes hok (zns_get hq)] at hD2
      have hok2 := hok
      rw [Bool.and_eq_true] at hok2
      have hdv : devV (zns qs) = true := by have h := hzv; unfold zoneV at h; rw [Bool.and_eq_true] at h; exact h.1
      have hzq : zoneOk q.zn = true := (devV_iff.1 hdv).1 q.zn (List.mem_map_of_mem (List.mem_of_getElem? hq))
      have hxl := HX1.out.1
      rw [hxl] at hN2 hD2
      replace hN2 : (if (!q.full && decide (q.words.length + kx ≤ 64)) = true then (0 : Int) else 1) = N := hN2
      replace hD2 : (if (!q.full && decide (q.words.length + kx ≤ 64)) = true then (zns qs).set k (q.words ++ xs, q.synced, q.full) else zns qs) = D := hD2
      by_cases hroom : (!q.full && decide (q.words.length + kx ≤ 64)) = true
      · rw [if_pos hroom] at hN2 hD2
        subst hN2
        simp only [Bool.and_eq_true, Bool.not_eq_true', decide_eq_true_eq] at hroom
        have HDD := hide (show zns qs2 = (zns qs).set k (q.words ++ xs, q.synced, q.full) from HZ2.out.trans hD2.symm)
        obtain rfl : m3 = 4 := by
          have h := congrArg List.length HDD.out
          unfold zns at h
          rw [List.length_set, List.length_map, List.length_map, HO2.out.len, HZ1.out.1] at h
          exact h
        have hkl : k < (zns qs).length := by unfold zns; rw [List.length_map, HZ1.out.1]; exact hk4
        have HDV := hide (show devV (zns qs2) = true by
          rw [HDD.out]
          exact devV_set hdv (zoneOk_append hzq hok2.2 (by rw [hxl]; exact hroom.2)))
        have HZ4 := hide (HZ1.out.below HW4.out (Nat.le_refl _))
        have HQ := hide hq
        have HL64 := hide hl
        have HX4i := hide (HX1.out.below HW4.out (Nat.le_refl _))
        have hs14 := HW4.out.size
        have k0 : (0 : Int) ≤ (k : Int) := by omega
        have k1 : (k : Int) < ((4 : Nat) : Int) := by omega
        have k2 : (k : Int) < 4 := by omega
        clear hok hok2 hq hl hzv hdv hzq hD2 hroom
        go_wp2
        go_loopw [10] (fun i wr => ∃ (j : Nat), j ≤ 4 ∧ i = .int .i64 j ∧ Hid (Below w4.heap.size w4 wr)) (fun i _ => 4 - (intOf i).toNat)
        case atStart => exact ⟨0, Nat.zero_le _, rfl, Below.refl _ _⟩
        case round =>
          obtain ⟨j, hj, rfl, HB⟩ := hrel
          have hs := HB.out.size
          by_cases hlt : j < 4
          · obtain ⟨q', hq'⟩ : ∃ q', qs[j]? = some q' := ⟨_, List.getElem?_eq_getElem (by rw [HZ1.out.1]; exact hlt)⟩
            have hX := HX4.out.below HB.out (by omega)
            have hY := HZ4.out.below HB.out (by omega)
            have j0 : (0 : Int) ≤ (j : Int) := by omega
            have j1 : (j : Int) < ((4 : Nat) : Int) := by omega
            have j2 : (j : Int) < 4 := by omega
            by_cases hjk : j = k
            · subst hjk
              obtain rfl : q' = q := by rw [HQ.out] at hq'; injection hq' with hq'; exact hq'.symm
              obtain ⟨r', hr', her'⟩ : ∃ r', qs2[j]? = some r' ∧ r'.zn = (q'.words ++ xs, q'.synced, q'.full) := zns_get_inv (by rw [HDD.out, List.getElem?_set_self hkl])
              have hq64 := HL64.out q' (List.mem_of_getElem? hq')
              obtain ⟨ad', p', rfl, hp', hb', hd0, hd1, hd2⟩ := hX.at_ hr'
              obtain ⟨ad, p, rfl, hp, hb5, hc0, hc1, hc2⟩ := hY.at_ hq'
              obtain ⟨hi', hle', hcm'⟩ := hX.words hr'
              obtain ⟨hi, hle, hcm5⟩ := hY.words hq'
              clear hq' hr' hX hY HQ
              obtain ⟨ws, sy, fu, qa, qc⟩ := q'
              obtain ⟨ws', sy', fu', ra, rc⟩ := r'
              unfold Zq.zn at her'
              injection her' with h1 h2
              injection h2 with h2 h3
              simp only at h1 h2 h3
              subst h1
              subst h2
              subst h3
              simp only [Zq.sl] at hc0 hc1 hc2 hi hle hcm5 hd0 hd1 hd2 hi' hle' hcm' hq64
              have hlen : (ws ++ xs).length = ws.length + kx := by rw [List.length_append, hxl]
              rw [hlen] at hd0 hi' hle'
              obtain ⟨l, hl⟩ : ∃ l, ws.length = l := ⟨_, rfl⟩
              rw [hl] at hc0 hi hle hd0 hi' hle' hq64
              have HLW := hide hl
              have HQI := hide (Own.lit0 (wr.alloc (.cells #[.slice qa l qc, .int .i64 sy', .bool fu'] 31)) (wr.heap.size + 1) (by simp))
              have HIW := hide ((hi.alloc (by omega) (.cells #[.slice qa l qc, .int .i64 sy', .bool fu'] 31)).alloc (by simp; omega) (.cells #[] 3))
              have HBX := hide ((Blk.new wr 31 #[.slice qa l qc, .int .i64 sy', .bool fu']).alloc (.cells #[] 3))
              have HW2 := hide (((below_box wr (.cells #[.slice qa l qc, .int .i64 sy', .bool fu'] 31)).alloc (by simp) (.cells #[] 3)) : Below wr.heap.size wr ((wr.alloc (.cells #[.slice qa l qc, .int .i64 sy', .bool fu'] 31)).alloc (.cells #[] 3)))
              have HXR := hide (HX4i.out.below HB.out hs14)
              have hcd0 := (HW2.out.cell (p := p) (by omega)).trans hc0
              have hbb : wr.heap.size + 1 ≤ ((wr.alloc (.cells #[.slice qa l qc, .int .i64 sy', .bool fu'] 31)).alloc (.cells #[] 3)).heap.size := by simp
              have hn1 : 0 + l ≤ 17592186044416 := by omega
              have hn2 : l + kx ≤ 17592186044416 := by omega
              have HSZ := hide fun (W : World) (A6 : Option Addr) (c6 : Nat) (hW : Below wr.heap.size wr W) (ho : Own W (wr.heap.size + 1) A6 (l + kx) c6 (ws ++ xs)) => sameZone_yes ra A6 (l + kx) rc c6 _ _ sy' fu' (ws ++ xs) W (hi'.keep (fun p hp => hW.cell (by omega))) ho.ints (by have := hW.size; omega) (Nat.le_refl _) (by have := ho.cap; omega)
              clear hi hle hcm5 hi' hle' hcm' hl hlen
              go_upto_region 13 with (fail)
              go_upto_region 14 with (first
                | (at_builtin; refine wpList_append_ints rfl (.tmp 69) (.tmp 74) rfl (wr.heap.size + 1) 0 0 _ l qc (some ⟨wr.heap.size + 1, 0, none⟩) qa [] ws rfl (by have h := HQI.out; rw [size_alloc] at h; exact h) rfl HIW.out hn1 hbb ?_; intro A5 c5 w5 ho5 hg5 hat5; simp only [Nat.zero_add, List.nil_append] at ho5 ⊢; clear hat5; have HO5 := hide ho5; have hg5' : ((wr.alloc (.cells #[.slice qa l qc, .int .i64 sy', .bool fu'] 31)).alloc (.cells #[] 3)).grownBy w5 (some (wr.heap.size + 1)) := hg5; have HBX5 := hide (HBX.out.grown hg5' (by simp)); have HW5 := hide (HW2.out.grown hg5' (by simp; omega) (fun b hb => by injection hb with hb; omega)); have HXR5 := hide (HXR.out.below HW5.out (by omega)); have hs5 : wr.heap.size + 1 ≤ w5.heap.size := Nat.le_trans hbb hg5.size; clear ho5 hg5 hg5')
                | (at_builtin; refine wpList_append_ints rfl (.tmp 75) (.tmp 76) rfl (wr.heap.size + 1) l c5 _ kx dx A5 X ws xs rfl HO5.out rfl HXR5.out hn2 hs5 ?_; intro A6 c6 w6 ho6 hg6 hat6; clear hat6; have HO6 := hide ho6; have HBX6 := hide (HBX5.out.grown hg6 (by intro e; have := (HO5.out.block _ e.symm).1; omega)); have HW6 := hide (HW5.out.grown hg6 (by omega) (fun b hb => by have := (HO5.out.block b hb).1; omega)); have hx0 := (cell_facts' HBX6.out).1; have hxf := HBX6.out.frozen 0; clear ho6 hg6))
              have HBX7 := hide (HBX6.out.set_ 0 (.slice A6 (l + kx) c6))
              have HCF := hide (cell_facts' (show Blk (w6.setCell ⟨wr.heap.size, 0, none⟩ (.slice A6 (l + kx) c6)) wr.heap.size 31 #[.slice A6 (l + kx) c6, .int .i64 sy', .bool fu'] from HBX7.out))
              have HG7 := hide (grown1 w6 wr.heap.size 0 (.slice A6 (l + kx) c6))
              have HW7 := hide (HW6.out.grown HG7.out HW6.out.size (fun b hb => by injection hb with hb; omega))
              have HO7 := hide (HO6.out.kept HG7.out (fun b hb => by injection hb with hb; subst hb; intro e; have := (HO6.out.block _ e).1; omega))
              have hs6 : wr.heap.size < w6.heap.size := HBX6.out.lt
              have hbx : wr.heap.size < (w6.setCell ⟨wr.heap.size, 0, none⟩ (.slice A6 (l + kx) c6)).heap.size := by simp [World.setCell]; exact hs6
              have hd0' := (HW7.out.cell (p := p') (by omega)).trans hd0
              have hd1' := (HW7.out.cell (p := ⟨p'.block, p'.off + 1, none⟩) (by show p'.block < _; omega)).trans hd1
              have hd2' := (HW7.out.cell (p := ⟨p'.block, p'.off + 2, none⟩) (by show p'.block < _; omega)).trans hd2
              have hy0 := HCF.out.1
              have hy1 := HCF.out.2.1
              have hy2 := HCF.out.2.2
              clear hx0 hxf hd0 hd1 hd2 hc0 hc1 hc2 hcd0
              obtain ⟨w7, hw7⟩ : ∃ w7, w6.setCell ⟨wr.heap.size, 0, none⟩ (.slice A6 (l + kx) c6) = w7 := ⟨_, rfl⟩
              rw [hw7] at HW7 HO7 hbx hd0' hd1' hd2' hy0 hy1 hy2 ⊢
              clear hw7 HBX7 HCF HG7
              go_region_held3 (fun W => W.cell? p' = some (.slice ra (l + kx) rc) ∧ W.cell? ⟨p'.block, p'.off + 1, none⟩ = some (.int .i64 sy') ∧ W.cell? ⟨p'.block, p'.off + 2, none⟩ = some (.bool fu') ∧
                  W.cell? ⟨wr.heap.size, 0, none⟩ = some (.slice A6 (l + kx) c6) ∧ W.cell? ⟨wr.heap.size, 1, none⟩ = some (.int .i64 sy') ∧ W.cell? ⟨wr.heap.size, 2, none⟩ = some (.bool fu'))
                (first
                  | go_keep
                  | (exact ⟨(hb1.cell (p := p') (by omega)).trans hd0', (hb1.cell (p := ⟨p'.block, p'.off + 1, none⟩) (by show p'.block < _; omega)).trans hd1', (hb1.cell (p := ⟨p'.block, p'.off + 2, none⟩) (by show p'.block < _; omega)).trans hd2',
                      (hb1.cell (p := ⟨wr.heap.size, 0, none⟩) hbx).trans hy0, (hb1.cell (p := ⟨wr.heap.size, 1, none⟩) hbx).trans hy1, (hb1.cell (p := ⟨wr.heap.size, 2, none⟩) hbx).trans hy2⟩))
                ((first
                  | (go_at_call 15; refine (HSZ.out (w7.drewN 1) A6 c6 (below_drewN HW7.out 1) (HO7.out.drewN 1)).mono ?_; rintro e w8 ⟨rfl, hb1'⟩; have hb1 := below_undrew (i := 1) hb1'; clear hb1')))
              all_goals
                have HB5 := hide (HB.out.trans ((HW7.out.mono hs).trans (hb1.mono (by have := HW7.out.size; omega))))
                clear hb1
                go_wp2
                go_roundw
                case rel => exact ⟨j + 1, by omega, by go_num, HB5.out⟩
                case measure => simp [intOf]; omega
            · have hjk' : ((j : Int) == (k : Int)) = false := by simp; omega
              obtain ⟨r', hr', her'⟩ : ∃ r', qs2[j]? = some r' ∧ r'.zn = q'.zn := zns_get_inv (by rw [HDD.out, List.getElem?_set_ne (fun e => hjk e.symm)]; exact zns_get hq')
              obtain ⟨ad', p', rfl, hp', hb', hd0, hd1, hd2⟩ := hX.at_ hr'
              obtain ⟨ad, p, rfl, hp, hb5, hc0, hc1, hc2⟩ := hY.at_ hq'
              obtain ⟨hi', hle', hcm'⟩ := hX.words hr'
              obtain ⟨hi, hle, hcm5⟩ := hY.words hq'
              clear hq' hr' hX hY
              obtain ⟨ws, sy, fu, qa, qc⟩ := q'
              obtain ⟨ws', sy', fu', ra, rc⟩ := r'
              unfold Zq.zn at her'
              injection her' with h1 h2
              injection h2 with h2 h3
              subst h1
              subst h2
              subst h3
              simp only [Zq.sl] at hc0 hc1 hc2 hi hle hcm5 hd0 hd1 hd2 hi' hle' hcm'
              generalize ws'.length = l at hc0 hi hle hd0 hi' hle'
              have hbl := Blk.new wr 31 #[.slice qa l qc, .int .i64 sy', .bool fu']
              have HCG := hide (cell_facts' hbl)
              have HWZ := hide (below_box wr (.cells #[.slice qa l qc, .int .i64 sy', .bool fu'] 31))
              have HSZ := hide fun (W : World) (hW : Below wr.heap.size wr W) => sameZone_yes ra qa l rc qc _ _ sy' fu' ws' W (hi'.keep (fun p hp => hW.cell (by omega))) (hi.keep (fun p hp => hW.cell (by omega))) (by have := hW.size; omega) (by have := hW.size; omega) (by omega)
              have hd0' := (HWZ.out.cell (p := p') (by omega)).trans hd0
              have hd1' := (HWZ.out.cell (p := ⟨p'.block, p'.off + 1, none⟩) (by show p'.block < _; omega)).trans hd1
              have hd2' := (HWZ.out.cell (p := ⟨p'.block, p'.off + 2, none⟩) (by show p'.block < _; omega)).trans hd2
              have hbx : wr.heap.size < (wr.alloc (.cells #[.slice qa l qc, .int .i64 sy', .bool fu'] 31)).heap.size := by simp
              clear hi hle hcm5 hi' hle' hcm' hbl hd0 hd1 hd2
              go_upto_region 14 with (fail)
              have hx0 := HCG.out.1
              have hx1 := HCG.out.2.1
              have hx2 := HCG.out.2.2
              go_region_held3 (fun W => W.cell? p' = some (.slice ra l rc) ∧ W.cell? ⟨p'.block, p'.off + 1, none⟩ = some (.int .i64 sy') ∧ W.cell? ⟨p'.block, p'.off + 2, none⟩ = some (.bool fu') ∧
                  W.cell? ⟨wr.heap.size, 0, none⟩ = some (.slice qa l qc) ∧ W.cell? ⟨wr.heap.size, 1, none⟩ = some (.int .i64 sy') ∧ W.cell? ⟨wr.heap.size, 2, none⟩ = some (.bool fu'))
                (first
                  | go_keep
                  | (exact ⟨(hb1.cell (p := p') (by omega)).trans hd0', (hb1.cell (p := ⟨p'.block, p'.off + 1, none⟩) (by show p'.block < _; omega)).trans hd1', (hb1.cell (p := ⟨p'.block, p'.off + 2, none⟩) (by show p'.block < _; omega)).trans hd2',
                      (hb1.cell (p := ⟨wr.heap.size, 0, none⟩) hbx).trans hx0, (hb1.cell (p := ⟨wr.heap.size, 1, none⟩) hbx).trans hx1, (hb1.cell (p := ⟨wr.heap.size, 2, none⟩) hbx).trans hx2⟩))
                ((first
                  | (go_at_call 15; refine (HSZ.out _ (below_drewN HWZ.out 1)).mono ?_; rintro e w5 ⟨rfl, hb1'⟩; have hb1 := below_undrew (i := 1) hb1'; clear hb1')))
              all_goals
                have HB5 := hide (HB.out.trans ((HWZ.out.mono hs).trans (hb1.mono (by have := HWZ.out.size; omega))))
                clear hb1
                go_wp2
                go_roundw
                case rel => exact ⟨j + 1, by omega, by go_num, HB5.out⟩
                case measure => simp [intOf]; omega
          · obtain rfl : j = 4 := by omega
            have HVL := hide (HDV.out ▸ implDV A2 4 c2 _ qs2 wr (HX4.out.below HB.out (by omega)) (by omega) (by omega))
            have HE5 := hide (HEND.out _ HB.out)
            go_wp2_with fail
            refine HVL.out.mono ?_
            rintro e w5 ⟨rfl, hB5⟩
            have HB5 := hide (HE5.out.trans (hB5.mono (by omega)))
            clear hB5
            go_wp2
            go_ret
            exact ⟨rfl, HB5.out⟩
      · rw [if_neg hroom] at hN2
        subst hN2
        clear hok hok2 hq hl hzv hdv hzq hD2 hroom
        go_wp2_with fail
        refine (HPR.out.2.2 _ HW34.out).mono ?_
        rintro e w5 ⟨rfl, hB5⟩
        have HB5 := hide (HEND.out _ hB5)
        clear hB5
        go_wp2
        go_ret
        exact ⟨rfl, HB5.out⟩
end Go.Proofs.Ytgodgkihcbpmfaa
