/-
  The walk of FnAppendPart.
-/
import Derived.Test.YtgodgkihcbpmfaaSameZ
import Derived.Test.YtgodgkihcbpmfaaDrawZ4
import Derived.Test.YtgodgkihcbpmfaaImpZ6
import Derived.Test.YtgodgkihcbpmfaaQz
import Derived.Test.YtgodgkihcbpmfaaLawZ2
namespace Go.Proofs.Ytgodgkihcbpmfaa
open Go.RowKit
set_option linter.unusedVariables false
set_option maxRecDepth 100000

theorem allW_take' {ws : List Int} (n : Nat) (h : allW ws = true) : allW (ws.take n) = true := by
  unfold allW at h ⊢
  rw [List.all_eq_true] at h ⊢
  exact fun x hx => h x (List.mem_of_mem_take hx)
theorem allW_drop' {ws : List Int} (n : Nat) (h : allW ws = true) : allW (ws.drop n) = true := by
  unfold allW at h ⊢
  rw [List.all_eq_true] at h ⊢
  exact fun x hx => h x (List.mem_of_mem_drop hx)

/-- words appended one after the other -/
theorem append_two {ds : Dev} {k y : Nat} {xs : List Int} {q : List Int × Int × Bool} (hv : devV ds = true) (hk : k < 4) (hx : allW xs = true) (hq : ds[k]? = some q) (hf : q.2.2 = false) (hl : q.1.length + xs.length ≤ 64) (hy : y ≤ xs.length) :
    appendN ds k (xs.take y) = 0 ∧ appendD ds k (xs.take y) = ds.set k (q.1 ++ xs.take y, q.2.1, q.2.2) ∧ appendN (ds.set k (q.1 ++ xs.take y, q.2.1, q.2.2)) k (xs.drop y) = 0 ∧
      appendD (ds.set k (q.1 ++ xs.take y, q.2.1, q.2.2)) k (xs.drop y) = ds.set k (q.1 ++ xs, q.2.1, q.2.2) := by
  have hin : inB (k : Int) 0 3 = true := inB_true (by omega) (by omega)
  have hkl : k < ds.length := (List.getElem?_eq_some_iff.1 hq).1
  have hq0 : zoneOk q = true := (devV_iff.1 hv).1 q (List.mem_of_getElem? hq)
  have hlt : (xs.take y).length = y := by rw [List.length_take]; omega
  have hld : (xs.drop y).length = xs.length - y := by rw [List.length_drop]
  have hr1 : (!q.2.2 && decide (q.1.length + (xs.take y).length ≤ 64)) = true := by rw [hf, hlt]; simp; omega
  have h1 : (devV ds && inB (k : Int) 0 3 && allW (xs.take y)) = true := by rw [hv, hin, allW_take' y hx]; rfl
  have hv2 : devV (ds.set k (q.1 ++ xs.take y, q.2.1, q.2.2)) = true := devV_set hv (zoneOk_append (sy := q.2.1) (fu := q.2.2) hq0 (allW_take' y hx) (by rw [hlt]; omega))
  have h2 : (devV (ds.set k (q.1 ++ xs.take y, q.2.1, q.2.2)) && inB (k : Int) 0 3 && allW (xs.drop y)) = true := by rw [hv2, hin, allW_drop' y hx]; rfl
  have hq2 : (ds.set k (q.1 ++ xs.take y, q.2.1, q.2.2))[k]? = some (q.1 ++ xs.take y, q.2.1, q.2.2) := by rw [List.getElem?_set_self hkl]
  have hr2 : (!q.2.2 && decide ((q.1 ++ xs.take y).length + (xs.drop y).length ≤ 64)) = true := by rw [hf, List.length_append, hlt, hld]; simp; omega
  refine ⟨by rw [appendN_yes h1 hq, if_pos hr1], by rw [appendD_yes h1 hq, if_pos hr1], by rw [appendN_yes h2 hq2, if_pos hr2], ?_⟩
  rw [appendD_yes h2 hq2, if_pos hr2, List.set_set, List.append_assoc, List.take_append_drop]

set_option maxHeartbeats 6400000 in
theorem appendPart_walk (A : Option Addr) (n c : Nat) (bs : Nat → Int) (A' : Option Addr) (n' c' : Nat) (bs' : Nat → Int) (w : World) (hb : Bytes w w.heap.size A n bs) (hn : n ≤ c) (hc : c ≤ maxLen)
    (hb' : Bytes w w.heap.size A' n' bs') (hn1 : n' ≤ c') (hc1 : c' ≤ maxLen) :
    Calls Try.prog 6 #[.slice A n c, .slice A' n' c'] w fun e w' => e = .returned (.bool true) ∧ Below w.heap.size w w' := by
  have hn' : n' ≤ 9223372036854775807 := by unfold maxLen at hc1; omega
  clear hc1 hb'
  by_cases hbig : 1048576 < n
  · go_enter Try.func6, Try.ntmps6
    go_wp2
    go_ret
    exact ⟨rfl, Below.refl _ _⟩
  by_cases hbig' : 1048576 < n'
  · go_enter Try.func6, Try.ntmps6
    go_wp2
    go_ret
    exact ⟨rfl, Below.refl _ _⟩
  · go_enter Try.func6, Try.ntmps6
    go_wp2_with fail
    refine (drawAppend_any A n c bs _ hb hn hc).mono ?_
    rintro e w1 ⟨A1, m, c1, qs, z, X, kx, dx, xs, rfl, ⟨hz1, hm, hmc, hcm, hl1, hB1⟩, hzz0, hzz1, hx1, hkx, hkdx, hdx⟩
    have HB1 := hide hB1
    have HZ1 := hide hz1
    have hs1 := hB1.size
    have HX1 := hide hx1
    have HP1 := hide (implAppend A1 X m c1 _ _ kx dx z qs xs w1 hz1 (Nat.le_refl _) (by omega) hx1 (Nat.le_refl _) (by omega))
    have HP2 := hide fun (W : World) (h : Below w1.heap.size w1 W) => specAppend A1 X m c1 _ _ kx dx z qs xs W (hz1.below h (Nat.le_refl _)) h.size (by omega) (hx1.below h (Nat.le_refl _)) h.size (by omega)
    clear hb hB1 hz1 hx1
    have hdx' : dx ≤ 9223372036854775807 := by unfold maxLen at hdx; omega
    obtain ⟨N, hN⟩ : ∃ N : Int, appendN (zns qs) z xs = N := ⟨_, rfl⟩
    obtain ⟨D, hD⟩ : ∃ D : Dev, appendD (zns qs) z xs = D := ⟨_, rfl⟩
    rw [hN, hD] at HP1 HP2
    have HN := hide hN
    have HD := hide hD
    have HL := hide hl1
    clear hD hN hl1
    go_wp2_with fail
    refine HP1.out.mono ?_
    rintro e w2 ⟨A2, m2, c2, qs2, rfl, ho2, hz2, hB2⟩
    have HO2 := hide ho2
    have HZ2 := hide hz2
    have HW2 := hide hB2
    clear ho2 hz2 hB2 HP1
    go_wp2_with fail
    refine (HP2.out _ HW2.out).mono ?_
    rintro e w3 ⟨A3, m3, c3, qs3, rfl, ho3, hz3, hB3⟩
    have HW3 := hide (HW2.out.trans (hB3.mono HW2.out.size))
    have HPR := hide (pair_same HO2.out ho3 HZ2.out hz3 hB3)
    have HX2 := hide (HO2.out.zns.below hB3 (Nat.le_refl _))
    have HB23 := hide hB3
    have hs23 := hB3.size
    obtain rfl : m3 = m2 := HPR.out.1
    clear ho3 hz3 hB3 HP2
    go_wp2_with fail
    refine (HPR.out.2.2 _ (Below.refl _ _)).mono ?_
    rintro e w4 ⟨rfl, hB4⟩
    have HW4 := hide (HW3.out.trans (hB4.mono HW3.out.size))
    have HW34 := hide hB4
    have HX4 := hide (HX2.out.below hB4 hs23)
    have hs4 := hB4.size
    have HEND := hide fun (W : World) (h : Below w4.heap.size w4 W) => HB1.out.trans ((HW4.out.trans (h.mono HW4.out.size)).mono hs1)
    have hW24 := HB23.out.trans (hB4.mono hs23)
    clear hB4
    rcases hok : (devV (zns qs) && inB z 0 3 && allW xs) with _ | _
    · obtain rfl : 2 = N := by rw [← HN.out, appendN_no hok]
      clear hok
      go_wp2_with fail
      refine (HPR.out.2.2 _ HW34.out).mono ?_
      rintro e w5 ⟨rfl, hB5⟩
      have HB5 := hide (HEND.out _ hB5)
      clear hB5
      go_wp2
      go_ret
      exact ⟨rfl, HB5.out⟩
    · have hzv : zoneV (zns qs) z = true := by rw [Bool.and_eq_true] at hok; exact hok.1
      obtain ⟨k, q, rfl, hk4, h4, hq, hl⟩ := zone_parts HZ1.out hzv
      subst h4
      have hN2 := HN.out
      have hD2 := HD.out
      rw [appendN_yes hok (zns_get hq)] at hN2
      rw [appendD_yes hok (zns_get hq)] at hD2
      have hok2 := hok
      rw [Bool.and_eq_true] at hok2
      have hdv : devV (zns qs) = true := by have h := hzv; unfold zoneV at h; rw [Bool.and_eq_true] at h; exact h.1
      have hzq : zoneOk q.zn = true := (devV_iff.1 hdv).1 q.zn (List.mem_map_of_mem (List.mem_of_getElem? hq))
      have hxl := HX1.out.1
      rw [hxl] at hN2 hD2
      replace hN2 : (if (!q.full && decide (q.words.length + kx ≤ 64)) = true then (0 : Int) else 1) = N := hN2
      replace hD2 : (if (!q.full && decide (q.words.length + kx ≤ 64)) = true then (zns qs).set k (q.words ++ xs, q.synced, q.full) else zns qs) = D := hD2
      by_cases hroom : (!q.full && decide (q.words.length + kx ≤ 64)) = true
      · rw [if_pos hroom] at hN2 hD2
        subst hN2
        simp only [Bool.and_eq_true, Bool.not_eq_true', decide_eq_true_eq] at hroom
        have HDD := hide (show zns qs2 = (zns qs).set k (q.words ++ xs, q.synced, q.full) from HZ2.out.trans hD2.symm)
        obtain rfl : m3 = 4 := by
          have h := congrArg List.length HDD.out
          unfold zns at h
          rw [List.length_set, List.length_map, List.length_map, HO2.out.len, HZ1.out.1] at h
          exact h
        have hkl : k < (zns qs).length := by unfold zns; rw [List.length_map, HZ1.out.1]; exact hk4
        have HZ4 := hide (HZ1.out.below HW4.out (Nat.le_refl _))
        have HX4i := hide (HX1.out.below HW4.out (Nat.le_refl _))
        have hs14 := HW4.out.size
        obtain ⟨y, hy⟩ : ∃ y : Nat, (n' : Int) % ((kx : Int) + 1) = (y : Int) := ⟨((n' : Int) % ((kx : Int) + 1)).toNat, by have := Int.emod_nonneg (n' : Int) (b := (kx : Int) + 1) (by omega); omega⟩
        have hyk : y ≤ kx := by have := Int.emod_lt_of_pos (n' : Int) (b := (kx : Int) + 1) (by omega); omega
        have HT := hide (append_two hdv hk4 hok2.2 (zns_get hq) hroom.1 (by rw [hxl]; exact hroom.2) (by rw [hxl]; exact hyk))
        have HP3 := hide fun (W : World) (h : Below w4.heap.size w4 W) => implAppend A1 X 4 c1 _ _ y dx k qs (xs.take y) W (HZ4.out.below h hs14) (by have := h.size; omega) (by omega) ((HX4i.out.below h hs14).firsts hyk) (by have := h.size; omega) (by omega)
        rw [show appendN (zns qs) k (xs.take y) = 0 from HT.out.1, show appendD (zns qs) k (xs.take y) = _ from HT.out.2.1] at HP3
        obtain ⟨X2, hX2⟩ : ∃ X2, (if dx = y then X else X.map (·.add y)) = X2 := ⟨_, rfl⟩
        have HX2i := hide (show Ints w4 w1.heap.size X2 (kx - y) (xs.drop y) by
          have h := HX4i.out.cut hyk (Nat.le_refl kx) hkdx
          rw [hX2] at h
          have e : xs.take kx = xs := List.take_of_length_le (by rw [hxl]; exact Nat.le_refl _)
          rwa [e] at h)
        have hXL := HX4.out.below (Below.refl w4.heap.size w4) (Nat.le_trans hs23 hs4)
        have HXL := hide hXL
        have hn3 : n' ≤ 1048576 := by omega
        have y0 : (0 : Int) ≤ (y : Int) := by omega
        have y1 : (y : Int) ≤ (dx : Int) := by omega
        have y2 : (y : Int) ≤ (kx : Int) := by omega
        have HDE := hide (show zns qs2 = (zns qs).set k (q.zn.1 ++ xs, q.zn.2.1, q.zn.2.2) from HDD.out)
        clear hok hok2 hq hl hzv hdv hzq hD2 hroom hXL
        go_wp2_with fail
        refine (HP3.out _ (Below.refl _ _)).mono ?_
        rintro e w5 ⟨A5, m5, c5, qs5, rfl, ho5, hz5, hB5⟩
        obtain rfl : m5 = 4 := by
          have h := congrArg List.length hz5
          rw [List.length_set] at h
          unfold zns at h
          rw [List.length_map, List.length_map, ho5.len, HZ1.out.1] at h
          exact h
        have HP4 := hide (implAppend A5 X2 4 c5 _ _ (kx - y) (dx - y) k qs5 (xs.drop y) w5 ho5.zns (Nat.le_refl _) (by omega) (HX2i.out.below hB5 hs14) (by have := hB5.size; omega) (by omega))
        rw [hz5, show appendN ((zns qs).set k (q.zn.1 ++ xs.take y, q.zn.2.1, q.zn.2.2)) k (xs.drop y) = 0 from HT.out.2.2.1, show appendD ((zns qs).set k (q.zn.1 ++ xs.take y, q.zn.2.1, q.zn.2.2)) k (xs.drop y) = (zns qs).set k (q.zn.1 ++ xs, q.zn.2.1, q.zn.2.2) from HT.out.2.2.2, ← HDE.out] at HP4
        have HW5 := hide hB5
        clear ho5 hz5 hB5
        go_wp2_with fail
        refine HP4.out.mono ?_
        rintro e w6 ⟨A6, m6, c6, qs6, rfl, ho6, hz6, hB6⟩
        have HW6 := hide (HW5.out.trans (hB6.mono HW5.out.size))
        have HRD := hide (pair_read (w3 := w6) (c := c2) ho6 ((HXL.out.below HW6.out (Nat.le_trans hs23 hs4)).more (by have := HW6.out.size; omega)) hz6 (Below.refl _ _))
        obtain rfl : m6 = 4 := HRD.out.1
        clear ho6 hz6 hB6 hX2 hy
        go_wp2_with fail
        refine (HRD.out.2 _ (Below.refl _ _)).mono ?_
        rintro e w7 ⟨rfl, hB7⟩
        have HE7 := hide (HEND.out _ (HW6.out.trans (hB7.mono HW6.out.size)))
        clear hB7
        go_wp2
        go_ret
        exact ⟨rfl, HE7.out⟩
      · rw [if_neg hroom] at hN2
        subst hN2
        clear hok hok2 hq hl hzv hdv hzq hD2 hroom
        go_wp2_with fail
        refine (HPR.out.2.2 _ HW34.out).mono ?_
        rintro e w5 ⟨rfl, hB5⟩
        have HB5 := hide (HEND.out _ hB5)
        clear hB5
        go_wp2
        go_ret
        exact ⟨rfl, HB5.out⟩
end Go.Proofs.Ytgodgkihcbpmfaa
