/-
  The walk of FnScanEnd.
-/
import Derived.Test.YtcocboigjfjnfaaScnL
namespace Go.Proofs.Ytcocboigjfjnfaa
open Go.RowKit
set_option linter.unusedVariables false
set_option maxRecDepth 100000

set_option maxHeartbeats 12800000 in
theorem scanEnd_walk (A : Option Addr) (n c : Nat) (bs : Nat → Int) (w : World) (hb : Bytes w w.heap.size A n bs) (hn : n ≤ c) (hc : c ≤ maxLen) :
    Calls Try.prog 4 #[.slice A n c] w fun e w' => e = .returned (.bool true) ∧ Below w.heap.size w w' := by
  by_cases hbig : 1048576 < n
  · go_enter Try.func4, Try.ntmps4
    go_wp2
    go_ret
    exact ⟨rfl, Below.refl _ _⟩
  go_enter Try.func4, Try.ntmps4
  go_wp2_with fail
  refine (drawScanZone_any A n c bs _ hb hn hc).mono ?_
  rintro e w1 ⟨A1, m, c1, qs, z, rfl, hd, hz0, hz1⟩
  have HD := hide hd
  have HP1 := hide (implScanZ A1 m c1 _ z qs w1 hd.1 (Nat.le_refl _) (by have := hd.2.1; omega) (by omega) (by omega))
  have HP2 := hide fun (W : World) (h : Below w1.heap.size w1 W) => specScanZ A1 m c1 _ z qs W (hd.1.below h (Nat.le_refl _)) h.size (by have := hd.2.1; omega)
  clear hb hd
  obtain ⟨e0, he0⟩ : ∃ e, (scanZ (zns qs) z).2 = e := ⟨_, rfl⟩
  unfold ScanPost at HP1 HP2
  rw [he0] at HP1 HP2
  have HE := hide he0
  clear he0
  go_wp2_with fail
  refine HP1.out.mono ?_
  rintro e w2 ⟨A2, c2, n2, rs, rfl, ho2, hf2, hb2⟩
  have HO2 := hide ho2
  have HF2 := hide hf2
  have HB2 := hide hb2
  clear ho2 hf2 hb2 HP1
  go_wp2_with fail
  refine (HP2.out w2 HB2.out).mono ?_
  rintro e w3 ⟨A3, c3, n3, rs', rfl, ho3, hf3, hb3⟩
  obtain ⟨rfl, hZ⟩ := ZScn.of HD.out HO2.out HF2.out HB2.out ho3 hf3 hb3
  have HZ := hide hZ
  clear hZ ho3 hf3 hb3 HO2 HF2 HB2 HP2 HD
  have h4 := HZ.out.m4
  have hnum := HZ.out.num
  have HSM := hide fun (W : World) (h : Below w3.heap.size w3 W) => sameFnd_yes A2 A3 n3 c2 c3 _ _ rs rs' W (HZ.out.out W h) (HZ.out.want W h) (Nat.le_trans HZ.out.s3 h.size) h.size (by unfold maxLen; omega) HZ.out.f3
  have HDV := hide fun (W : World) (h : Below w3.heap.size w3 W) => specDV A1 m c1 _ qs W (HZ.out.zs W h) (by omega)
  rcases hv : devV (zns qs) with _ | _
  · rw [hv] at HDV
    clear hv
    go_wp2_with fail
    refine (HSM.out w3 (Below.refl _ _)).mono ?_
    rintro e w4 ⟨rfl, hb4⟩
    have HB4 := hide hb4
    clear hb4
    go_wp2_with fail
    refine (HDV.out w4 HB4.out).mono ?_
    rintro e w5 ⟨rfl, q5, rfl⟩
    have HB5 := hide (below_drewN HB4.out q5)
    go_wp2_with fail
    refine (HSM.out _ HB5.out).mono ?_
    rintro e w6 ⟨rfl, hb6⟩
    have HFIN := hide (HZ.out.fin w6 (HB5.out.trans (hb6.mono HB5.out.size)))
    clear hb6
    go_wp2
    go_ret
    exact ⟨rfl, HFIN.out⟩
  rw [hv] at HDV
  by_cases hzr : 0 ≤ z ∧ z ≤ 3
  case neg =>
    clear hv
    have hzz : (z < 0) ∨ (¬ z < 0 ∧ 4 ≤ z) := by omega
    clear hzr
    rcases hzz with hzz | ⟨hzz, hzz2⟩
    all_goals
      go_wp2_with fail
      refine (HSM.out w3 (Below.refl _ _)).mono ?_
      rintro e w4 ⟨rfl, hb4⟩
      have HB4 := hide hb4
      clear hb4
      go_wp2_with fail
      refine (HDV.out w4 HB4.out).mono ?_
      rintro e w5 ⟨rfl, q5, rfl⟩
      have HB5 := hide (below_drewN HB4.out q5)
      go_wp2_with fail
      refine (HSM.out _ HB5.out).mono ?_
      rintro e w6 ⟨rfl, hb6⟩
      have HFIN := hide (HZ.out.fin w6 (HB5.out.trans (hb6.mono HB5.out.size)))
      clear hb6
      go_wp2
      go_ret
      exact ⟨rfl, HFIN.out⟩
  obtain ⟨k, rfl⟩ := Int.eq_ofNat_of_zero_le hzr.1
  obtain rfl : m = 4 := devV_is4 hv (HZ.out.zs w3 (Below.refl _ _)).1
  obtain ⟨q, hq⟩ : ∃ q, qs[k]? = some q := ⟨_, List.getElem?_eq_getElem (by rw [(HZ.out.zs w3 (Below.refl _ _)).1]; omega)⟩
  have HSZ := hide (scanZ_yes hv (by omega) hq)
  have HQ := hide hq
  have hql : q.words.length ≤ 64 := devV_words hv hq
  have HFN : Hid (fns rs = (scanW (k : Int) q.words 0).1) := HZ.out.f2.trans (by rw [HSZ.out])
  have HEE : Hid ((scanW (k : Int) q.words 0).2 = e0) := by show _ = _; rw [← HE.out, HSZ.out]
  have hel : e0 ≤ q.words.length := by rw [← HEE.out]; exact scan_le _ _ 0 (Nat.zero_le _)
  have hz1 : ¬ (k : Int) < 0 := by omega
  have hz2 : ¬ (4 : Int) ≤ (k : Int) := by omega
  have HVV := hide hv
  clear hv hq hzr hz0
  go_wp2_with fail
  refine (HSM.out w3 (Below.refl _ _)).mono ?_
  rintro e w4 ⟨rfl, hb4⟩
  have HB4 := hide hb4
  clear hb4
  go_wp2_with fail
  refine (HDV.out w4 HB4.out).mono ?_
  rintro e w5 ⟨rfl, q5, rfl⟩
  have HB5 := hide (below_drewN HB4.out q5)
  generalize w4.drewN q5 = w5 at *
  clear HSM HDV HB4
  have hw3 : w3.heap.size ≤ w5.heap.size := HB5.out.size
  have hR := HZ.out.zs w5 HB5.out
  obtain ⟨ad, p, rfl, hp, hpb, d0, d1, d2⟩ := hR.at_ HQ.out
  obtain ⟨hi, hle, hcm⟩ := hR.words HQ.out
  have hno : ¬ goodF q.words q.words.length (e0 : Int) := by rw [← HEE.out]; exact scan_end _ _ 0
  unfold maxLen at hcm
  have hs15 : w1.heap.size ≤ w5.heap.size := by have := HZ.out.s2; have := HZ.out.s3; omega
  have HC := implGet_no0 q.addr q.words.length q.cap (e0 : Int) q.words w5 (hi.more hs15) hle (by omega) (by omega) (by omega) hno
  unfold noFrame at HC
  replace HC := hide HC
  have HZW := hide fun (W : World) (h : Below w3.heap.size w3 W) => (HZ.out.zs W h).at_ HQ.out
  clear hR hi hno d1 d2 HSZ
  unfold Zq.sl at d0
  have k0 : (0 : Int) ≤ (k : Int) := by omega
  have k1 : (k : Int) < ((4 : Nat) : Int) := by omega
  have he1 : (e0 : Int) ≤ (q.words.length : Int) := by omega
  go_wp2_with fail
  refine HC.out.mono ?_
  rintro e w6 ⟨rfl, hb6⟩
  have HB6 := hide (HB5.out.trans (hb6.mono hw3))
  have hpw : p.block < w5.heap.size := by omega
  have d3 : (w6.alloc (.cells #[.int .i64 0, .int .i64 0, .slice none 0 0] 33)).cell? p = some (.slice q.addr q.words.length q.cap) :=
    ((Below.refl w6.heap.size w6).alloc (Nat.le_refl _) _ |>.cell (p := p) (by have := hb6.size; omega)).trans ((hb6.cell (p := p) hpw).trans d0)
  have HFIN := hide (HZ.out.fin _ (HB6.out.alloc HB6.out.size (.cells #[.int .i64 0, .int .i64 0, .slice none 0 0] 33)))
  clear hb6 HC
  go_wp2
  go_ret
  exact ⟨rfl, HFIN.out⟩
end Go.Proofs.Ytcocboigjfjnfaa
