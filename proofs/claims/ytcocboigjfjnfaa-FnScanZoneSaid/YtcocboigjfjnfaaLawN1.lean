/-
  The walk of FnScanZone.
-/
import Derived.Test.YtcocboigjfjnfaaScnL
import Derived.Test.YtcocboigjfjnfaaInts
import Derived.Test.YtcocboigjfjnfaaFrameP
import Derived.Test.YtcocboigjfjnfaaFrameW
namespace Go.Proofs.Ytcocboigjfjnfaa
open Go.RowKit
set_option linter.unusedVariables false
set_option maxRecDepth 100000

theorem putsF_append (fs gs : List Fn) : putsF (fs ++ gs) = putsF fs ++ putsF gs := by
  induction fs with
  | nil => rfl
  | cons f fs ih => simp only [List.cons_append, putsF, ih, List.append_assoc]
theorem putsF_snoc (fs : List Fn) (f : Fn) : putsF (fs ++ [f]) = putsF fs ++ putF f.2.2.1 f.2.2.2.1 f.2.2.2.2 := by rw [putsF_append]; simp [putsF]
theorem putsF_take (fs : List Fn) (k : Nat) : (putsF (fs.take k)).length ≤ (putsF fs).length := by
  have h := congrArg List.length (putsF_append (fs.take k) (fs.drop k))
  rw [List.take_append_drop, List.length_append] at h
  omega
theorem putsF_len (z : Int) (xs : List Int) : (putsF (scanW z xs 0).1).length ≤ xs.length := by
  have h := congrArg List.length (scan_puts z xs 0 (Nat.zero_le _))
  rw [List.length_append, List.length_take, List.length_take] at h
  have := scan_le z xs 0 (Nat.zero_le _)
  omega
set_option maxHeartbeats 12800000 in
theorem scanZone_walk (A : Option Addr) (n c : Nat) (bs : Nat → Int) (w : World) (hb : Bytes w w.heap.size A n bs) (hn : n ≤ c) (hc : c ≤ maxLen) :
    Calls Try.prog 3 #[.slice A n c] w fun e w' => e = .returned (.bool true) ∧ Below w.heap.size w w' := by
  by_cases hbig : 1048576 < n
  · go_enter Try.func3, Try.ntmps3
    go_wp2
    go_ret
    exact ⟨rfl, Below.refl _ _⟩
  go_enter Try.func3, Try.ntmps3
  go_wp2_with fail
  refine (drawScanZone_any A n c bs _ hb hn hc).mono ?_
  rintro e w1 ⟨A1, m, c1, qs, z, rfl, hd, hz0, hz1⟩
  have HD := hide hd
  have HP1 := hide (implScanZ A1 m c1 _ z qs w1 hd.1 (Nat.le_refl _) (by have := hd.2.1; omega) (by omega) (by omega))
  have HP2 := hide fun (W : World) (h : Below w1.heap.size w1 W) => specScanZ A1 m c1 _ z qs W (hd.1.below h (Nat.le_refl _)) h.size (by have := hd.2.1; omega)
  clear hb hd
  obtain ⟨e0, he0⟩ : ∃ e, (scanZ (zns qs) z).2 = e := ⟨_, rfl⟩
  unfold ScanPost at HP1 HP2
  rw [he0] at HP1 HP2
  have HE := hide he0
  clear he0
  go_wp2_with fail
  refine HP1.out.mono ?_
  rintro e w2 ⟨A2, c2, n2, rs, rfl, ho2, hf2, hb2⟩
  have HO2 := hide ho2
  have HF2 := hide hf2
  have HB2 := hide hb2
  clear ho2 hf2 hb2 HP1
  go_wp2_with fail
  refine (HP2.out w2 HB2.out).mono ?_
  rintro e w3 ⟨A3, c3, n3, rs', rfl, ho3, hf3, hb3⟩
  obtain ⟨rfl, hZ⟩ := ZScn.of HD.out HO2.out HF2.out HB2.out ho3 hf3 hb3
  have HZ := hide hZ
  clear hZ ho3 hf3 hb3 HO2 HF2 HB2 HP2 HD
  have h4 := HZ.out.m4
  have hnum := HZ.out.num
  have HSM := hide fun (W : World) (h : Below w3.heap.size w3 W) => sameFnd_yes A2 A3 n3 c2 c3 _ _ rs rs' W (HZ.out.out W h) (HZ.out.want W h) (Nat.le_trans HZ.out.s3 h.size) h.size (by unfold maxLen; omega) HZ.out.f3
  have HDV := hide fun (W : World) (h : Below w3.heap.size w3 W) => specDV A1 m c1 _ qs W (HZ.out.zs W h) (by omega)
  rcases hv : devV (zns qs) with _ | _
  · rw [hv] at HDV
    clear hv
    go_wp2_with fail
    refine (HSM.out w3 (Below.refl _ _)).mono ?_
    rintro e w4 ⟨rfl, hb4⟩
    have HB4 := hide hb4
    clear hb4
    go_wp2_with fail
    refine (HDV.out w4 HB4.out).mono ?_
    rintro e w5 ⟨rfl, q5, rfl⟩
    have HB5 := hide (below_drewN HB4.out q5)
    go_wp2_with fail
    refine (HSM.out _ HB5.out).mono ?_
    rintro e w6 ⟨rfl, hb6⟩
    have HFIN := hide (HZ.out.fin w6 (HB5.out.trans (hb6.mono HB5.out.size)))
    clear hb6
    go_wp2
    go_ret
    exact ⟨rfl, HFIN.out⟩
  rw [hv] at HDV
  by_cases hzr : 0 ≤ z ∧ z ≤ 3
  case neg =>
    clear hv
    have hzz : (z < 0) ∨ (¬ z < 0 ∧ 4 ≤ z) := by omega
    clear hzr
    rcases hzz with hzz | ⟨hzz, hzz2⟩
    all_goals
      go_wp2_with fail
      refine (HSM.out w3 (Below.refl _ _)).mono ?_
      rintro e w4 ⟨rfl, hb4⟩
      have HB4 := hide hb4
      clear hb4
      go_wp2_with fail
      refine (HDV.out w4 HB4.out).mono ?_
      rintro e w5 ⟨rfl, q5, rfl⟩
      have HB5 := hide (below_drewN HB4.out q5)
      go_wp2_with fail
      refine (HSM.out _ HB5.out).mono ?_
      rintro e w6 ⟨rfl, hb6⟩
      have HFIN := hide (HZ.out.fin w6 (HB5.out.trans (hb6.mono HB5.out.size)))
      clear hb6
      go_wp2
      go_ret
      exact ⟨rfl, HFIN.out⟩
  obtain ⟨k, rfl⟩ := Int.eq_ofNat_of_zero_le hzr.1
  obtain rfl : m = 4 := devV_is4 hv (HZ.out.zs w3 (Below.refl _ _)).1
  obtain ⟨q, hq⟩ : ∃ q, qs[k]? = some q := ⟨_, List.getElem?_eq_getElem (by rw [(HZ.out.zs w3 (Below.refl _ _)).1]; omega)⟩
  have HSZ := hide (scanZ_yes hv (by omega) hq)
  have HQ := hide hq
  have hql : q.words.length ≤ 64 := devV_words hv hq
  have HFN : Hid (fns rs = (scanW (k : Int) q.words 0).1) := HZ.out.f2.trans (by rw [HSZ.out])
  have HEE : Hid ((scanW (k : Int) q.words 0).2 = e0) := by show _ = _; rw [← HE.out, HSZ.out]
  have hel : e0 ≤ q.words.length := by rw [← HEE.out]; exact scan_le _ _ 0 (Nat.zero_le _)
  have hz1 : ¬ (k : Int) < 0 := by omega
  have hz2 : ¬ (4 : Int) ≤ (k : Int) := by omega
  have HVV := hide hv
  clear hv hq hzr hz0
  go_wp2_with fail
  refine (HSM.out w3 (Below.refl _ _)).mono ?_
  rintro e w4 ⟨rfl, hb4⟩
  have HB4 := hide hb4
  clear hb4
  go_wp2_with fail
  refine (HDV.out w4 HB4.out).mono ?_
  rintro e w5 ⟨rfl, q5, rfl⟩
  have HB5 := hide (below_drewN HB4.out q5)
  generalize w4.drewN q5 = w5 at *
  clear HSM HDV HB4
  go_wp2
  go_loopw [9, 10] (fun o i wr => ∃ (j l c4 : Nat) (A4 : Option Addr) (xs : List Int), j ≤ n3 ∧ l ≤ 64 ∧ i = .int .i64 j ∧ o = .slice A4 l c4 ∧ Hid (Own wr w5.heap.size A4 l c4 xs) ∧ Hid (xs = putsF ((fns rs).take j)) ∧ Hid (Below w5.heap.size w5 wr)) (fun _ i _ => n3 - (intOf i).toNat)
  case atStart => exact ⟨0, 0, 0, _, [], Nat.zero_le _, Nat.zero_le _, rfl, rfl, Own.lit0 w5 _ (Nat.le_refl _), rfl, below_new w5 _⟩
  case round =>
    obtain ⟨j, l, c4, A4, xs, hj, hl, rfl, rfl, HO, HX, HB⟩ := hrel
    have hs := HB.out.size
    have hw3 : w3.heap.size ≤ w5.heap.size := HB5.out.size
    have HBW := hide (HB5.out.trans (HB.out.mono hw3))
    by_cases hlt : j < n3
    · obtain ⟨r, hr⟩ : ∃ r, rs[j]? = some r := ⟨_, List.getElem?_eq_getElem (by rw [(HZ.out.out w3 (Below.refl _ _)).1]; exact hlt)⟩
      have hR := HZ.out.out wr HBW.out
      obtain ⟨ad, p, rfl, hp, hpb, d0, d1, d2, d3, d4⟩ := hR.at_ hr
      obtain ⟨hi, hle, hcm, hnl⟩ := hR.words hr
      have hfr := fns_get hr
      have hsw := scan_word (k : Int) q.words 0 (Nat.zero_le _) j r.fn (by rw [← HFN.out]; exact hfr)
      rw [← HFN.out, ← HX.out] at hsw
      have hz' : r.zone = (k : Int) := hsw.1
      have hl' : xs.length = l := HO.out.1
      have ha' : r.word = (l : Int) := by have := hsw.2; rw [hl', Nat.zero_add] at this; exact this
      have HXN : Hid (putsF ((fns rs).take (j + 1)) = xs ++ putF r.kind r.seq r.vals) := by
        show _ = _
        rw [List.take_add_one, hfr, HX.out]
        show putsF (_ ++ [r.fn]) = _
        rw [putsF_snoc]
        rfl
      have hpl : (putsF ((fns rs).take (j + 1))).length ≤ 64 := by
        have h1 := putsF_len (k : Int) q.words
        rw [← HFN.out] at h1
        have h3 := putsF_take (fns rs) (j + 1)
        omega
      rw [HXN.out, List.length_append, hl'] at hpl
      have HFP := hide (implPut r.kind r.seq r.addr r.vals.length r.cap _ r.vals wr hi (by have := HZ.out.s3; omega) (by omega))
      have HXX := hide hl'
      clear hR hr hfr hsw hi hle hcm hnl hl'
      obtain ⟨rz, ra, rk, rq, rv, rad, rc⟩ := r
      simp only [Fq.sl] at d0 d1 d2 d3 d4 hz' ha' HFP HXN hpl
      subst hz'
      subst ha'
      have k0 : (0 : Int) ≤ (j : Int) := by omega
      have k1 : (j : Int) < (n3 : Int) := by omega
      generalize rv.length = rl at d4 HFP
      go_wp2_with fail
      refine HFP.out.mono ?_
      rintro e w6 ⟨A5, m5, c5, rfl, ho5, hb5⟩
      have HO5 := hide ho5
      have HB6 := hide (HB.out.trans (hb5.mono hs))
      have HO6 := hide (HO.out.below hb5)
      have hm5 : (putF rk rq rv).length = m5 := ho5.1
      rw [hm5] at hpl
      have hs6 := HB6.out.size
      have HL5 := hide hm5
      clear ho5 hb5 hm5
      go_wp2_with (at_builtin; refine wpList_append_ints rfl (.tmp 85) (.tmp 91) rfl w5.heap.size l c4 w6.heap.size m5 c5 A4 A5 xs (putF rk rq rv) rfl HO6.out rfl HO5.out.ints (by omega) hs6 ?_; intro A6 c6 w7 ho7 hg7 hat7; clear hat7)
      have HB7 := hide (below_app_bare HB6.out hs6 hg7 (fun q hq => (HO6.out.block q hq).1))
      have HO7 := hide ho7
      clear ho7 hg7
      go_roundw
      case rel => exact ⟨j + 1, l + m5, c6, A6, _, by omega, hpl, by go_num, rfl, HO7.out, HXN.out.symm, HB7.out⟩
      case measure => simp [intOf]; omega
    · obtain rfl : j = n3 := by omega
      have hR := HZ.out.zs wr HBW.out
      obtain ⟨ad, p, rfl, hp, hpb, d0, d1, d2⟩ := hR.at_ HQ.out
      obtain ⟨hi, hle, hcm⟩ := hR.words HQ.out
      have hxe : xs = q.words.take e0 := by
        have h := scan_puts (k : Int) q.words 0 (Nat.zero_le _)
        rw [← HFN.out, HEE.out] at h
        rw [HX.out, List.take_of_length_le (by rw [fns_length, (HZ.out.out w3 (Below.refl _ _)).1]; exact Nat.le_refl _)]
        simpa using h
      have hl2 : l = e0 := by rw [← HO.out.1, hxe, List.length_take]; omega
      subst hl2
      have hi2 := hi.firsts hel
      have HSI := hide (sameInts_yes A4 q.addr l c4 l q.cap _ _ xs _ wr HO.out.ints hi2 (by unfold maxLen; omega) (by unfold maxLen; omega) hxe)
      unfold maxLen at hcm
      clear hR hi hi2 d1 d2 HSZ HX
      unfold Zq.sl at d0
      have k0 : (0 : Int) ≤ (k : Int) := by omega
      have k1 : (k : Int) < ((4 : Nat) : Int) := by omega
      have hcc : (l : Int) ≤ (q.cap : Int) := by omega
      have HFIN := hide (HZ.out.fin wr HBW.out)
      go_wp2_with fail
      refine HSI.out.mono ?_
      rintro e w6 ⟨rfl, q6, rfl⟩
      go_wp2
      go_ret
      exact ⟨rfl, below_drewN HFIN.out q6⟩
end Go.Proofs.Ytcocboigjfjnfaa
