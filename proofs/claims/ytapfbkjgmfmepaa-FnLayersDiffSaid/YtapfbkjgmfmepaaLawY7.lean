/-
  The walk of FnLayersDiff.
-/
import Derived.Test.YtapfbkjgmfmepaaLawY0
import Derived.Test.YtapfbkjgmfmepaaImpL9
import Derived.Test.YtapfbkjgmfmepaaSpecY6
import Derived.Test.YtapfbkjgmfmepaaInts
namespace Go.Proofs.Ytapfbkjgmfmepaa
open Go.RowKit
set_option linter.unusedVariables false
set_option maxRecDepth 100000

/-- whether one of d layers from lo on has the block -/
def smN (ls : List Ly) (c : Int) (lo : Nat) : Nat → Bool
  | 0 => false
  | d + 1 => smN ls c lo d || hasL (ls.getD (lo + d) []) c
theorem smN_succ (ls : List Ly) (c : Int) (lo d : Nat) : smN ls c lo (d + 1) = (smN ls c lo d || hasL (ls.getD (lo + d) []) c) := rfl
theorem smN_of {ls : List Ly} {c : Int} {lo k : Nat} : ∀ {d : Nat}, lo ≤ k → k < lo + d → hasL (ls.getD k []) c = true → smN ls c lo d = true
  | 0, h1, h2, _ => by omega
  | d + 1, h1, h2, h => by
    rw [smN_succ]
    by_cases hk : k = lo + d
    · rw [← hk, h, Bool.or_true]
    · rw [smN_of h1 (by omega) h, Bool.true_or]
theorem smN_has {ls : List Ly} {c : Int} {x y lo hi : Nat} (h : readN ls c x ≠ readN ls c y) (hl : lo < hi) (e : lo = min x y ∧ hi = max x y) : smN ls c lo (hi - lo) = true := by
  obtain ⟨k, h1, h2, h3⟩ := diff_some h
  exact smN_of (k := k) (by omega) (by omega) (find_has h3)
theorem hasL_take_succ {p : Ly} {k : Nat} {e : Int × Int} (he : p[k]? = some e) (c : Int) : hasL (p.take (k + 1)) c = (hasL (p.take k) c || decide (e.1 = c)) := by
  rw [List.take_add_one, he]
  show hasL (p.take k ++ [e]) c = _
  generalize p.take k = s
  induction s with
  | nil => simp [hasL]
  | cons d r ih => simp only [List.cons_append, hasL, ih, Bool.or_assoc]
theorem dfL_symm (ls : List Ly) (a b : Int) : dfL ls b a = dfL ls a b := by
  unfold dfL dfV
  rw [diffN_symm, Bool.and_assoc, Bool.and_comm (inB b 0 _), ← Bool.and_assoc]
theorem dfL_same (ls : List Ly) (a : Int) : dfL ls a a = [] := by
  unfold dfL
  rw [diffN_same]
  simp
theorem dfL_len (ls : List Ly) (a b : Int) : (dfL ls a b).length ≤ 12 := by
  unfold dfL
  split
  · exact diffN_le ls _ _ 12
  · exact Nat.zero_le _
theorem dfL_mem {ls : List Ly} {a b c : Int} (h : c ∈ dfL ls a b) : ∃ x y : Nat, a = (x : Int) ∧ b = (y : Int) ∧ x ≤ ls.length ∧ y ≤ ls.length ∧ readN ls c x ≠ readN ls c y := by
  unfold dfL at h
  split at h
  · rename_i hv
    unfold dfV at hv
    rw [Bool.and_eq_true, Bool.and_eq_true, inB_iff, inB_iff] at hv
    obtain ⟨⟨_, ha⟩, hb⟩ := hv
    obtain ⟨k, _, rfl, h3⟩ := diffN_mem.1 h
    exact ⟨a.toNat, b.toNat, by omega, by omega, by omega, by omega, h3⟩
  · cases h

set_option maxHeartbeats 12800000 in
theorem layersDiff_walk (A : Option Addr) (n c : Nat) (bs : Nat → Int) (w : World) (hb : Bytes w w.heap.size A n bs) (hn : n ≤ c) (hc : c ≤ maxLen) :
    Calls Try.prog 9 #[.slice A n c] w fun e w' => e = .returned (.bool true) ∧ Below w.heap.size w w' := by
  by_cases hbig : 1048576 < n
  · go_enter Try.func9, Try.ntmps9
    go_wp2
    go_ret
    exact ⟨rfl, Below.refl _ _⟩
  · go_enter Try.func9, Try.ntmps9
    go_wp2_with fail
    refine (drawLyD_any A n c bs _ hb hn hc).mono ?_
    rintro e w1 ⟨A1, m, c1, qs, a, b, rfl, hd⟩
    have HD := hide hd
    have hm := hd.num
    have hl := hd.lyi.1
    have hs1 := hd.below.size
    have HP1 := hide (implDiff A1 m c1 _ qs a b w1 hd.lyi (Nat.le_refl _) (big_qs hd.len) (by omega))
    have HP2 := hide fun (W : World) (h : Below w1.heap.size w1 W) => specDiff A1 m c1 _ qs a b W (hd.lyi.below h (Nat.le_refl _)) h.size (big_qs hd.len) (by omega)
    have HP3 := hide fun (W : World) (h : Below w1.heap.size w1 W) => implDiff A1 m c1 _ qs b a W (hd.lyi.below h (Nat.le_refl _)) h.size (big_qs hd.len) (by omega)
    have HP4 := hide fun (W : World) (h : Below w1.heap.size w1 W) => implDiff A1 m c1 _ qs a a W (hd.lyi.below h (Nat.le_refl _)) h.size (big_qs hd.len) (by omega)
    rw [dfL_symm] at HP3
    rw [dfL_same] at HP4
    clear hb hd
    have HLEN := hide (dfL_len (lys qs) a b)
    have HMEM := hide fun (x : Int) (h : x ∈ dfL (lys qs) a b) => dfL_mem h
    generalize dfL (lys qs) a b = D at HP1 HP2 HP3 HLEN HMEM
    go_wp2_with fail
    refine HP1.out.mono ?_
    rintro e w2 ⟨A2, m2, c2, rfl, ho2, hB2⟩
    have HO2 := hide ho2
    have HW2 := hide hB2
    have hm12 : m2 ≤ 12 := by have := ho2.1; have := HLEN.out; omega
    have HM2 := hide ho2.1
    clear ho2 hB2 HP1
    go_wp2_with fail
    refine (HP2.out _ HW2.out).mono ?_
    rintro e w3 ⟨A3, m3, c3, rfl, ho3, hB3⟩
    have HW3 := hide (HW2.out.trans (hB3.mono HW2.out.size))
    have hm3 : m3 = m2 := by rw [← ho3.1, HM2.out]
    subst hm3
    have HX3 := hide (HO2.out.ints.below hB3 (Nat.le_refl _))
    have HSAME := hide (sameInts_yes A2 A3 m3 c2 m3 c3 _ _ D D w3 HX3.out ho3.ints (by unfold maxLen; omega) (by unfold maxLen; omega) rfl)
    have hs23 := hB3.size
    clear ho3 hB3 HP2
    go_wp2_with fail
    refine HSAME.out.mono ?_
    rintro e w4 ⟨rfl, z4, rfl⟩
    have HW4 := hide (below_drewN HW3.out z4)
    have HX4 := hide (HX3.out.drewN z4)
    have HI4 := hide (HD.out.lyi.below HW4.out (Nat.le_refl _))
    have hs4 := HW4.out.size
    have hs24 : w2.heap.size ≤ (w3.drewN z4).heap.size := hs23
    clear HSAME HW3
    generalize w3.drewN z4 = w4 at HW4 HX4 HI4 hs4 hs24 ⊢
    go_wp2
    go_loopw [8, 9, 10, 11] (fun i _ _ _ wr => ∃ i9 : Nat, i9 ≤ m3 ∧ i = .int .i64 i9 ∧ Hid (Below w4.heap.size w4 wr)) (fun i _ _ _ _ => m3 - (intOf i).toNat)
    case atStart => exact ⟨0, by omega, rfl, Below.refl _ _⟩
    case round =>
      obtain ⟨i, hi, rfl, HB⟩ := hrel
      by_cases hlt : i < m3
      · obtain ⟨ao, rfl, hbo, hout0⟩ := (HX4.out.below HB.out hs24).at_ hlt
        obtain ⟨cc, hcc⟩ : ∃ cc, D.getD i 0 = cc := ⟨_, rfl⟩
        rw [hcc] at hout0
        have hmem : cc ∈ D := by
          rw [← hcc]
          have hli : i < D.length := by rw [HM2.out]; exact hlt
          simp [List.getD, hli]
        obtain ⟨x, y, rfl, rfl, hx, hy, hne⟩ := HMEM.out cc hmem
        rw [lys_length, hl] at hx hy
        have HRC := hide hne
        have hxy : x ≠ y := fun e => hne (by rw [e])
        have HX5 := hide (HI4.out.below HB.out hs4)
        have HB5 := HB
        clear hmem hne hcc
        have hout : wr.cell? (ao.add i) = some (.int .i64 cc) := hout0
        clear hout0
        generalize wr = w5 at *
        rcases Nat.lt_or_gt_of_ne hxy with hlt9 | hlt9
        · have HSOME := hide (smN_has HRC.out (show x < y by omega) (by omega))
          have hlh : ((x : Nat) : Int) < ((y : Nat) : Int) := by omega
          go_wp2_with fail
          go_loopw [9, 10, 11] (fun s k _ wr => ∃ (d z : Nat), x + d ≤ y ∧ k = .int .i64 ((x + d : Nat) : Int) ∧ s = .bool (smN (lys qs) cc x d) ∧ wr = w5.drewN z) (fun _ k _ _ => y - (intOf k).toNat)
          case atStart => exact ⟨0, 0, by omega, by go_num, rfl, rfl⟩
          case round =>
            obtain ⟨d, z, hd, rfl, rfl, rfl⟩ := hrel
            obtain ⟨k, hk⟩ : ∃ k, x + d = k := ⟨_, rfl⟩
            have HSM := hide (smN_succ (lys qs) cc x d)
            rw [hk] at HSM hd ⊢
            by_cases hlt2 : k < y
            · have HK := hide hk
              obtain ⟨q, hq⟩ : ∃ q, qs[k]? = some q := ⟨_, List.getElem?_eq_getElem (by omega)⟩
              obtain ⟨ad, rfl, hb0, hc0⟩ := (HX5.out.drewN z).at_ hq
              have HPI := hide ((HX5.out.drewN z).layer hq).1
              rw [lys_getD hq] at HSM
              unfold Lq.sl at hc0
              have hN12 := HD.out.len q (List.mem_of_getElem? hq)
              clear hq hk
              obtain ⟨qp, qa, qc⟩ := q
              simp only at hc0 HPI HSM hN12
              obtain ⟨N, hN⟩ : ∃ N, qp.length = N := ⟨_, rfl⟩
              rw [hN] at hc0 HPI hN12
              have HN := hide hN
              clear hN
              generalize smN (lys qs) cc x d = s0 at HSM ⊢
              have k0 : (0 : Int) ≤ (k : Int) := by omega
              have k1 : (k : Int) < (m : Int) := by omega
              have hout5 : (w5.drewN z).cell? (ao.add i) = some (.int .i64 cc) := hout
              generalize hw : w5.drewN z = wz at hc0 HPI hout5 ⊢
              have HW := hide hw
              clear hw
              go_wp2_with fail
              go_loopw [9, 11] (fun s j wr => ∃ (i2 z2 : Nat), i2 ≤ N ∧ j = .int .i64 i2 ∧ s = .bool (s0 || hasL (qp.take i2) cc) ∧ wr = wz.drewN z2) (fun _ j _ => N - (intOf j).toNat)
              case atStart => exact ⟨0, 0, Nat.zero_le _, rfl, by simp [hasL], rfl⟩
              case round =>
                obtain ⟨i2, z2, hi2, rfl, rfl, rfl⟩ := hrel
                have hc9 : (wz.drewN z2).cell? (ad.add k) = some (.slice qa N qc) := hc0
                by_cases hlt3 : i2 < N
                · obtain ⟨e, he⟩ : ∃ e, qp[i2]? = some e := ⟨_, List.getElem?_eq_getElem (by rw [HN.out]; exact hlt3)⟩
                  obtain ⟨ad2, p2, rfl, hp2, hb2, hd0, hd1⟩ := (HPI.out.drewN z2).at_ he
                  have HTK := hide (hasL_take_succ he cc)
                  obtain ⟨f, y9⟩ := e
                  simp only at hd0 hd1 HTK
                  have j0 : (0 : Int) ≤ (i2 : Int) := by omega
                  have j1 : (i2 : Int) < (N : Int) := by omega
                  have hout9 : (wz.drewN z2).cell? (ao.add i) = some (.int .i64 cc) := hout5
                  clear he
                  obtain ⟨s1, hs1⟩ : ∃ s1, (s0 || hasL (qp.take i2) cc) = s1 := ⟨_, rfl⟩
                  have HS2 := hide (show (s0 || hasL (qp.take (i2 + 1)) cc) = (s1 || decide (f = cc)) by rw [HTK.out, ← hs1, Bool.or_assoc])
                  rw [hs1]
                  clear hs1 HTK
                  generalize hw2 : wz.drewN z2 = wy at hc9 hd0 hd1 hout9 ⊢
                  rcases s1 with _ | _
                  · by_cases hf : f = cc
                    · have hf' : (f == cc) = true := by simpa using hf
                      rw [decide_eq_true hf] at HS2
                      clear hf
                      go_wp2_with fail
                      go_quiet (fail)
                      go_wp2
                      go_roundw
                      case rel => exact ⟨i2 + 1, _, by omega, by go_num, by rw [HS2.out]; rfl, by rw [← hw2]; first | exact World.drewN_drewN _ _ _ | rfl⟩
                      case measure => simp [intOf]; omega
                    · have hf' : (f == cc) = false := by simpa using hf
                      rw [decide_eq_false hf] at HS2
                      clear hf
                      go_wp2_with fail
                      go_quiet (fail)
                      go_wp2
                      go_roundw
                      case rel => exact ⟨i2 + 1, _, by omega, by go_num, by rw [HS2.out]; rfl, by rw [← hw2]; first | exact World.drewN_drewN _ _ _ | rfl⟩
                      case measure => simp [intOf]; omega
                  · rw [Bool.true_or] at HS2
                    go_wp2_with fail
                    go_quiet (fail)
                    go_wp2
                    go_roundw
                    case rel => exact ⟨i2 + 1, _, by omega, by go_num, by rw [HS2.out], by rw [← hw2]; first | exact World.drewN_drewN _ _ _ | rfl⟩
                    case measure => simp [intOf]; omega
                · obtain rfl : i2 = N := by omega
                  have HS3 := hide (show (s0 || hasL (qp.take i2) cc) = smN (lys qs) cc x (d + 1) by rw [HSM.out, List.take_of_length_le (by rw [HN.out]; exact Nat.le_refl _)])
                  go_wp2
                  go_roundw
                  case rel => exact ⟨d + 1, z + z2, by have := HK.out; omega, by have := HK.out; go_num, by rw [HS3.out], by rw [← HW.out, World.drewN_drewN]⟩
                  case measure => simp [intOf]; omega
            · have hdl : d = y - x := by omega
              have HFIN := hide (show smN (lys qs) cc x d = true by rw [hdl]; exact HSOME.out)
              rw [HFIN.out]
              clear hdl hk
              go_wp2
              go_roundw
              case rel => exact ⟨i + 1, by omega, by go_num, below_drewN HB5.out z⟩
              case measure => simp [intOf]; omega
        · have HSOME := hide (smN_has HRC.out (show y < x by omega) (by omega))
          have hlh : ((y : Nat) : Int) < ((x : Nat) : Int) := by omega
          go_wp2_with fail
          go_loopw [9, 10, 11] (fun s k _ wr => ∃ (d z : Nat), y + d ≤ x ∧ k = .int .i64 ((y + d : Nat) : Int) ∧ s = .bool (smN (lys qs) cc y d) ∧ wr = w5.drewN z) (fun _ k _ _ => x - (intOf k).toNat)
          case atStart => exact ⟨0, 0, by omega, by go_num, rfl, rfl⟩
          case round =>
            obtain ⟨d, z, hd, rfl, rfl, rfl⟩ := hrel
            obtain ⟨k, hk⟩ : ∃ k, y + d = k := ⟨_, rfl⟩
            have HSM := hide (smN_succ (lys qs) cc y d)
            rw [hk] at HSM hd ⊢
            by_cases hlt2 : k < x
            · have HK := hide hk
              obtain ⟨q, hq⟩ : ∃ q, qs[k]? = some q := ⟨_, List.getElem?_eq_getElem (by omega)⟩
              obtain ⟨ad, rfl, hb0, hc0⟩ := (HX5.out.drewN z).at_ hq
              have HPI := hide ((HX5.out.drewN z).layer hq).1
              rw [lys_getD hq] at HSM
              unfold Lq.sl at hc0
              have hN12 := HD.out.len q (List.mem_of_getElem? hq)
              clear hq hk
              obtain ⟨qp, qa, qc⟩ := q
              simp only at hc0 HPI HSM hN12
              obtain ⟨N, hN⟩ : ∃ N, qp.length = N := ⟨_, rfl⟩
              rw [hN] at hc0 HPI hN12
              have HN := hide hN
              clear hN
              generalize smN (lys qs) cc y d = s0 at HSM ⊢
              have k0 : (0 : Int) ≤ (k : Int) := by omega
              have k1 : (k : Int) < (m : Int) := by omega
              have hout5 : (w5.drewN z).cell? (ao.add i) = some (.int .i64 cc) := hout
              generalize hw : w5.drewN z = wz at hc0 HPI hout5 ⊢
              have HW := hide hw
              clear hw
              go_wp2_with fail
              go_loopw [9, 11] (fun s j wr => ∃ (i2 z2 : Nat), i2 ≤ N ∧ j = .int .i64 i2 ∧ s = .bool (s0 || hasL (qp.take i2) cc) ∧ wr = wz.drewN z2) (fun _ j _ => N - (intOf j).toNat)
              case atStart => exact ⟨0, 0, Nat.zero_le _, rfl, by simp [hasL], rfl⟩
              case round =>
                obtain ⟨i2, z2, hi2, rfl, rfl, rfl⟩ := hrel
                have hc9 : (wz.drewN z2).cell? (ad.add k) = some (.slice qa N qc) := hc0
                by_cases hlt3 : i2 < N
                · obtain ⟨e, he⟩ : ∃ e, qp[i2]? = some e := ⟨_, List.getElem?_eq_getElem (by rw [HN.out]; exact hlt3)⟩
                  obtain ⟨ad2, p2, rfl, hp2, hb2, hd0, hd1⟩ := (HPI.out.drewN z2).at_ he
                  have HTK := hide (hasL_take_succ he cc)
                  obtain ⟨f, y9⟩ := e
                  simp only at hd0 hd1 HTK
                  have j0 : (0 : Int) ≤ (i2 : Int) := by omega
                  have j1 : (i2 : Int) < (N : Int) := by omega
                  have hout9 : (wz.drewN z2).cell? (ao.add i) = some (.int .i64 cc) := hout5
                  clear he
                  obtain ⟨s1, hs1⟩ : ∃ s1, (s0 || hasL (qp.take i2) cc) = s1 := ⟨_, rfl⟩
                  have HS2 := hide (show (s0 || hasL (qp.take (i2 + 1)) cc) = (s1 || decide (f = cc)) by rw [HTK.out, ← hs1, Bool.or_assoc])
                  rw [hs1]
                  clear hs1 HTK
                  generalize hw2 : wz.drewN z2 = wy at hc9 hd0 hd1 hout9 ⊢
                  rcases s1 with _ | _
                  · by_cases hf : f = cc
                    · have hf' : (f == cc) = true := by simpa using hf
                      rw [decide_eq_true hf] at HS2
                      clear hf
                      go_wp2_with fail
                      go_quiet (fail)
                      go_wp2
                      go_roundw
                      case rel => exact ⟨i2 + 1, _, by omega, by go_num, by rw [HS2.out]; rfl, by rw [← hw2]; first | exact World.drewN_drewN _ _ _ | rfl⟩
                      case measure => simp [intOf]; omega
                    · have hf' : (f == cc) = false := by simpa using hf
                      rw [decide_eq_false hf] at HS2
                      clear hf
                      go_wp2_with fail
                      go_quiet (fail)
                      go_wp2
                      go_roundw
                      case rel => exact ⟨i2 + 1, _, by omega, by go_num, by rw [HS2.out]; rfl, by rw [← hw2]; first | exact World.drewN_drewN _ _ _ | rfl⟩
                      case measure => simp [intOf]; omega
                  · rw [Bool.true_or] at HS2
                    go_wp2_with fail
                    go_quiet (fail)
                    go_wp2
                    go_roundw
                    case rel => exact ⟨i2 + 1, _, by omega, by go_num, by rw [HS2.out], by rw [← hw2]; first | exact World.drewN_drewN _ _ _ | rfl⟩
                    case measure => simp [intOf]; omega
                · obtain rfl : i2 = N := by omega
                  have HS3 := hide (show (s0 || hasL (qp.take i2) cc) = smN (lys qs) cc y (d + 1) by rw [HSM.out, List.take_of_length_le (by rw [HN.out]; exact Nat.le_refl _)])
                  go_wp2
                  go_roundw
                  case rel => exact ⟨d + 1, z + z2, by have := HK.out; omega, by have := HK.out; go_num, by rw [HS3.out], by rw [← HW.out, World.drewN_drewN]⟩
                  case measure => simp [intOf]; omega
            · have hdl : d = x - y := by omega
              have HFIN := hide (show smN (lys qs) cc y d = true by rw [hdl]; exact HSOME.out)
              rw [HFIN.out]
              clear hdl hk
              go_wp2
              go_roundw
              case rel => exact ⟨i + 1, by omega, by go_num, below_drewN HB5.out z⟩
              case measure => simp [intOf]; omega
      · obtain rfl : i = m3 := by omega
        go_wp2_with fail
        refine (HP3.out _ (HW4.out.trans (HB.out.mono hs4))).mono ?_
        rintro e u1 ⟨A7, m7, c7, rfl, ho7, hu1⟩
        have HU1 := hide ((HW4.out.trans (HB.out.mono hs4)).trans (hu1.mono (Nat.le_trans hs4 HB.out.size)))
        have hm7 : m7 = i := by rw [← ho7.1, HM2.out]
        subst hm7
        have HSAME := hide (sameInts_yes A7 A2 m7 c7 m7 c2 _ _ D D u1 ho7.ints ((HX4.out.below HB.out hs24).below hu1 (Nat.le_trans hs24 HB.out.size)) (by unfold maxLen; omega) (by unfold maxLen; omega) rfl)
        clear ho7 hu1
        go_wp2_with fail
        refine HSAME.out.mono ?_
        rintro e u2 ⟨rfl, z5, rfl⟩
        have HU2 := hide (below_drewN HU1.out z5)
        go_wp2_with fail
        refine (HP4.out _ HU2.out).mono ?_
        rintro e u3 ⟨A8, m8, c8, rfl, ho8, hu3⟩
        have HU3 := hide (HD.out.below.trans ((HU2.out.trans (hu3.mono HU2.out.size)).mono hs1))
        obtain rfl : m8 = 0 := by have := ho8.1; simpa using this.symm
        clear ho8 hu3
        go_wp2
        go_ret
        exact ⟨rfl, HU3.out⟩
end Go.Proofs.Ytapfbkjgmfmepaa
