/-
  The walk of FnModelWrite.
-/
import Derived.Test.YtiopbgenkalfaaaLawR0
namespace Go.Proofs.Ytiopbgenkalfaaa
open Go.RowKit
set_option linter.unusedVariables false
set_option maxRecDepth 100000

/-- the values on the way -/
def wayV (v : Bool) (xs ps : List Int) (k : Nat) : List Int := if v = true then putP xs ps k else xs
theorem wayV_zero (v : Bool) (xs ps : List Int) : wayV v xs ps 0 = xs := by unfold wayV; split <;> rfl
theorem wayV_end {xs ps : List Int} {kd : Int} {dn : Bool} {k pn : Nat} (h0 : k = 0 ∨ (kd = 1 ∧ dn = true)) (h1 : kd = 1 ∧ dn = true → k = pn) (hl : xs.length = 12) : wayV (validP ps pn) xs ps k = nextV xs kd pn ps dn := by
  by_cases ha : kd = 1 ∧ dn = true
  · obtain ⟨rfl, rfl⟩ := ha
    rw [h1 ⟨rfl, rfl⟩]
    unfold nextV wayV
    rw [wrB_eq hl]
  · rcases h0 with rfl | h0
    · rw [wayV_zero]
      unfold nextV
      rw [if_neg]
      intro hw
      unfold wrB at hw
      simp only [Bool.and_eq_true, decide_eq_true_eq] at hw
      exact ha ⟨hw.1.1.1, hw.1.1.2⟩
    · exact absurd h0 ha
set_option maxHeartbeats 12800000 in
theorem modelWrite_walk (A : Option Addr) (n c : Nat) (bs : Nat → Int) (w : World) (hb : Bytes w w.heap.size A n bs) (hn : n ≤ c) (hc : c ≤ maxLen) :
    Calls Try.prog 5 #[.slice A n c] w fun e w' => e = .returned (.bool true) ∧ Below w.heap.size w w' := by
  by_cases hbig : 1048576 < n
  · have hd : decide (1048576 < n) = true := by simpa using hbig
    go_enter Try.func5, Try.ntmps5
    go_wp2
    go_ret
    exact ⟨rfl, Below.refl _ _⟩
  have hd : decide (1048576 < n) = false := by simpa using hbig
  go_enter Try.func5, Try.ntmps5
  go_wp2_with fail
  refine (drawDo_any A n c bs _ hb hn hc).mono ?_
  rintro e w1 ⟨q, kd, PA, LA, A3, pn, pc, ln, lc, n3, c3, ps, ls, af, dn, rfl, hm, hqn, hqm, hp, hpn, ha, hn3, hn3c, hc3, hA3, hb1⟩
  obtain ⟨W1, hW1⟩ : ∃ W1, (w1.alloc (.cells #[.slice q.A q.n q.c, .slice q.P q.m q.d] 27)).alloc (.cells #[.int .i64 kd, .slice PA pn pc, .slice LA ln lc] 35) = W1 := ⟨_, rfl⟩
  have HK1 : Hid (Kp w1 W1 [(w1.heap.size + 1, 35, #[.int .i64 kd, .slice PA pn pc, .slice LA ln lc]), (w1.heap.size, 27, #[.slice q.A q.n q.c, .slice q.P q.m q.d])]) := by
    rw [← hW1]
    exact ((Kp.refl w1).push _ _).pushN _ (by simp) _ _
  have HM1 := hide (hm.below HK1.out.below (Nat.le_refl _))
  have HP1 := hide (hp.below HK1.out.below (Nat.le_refl _))
  have HA1 := hide (ha.below HK1.out.below (Nat.le_refl _))
  have HB1 := hide (hb1.trans (HK1.out.below.mono hb1.size))
  have hs1 := HK1.out.below.size
  clear hm hp ha hb1 hb
  go_upto_region 4 with (fail)
  clear hW1
  obtain ⟨⟨z0, z1, z2⟩, _, _, _⟩ := HK1.out.cells3
  obtain ⟨⟨y0, y1⟩, _, _⟩ := HK1.out.tl.cells2
  go_wp2_with fail
  refine (implDo q w1.heap.size W1 PA LA A3 pn pc ln lc n3 c3 ps af kd dn HM1.out hs1 HP1.out HA1.out hA3 (by omega) (by omega)).mono ?_
  rintro e w2 ⟨q1, rfl, hm1, hx1, hq1, hb2⟩
  have HQ1 := hide (And.intro hx1 hq1)
  obtain ⟨W2, hW2⟩ : ∃ W2, w2.alloc (.cells #[.slice q1.A q1.n q1.c, .slice q1.P q1.m q1.d] 27) = W2 := ⟨_, rfl⟩
  have hs2 := hb2.size
  have HK2 := hide (show Kp w1 W2 [(w2.heap.size, 27, #[.slice q1.A q1.n q1.c, .slice q1.P q1.m q1.d]), (w1.heap.size + 1, 35, #[.int .i64 kd, .slice PA pn pc, .slice LA ln lc]), (w1.heap.size, 27, #[.slice q.A q.n q.c, .slice q.P q.m q.d])] from by
    rw [← hW2]
    exact (HK1.out.step hb2).push _ _)
  have HM2 := hide (show MdI W2 w2.heap.size q1 from by rw [← hW2]; exact hm1.mdi.alloc (Nat.le_refl _) _)
  have HB2 := hide (show Below W1.heap.size W1 W2 from by rw [← hW2]; exact hb2.alloc hs2 _)
  have hs22 : w2.heap.size ≤ W2.heap.size := by rw [← hW2]; simp
  clear hm1 hx1 hq1 hb2 HK1 z0 z1 z2 y0 y1
  unfold Mq.val
  go_upto_region 5 with (fail)
  clear hW2
  generalize w2.heap.size = g7 at HK2 HM2 hs2 hs22 ⊢
  obtain ⟨⟨z0, z1, z2⟩, _, _, _⟩ := HK2.out.tl.cells3
  obtain ⟨⟨y0, y1⟩, _, _⟩ := HK2.out.tl.tl.cells2
  go_wp2_with fail
  refine (specDo q w1.heap.size W2 PA LA A3 pn pc ln lc n3 c3 ps af kd dn (HM1.out.below HB2.out hs1) (by omega) (HP1.out.below HB2.out hs1) (HA1.out.below HB2.out hs1) (by omega) (by omega) (by omega)).mono ?_
  rintro e w3 ⟨q2, rfl, hm2, hx2, hq2, hb3⟩
  have HQ2 := hide (And.intro hx2 hq2)
  have hs3 := hb3.size
  have HB3 := hide (show Below w.heap.size w (w3.alloc (.cells #[.slice q2.A q2.n q2.c, .slice q2.P q2.m q2.d] 27)) from
    (HB1.out.trans ((HB2.out.trans (hb3.mono (by omega))).mono HB1.out.size)).alloc (by have := HB1.out.size; omega) _)
  have HL := hide (show LD w (w3.alloc (.cells #[.slice q2.A q2.n q2.c, .slice q2.P q2.m q2.d] 27)) w3.heap.size w1.heap.size (w1.heap.size + 1) g7 w3.heap.size q kd PA LA pn pc ln lc ps A3 n3 af q1 q2 from
    have h23 : Below W1.heap.size W1 w3 := HB2.out.trans (hb3.mono (by omega))
    have hk3 := (HK2.out.step hb3).alloc (.cells #[.slice q2.A q2.n q2.c, .slice q2.P q2.m q2.d] 27)
    { m := ((HM1.out.below h23 hs1).more (by omega)).alloc (Nat.le_refl _) _, p := ((HP1.out.below h23 hs1).more (by omega)).alloc (Nat.le_refl _) _, a := ((HA1.out.below h23 hs1).more (by omega)).alloc (Nat.le_refl _) _,
      m1 := ((HM2.out.below hb3 hs22).more (by omega)).alloc (Nat.le_refl _) _, m2 := hm2.mdi.alloc (Nat.le_refl _) _,
      k3 := hk3.tl.tl.hd, k4 := hk3.tl.hd, k7 := hk3.hd, k9 := Blk.new w3 _ _, below := HB3.out, hB := by simp })
  clear hm2 hx2 hq2 hb3 HB3 HM1 HP1 HA1 HB1 HM2 HB2 HK2 z0 z1 z2 y0 y1
  unfold Mq.val
  go_upto_region 6 with (fail)
  generalize w3.alloc (.cells #[.slice q2.A q2.n q2.c, .slice q2.P q2.m q2.d] 27) = W3 at HL ⊢
  generalize w3.heap.size = g9 at HL ⊢
  generalize hg34 : w1.heap.size + 1 = g4 at HL ⊢
  clear hg34 hs1 hs2 hs22 hs3
  generalize w1.heap.size = g3 at HL ⊢
  have HSM := hide fun (W : World) (h : LD w W g9 g3 g4 g7 g9 q kd PA LA pn pc ln lc ps A3 n3 af q1 q2) => sameMod_yes q1 q2 g9 g9 W h.m1 h.m2 h.hB h.hB (HQ1.out.1.trans HQ2.out.1.symm) (HQ1.out.2.trans HQ2.out.2.symm)
  obtain ⟨r, hr⟩ : ∃ r, doV q.xs (vsN q.qs) kd pn ps dn af = r := ⟨_, rfl⟩
  rw [hr] at HQ1 HQ2 ⊢
  have HRR := hide hr
  clear hr
  obtain ⟨x0, x1⟩ := HL.out.cells7
  obtain ⟨x2, x3⟩ := HL.out.cells9
  obtain ⟨e0, e1, e2⟩ := HL.out.cells4
  obtain ⟨m0, m1⟩ := HL.out.cells3
  rcases r with _ | r
  · simp only [Option.isSome_none]
    go_wp2_with fail
    refine (HSM.out W3 HL.out).mono ?_
    rintro e w4 ⟨rfl, hb4⟩
    have HL4 := hide (HL.out.step hb4)
    clear hb4 HL x0 x1 x2 x3 e0 e1 e2 m0 m1
    obtain ⟨x0, x1⟩ := HL4.out.cells7
    obtain ⟨x2, x3⟩ := HL4.out.cells9
    obtain ⟨e0, e1, e2⟩ := HL4.out.cells4
    go_wp2_with fail
    refine (HSM.out w4 HL4.out).mono ?_
    rintro e w5 ⟨rfl, hb5⟩
    have HB5 := hide (HL4.out.step hb5).below
    clear hb5
    go_wp2
    go_ret
    exact ⟨rfl, HB5.out⟩
  simp only [Option.isSome_some]
  by_cases hkd : kd = 10
  · have hkd' : (kd == 10) = true := by simpa using hkd
    clear hkd
    go_wp2_with fail
    refine (HSM.out W3 HL.out).mono ?_
    rintro e w4 ⟨rfl, hb4⟩
    have HL4 := hide (HL.out.step hb4)
    clear hb4 HL x0 x1 x2 x3 e0 e1 e2 m0 m1
    obtain ⟨x0, x1⟩ := HL4.out.cells7
    obtain ⟨x2, x3⟩ := HL4.out.cells9
    obtain ⟨e0, e1, e2⟩ := HL4.out.cells4
    go_wp2_with fail
    refine (HSM.out w4 HL4.out).mono ?_
    rintro e w5 ⟨rfl, hb5⟩
    have HB5 := hide (HL4.out.step hb5).below
    clear hb5
    go_wp2
    go_ret
    exact ⟨rfl, HB5.out⟩
  have hkd' : (kd == 10) = false := by simpa using hkd
  have hs := doV_some HRR.out
  have hok : (modV q.xs (vsN q.qs) && nowV af) = true := by rw [hs.2.2.2, hs.2.1]; rfl
  have hc : ¬ (kd = 10 ∧ dn = true) := fun h => hkd h.1
  have hd := HRR.out
  rw [doV_else hok hc] at hd
  have hnx : nextV q.xs kd pn ps dn = af := by
    split at hd
    · cases hd
    · rename_i h2
      exact Decidable.of_not_not h2
  have hn12 : q.xs.length = 12 := nowV_len (modV_parts hs.2.2.2).2.1
  have HNX := hide (And.intro hnx hn12)
  have hqn12 : q.n ≤ 12 := hqn
  clear hd hnx hn12 hok hs hc hkd
  go_wp2_with fail
  refine (HSM.out W3 HL.out).mono ?_
  rintro e w4 ⟨rfl, hb4⟩
  have HL4 := hide (HL.out.step hb4)
  clear hb4 HL x0 x1 x2 x3 e0 e1 e2 m0 m1 HSM
  obtain ⟨x0, x1⟩ := HL4.out.cells7
  obtain ⟨e0, e1, e2⟩ := HL4.out.cells4
  obtain ⟨m0, m1⟩ := HL4.out.cells3
  have hn0 := (HL4.out.step (W' := w4.alloc (.cells #[] 3)) (below_new w4 _)).cells3.1
  have HNI := hide (HL4.out.m.now.alloc HL4.out.hB (.cells #[] 3))
  have hL4 := HL4.out.hB
  go_wp2_with (at_builtin; refine wpList_append_ints rfl _ _ rfl w4.heap.size 0 0 g9 q.n q.c _ _ [] q.xs rfl (Own.lit0 w4 _ (Nat.le_refl _)) rfl HNI.out (by omega) (by simp) ?_; intro A5 c5 w5 ho5 hg5 hat5; clear hat5; simp only [Nat.zero_add, List.nil_append] at ho5 ⊢; have hb5 := below_app0 (Below.refl w4.heap.size w4) (Nat.le_refl _) hg5; have HO5 := hide ho5; have HB5 := hide hb5; clear ho5 hg5 hb5 HNI hn0 x0 x1 e0 e1 e2 m0 m1)
  obtain ⟨go, rfl, hgo0, hgo1⟩ := HO5.out.shape (by have h1 := HNX.out.2; have h2 := HL4.out.m.now.1; omega)
  go_loopw [12] (fun i wr => ∃ (k : Nat), k ≤ pn ∧ i = .int .i64 k ∧ Hid (Own wr w4.heap.size (some ⟨go, 0, none⟩) q.n c5 (wayV (validP ps pn) q.xs ps k)) ∧ Hid (Below w4.heap.size w4 wr) ∧ Hid (k = 0 ∨ (kd = 1 ∧ dn = true))) (fun i _ => pn - (intOf i).toNat)
  case atStart => exact ⟨0, Nat.zero_le _, rfl, by rw [wayV_zero]; exact HO5.out, HB5, .inl rfl⟩
  case round =>
    clear HO5 HB5
    obtain ⟨k, hk, rfl, HO, HBR, HA⟩ := hrel
    obtain ⟨e0, e1, e2⟩ := (HL4.out.step HBR.out).cells4
    by_cases hlt : k < pn
    · by_cases hk1 : kd = 1
      · have hk1' : (kd == 1) = true := by simpa using hk1
        rcases dn with _ | _
        · have HE := hide ((wayV_end (ps := ps) (pn := pn) HA.out (fun h => by cases h.2) HNX.out.2).trans HNX.out.1)
          clear hk1
          go_wp2_with fail
          refine (sameInts_yes (some ⟨go, 0, none⟩) A3 q.n c5 n3 c3 wr.heap.size g9 _ af wr HO.out.ints (HL4.out.step HBR.out).a (by unfold maxLen; omega) (by unfold maxLen; omega) HE.out).mono ?_
          rintro e w7 ⟨rfl, z, rfl⟩
          go_wp2
          go_ret
          exact ⟨rfl, below_drewN (HL4.out.step HBR.out).below z⟩
        · have HACT := hide hk1
          have HPI := hide (HL4.out.step HBR.out).p
          have hs4 : g9 ≤ wr.heap.size := (HL4.out.step HBR.out).hB
          have HPV := hide (implPutP PA pn pc g9 ps wr HPI.out hs4 (by omega))
          clear hk1
          go_wp2_with fail
          refine HPV.out.mono ?_
          rintro e w6 ⟨A6, m6, c6, rfl, ho6, hb6⟩
          have hs6 := hb6.size
          have HO6 := hide (HO.out.below hb6)
          have hs46 : w4.heap.size ≤ wr.heap.size := HBR.out.size
          have HB6 := hide (HBR.out.trans (hb6.mono hs46))
          clear ho6 hb6 HPV HPI e0 e1 e2 HO HBR
          obtain ⟨e0, e1, e2⟩ := (HL4.out.step HB6.out).cells4
          rcases hv : validP ps pn with _ | _
          · rw [hv] at HO6
            have HO7 := hide (show Own w6 w4.heap.size (some ⟨go, 0, none⟩) q.n c5 (wayV (validP ps pn) q.xs ps (k + 1)) from by rw [hv]; exact HO6.out)
            clear hv
            go_wp2
            go_roundw
            case rel => exact ⟨k + 1, by omega, by go_num, HO7, HB6, .inr ⟨HACT.out, by first | rfl | trivial⟩⟩
            case measure => simp [intOf]; omega
          · have hpa := pair_at hv hlt
            rw [hv] at HO6
            have HWV := hide hv
            clear hv
            obtain ⟨ad, pp, hP, hp, hpb, hc0, hc1⟩ := ints_at2 (HL4.out.step HB6.out).p hlt
            rw [hP] at e1
            clear hP
            obtain ⟨x, hx⟩ : ∃ x, ps.getD (k * 2) 0 = x := ⟨_, rfl⟩
            obtain ⟨y, hy⟩ : ∃ y, ps.getD (k * 2 + 1) 0 = y := ⟨_, rfl⟩
            rw [hx] at hc0 hpa
            rw [hy] at hc1 hpa
            obtain ⟨J, rfl⟩ := Int.eq_ofNat_of_zero_le hpa.1
            have hJ : J < q.n := by have h1 := HNX.out.2; have h2 := HL4.out.m.now.1; omega
            have hcell := HO6.out.cell (g := go) (j := J) hJ
            have hfree := HO6.out.free (g := go) (j := J)
            have hst := HO6.out.stored (g := go) (j := J) y
            have hset : (wayV true q.xs ps k).set J y = wayV (validP ps pn) q.xs ps (k + 1) := by
              rw [HWV.out]
              show (putP q.xs ps k).set J y = putP q.xs ps (k + 1)
              rw [putP, hx, hy]
              rfl
            rw [hset] at hst
            generalize (wayV true q.xs ps k).getD J 0 = yy at hcell
            have HO7 := hide (show Own (w6.setCell ⟨go, J, none⟩ (.int .i64 y)).drew w4.heap.size (some ⟨go, 0, none⟩) q.n c5 (wayV (validP ps pn) q.xs ps (k + 1)) from hst.1.drewN 1)
            have HB7 : Hid (Below w4.heap.size w4 (w6.setCell ⟨go, J, none⟩ (.int .i64 y)).drew) := below_drewN (HB6.out.grown hst.2 HB6.out.size (by intro b hb; injection hb with hb; omega)) 1
            have j0 : (0 : Int) ≤ (J : Int) := by omega
            have j1 : (J : Int) < (q.n : Int) := by omega
            have k0 : (0 : Int) ≤ (k : Int) := by omega
            have k1 : (k : Int) < (pn : Int) := by omega
            clear hst hset hx hy HO6 HB6
            go_wp2_with fail
            go_region
            all_goals
              go_wp2
              go_roundw
              case rel => exact ⟨k + 1, by omega, by go_num, HO7, HB7, .inr ⟨HACT.out, by first | rfl | trivial⟩⟩
              case measure => simp [intOf]; omega
      · have hk1' : (kd == 1) = false := by simpa using hk1
        have HE := hide ((wayV_end (ps := ps) (pn := pn) HA.out (fun h => absurd h.1 hk1) HNX.out.2).trans HNX.out.1)
        clear hk1
        go_wp2_with fail
        refine (sameInts_yes (some ⟨go, 0, none⟩) A3 q.n c5 n3 c3 wr.heap.size g9 _ af wr HO.out.ints (HL4.out.step HBR.out).a (by unfold maxLen; omega) (by unfold maxLen; omega) HE.out).mono ?_
        rintro e w7 ⟨rfl, z, rfl⟩
        go_wp2
        go_ret
        exact ⟨rfl, below_drewN (HL4.out.step HBR.out).below z⟩
    · have HE := hide ((wayV_end (ps := ps) (pn := pn) HA.out (fun _ => by omega) HNX.out.2).trans HNX.out.1)
      have hlt' : ¬ (k : Int) < (pn : Int) := by omega
      go_wp2_with fail
      refine (sameInts_yes (some ⟨go, 0, none⟩) A3 q.n c5 n3 c3 wr.heap.size g9 _ af wr HO.out.ints (HL4.out.step HBR.out).a (by unfold maxLen; omega) (by unfold maxLen; omega) HE.out).mono ?_
      rintro e w7 ⟨rfl, z, rfl⟩
      go_wp2
      go_ret
      exact ⟨rfl, below_drewN (HL4.out.step HBR.out).below z⟩
end Go.Proofs.Ytiopbgenkalfaaa
