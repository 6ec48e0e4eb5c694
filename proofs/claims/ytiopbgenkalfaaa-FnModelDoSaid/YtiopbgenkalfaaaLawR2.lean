/-
  The walk of FnModelDo.
-/
import Derived.Test.YtiopbgenkalfaaaLawR0
namespace Go.Proofs.Ytiopbgenkalfaaa
open Go.RowKit
set_option linter.unusedVariables false
set_option maxRecDepth 100000

set_option maxHeartbeats 12800000 in
theorem modelDo_walk (A : Option Addr) (n c : Nat) (bs : Nat → Int) (w : World) (hb : Bytes w w.heap.size A n bs) (hn : n ≤ c) (hc : c ≤ maxLen) :
    Calls Try.prog 4 #[.slice A n c] w fun e w' => e = .returned (.bool true) ∧ Below w.heap.size w w' := by
  by_cases hbig : 1048576 < n
  · have hd : decide (1048576 < n) = true := by simpa using hbig
    go_enter Try.func4, Try.ntmps4
    go_wp2
    go_ret
    exact ⟨rfl, Below.refl _ _⟩
  have hd : decide (1048576 < n) = false := by simpa using hbig
  go_enter Try.func4, Try.ntmps4
  go_wp2_with fail
  refine (drawDo_any A n c bs _ hb hn hc).mono ?_
  rintro e w1 ⟨q, kd, PA, LA, A3, pn, pc, ln, lc, n3, c3, ps, ls, af, dn, rfl, hm, hqn, hqm, hp, hpn, ha, hn3, hn3c, hc3, hA3, hb1⟩
  obtain ⟨W1, hW1⟩ : ∃ W1, (w1.alloc (.cells #[.slice q.A q.n q.c, .slice q.P q.m q.d] 27)).alloc (.cells #[.int .i64 kd, .slice PA pn pc, .slice LA ln lc] 35) = W1 := ⟨_, rfl⟩
  have HK1 : Hid (Kp w1 W1 [(w1.heap.size + 1, 35, #[.int .i64 kd, .slice PA pn pc, .slice LA ln lc]), (w1.heap.size, 27, #[.slice q.A q.n q.c, .slice q.P q.m q.d])]) := by
    rw [← hW1]
    exact ((Kp.refl w1).push _ _).pushN _ (by simp) _ _
  have HM1 := hide (hm.below HK1.out.below (Nat.le_refl _))
  have HP1 := hide (hp.below HK1.out.below (Nat.le_refl _))
  have HA1 := hide (ha.below HK1.out.below (Nat.le_refl _))
  have HB1 := hide (hb1.trans (HK1.out.below.mono hb1.size))
  have hs1 := HK1.out.below.size
  clear hm hp ha hb1 hb
  go_upto_region 4 with (fail)
  clear hW1
  obtain ⟨⟨z0, z1, z2⟩, _, _, _⟩ := HK1.out.cells3
  obtain ⟨⟨y0, y1⟩, _, _⟩ := HK1.out.tl.cells2
  go_wp2_with fail
  refine (implDo q w1.heap.size W1 PA LA A3 pn pc ln lc n3 c3 ps af kd dn HM1.out hs1 HP1.out HA1.out hA3 (by omega) (by omega)).mono ?_
  rintro e w2 ⟨q1, rfl, hm1, hx1, hq1, hb2⟩
  have HQ1 := hide (And.intro hx1 hq1)
  obtain ⟨W2, hW2⟩ : ∃ W2, w2.alloc (.cells #[.slice q1.A q1.n q1.c, .slice q1.P q1.m q1.d] 27) = W2 := ⟨_, rfl⟩
  have hs2 := hb2.size
  have HK2 := hide (show Kp w1 W2 [(w2.heap.size, 27, #[.slice q1.A q1.n q1.c, .slice q1.P q1.m q1.d]), (w1.heap.size + 1, 35, #[.int .i64 kd, .slice PA pn pc, .slice LA ln lc]), (w1.heap.size, 27, #[.slice q.A q.n q.c, .slice q.P q.m q.d])] from by
    rw [← hW2]
    exact (HK1.out.step hb2).push _ _)
  have HM2 := hide (show MdI W2 w2.heap.size q1 from by rw [← hW2]; exact hm1.mdi.alloc (Nat.le_refl _) _)
  have HB2 := hide (show Below W1.heap.size W1 W2 from by rw [← hW2]; exact hb2.alloc hs2 _)
  have hs22 : w2.heap.size ≤ W2.heap.size := by rw [← hW2]; simp
  clear hm1 hx1 hq1 hb2 HK1 z0 z1 z2 y0 y1
  unfold Mq.val
  go_upto_region 5 with (fail)
  clear hW2
  generalize w2.heap.size = g7 at HK2 HM2 hs2 hs22 ⊢
  obtain ⟨⟨z0, z1, z2⟩, _, _, _⟩ := HK2.out.tl.cells3
  obtain ⟨⟨y0, y1⟩, _, _⟩ := HK2.out.tl.tl.cells2
  go_wp2_with fail
  refine (specDo q w1.heap.size W2 PA LA A3 pn pc ln lc n3 c3 ps af kd dn (HM1.out.below HB2.out hs1) (by omega) (HP1.out.below HB2.out hs1) (HA1.out.below HB2.out hs1) (by omega) (by omega) (by omega)).mono ?_
  rintro e w3 ⟨q2, rfl, hm2, hx2, hq2, hb3⟩
  have HQ2 := hide (And.intro hx2 hq2)
  have hs3 := hb3.size
  have HB3 := hide (show Below w.heap.size w (w3.alloc (.cells #[.slice q2.A q2.n q2.c, .slice q2.P q2.m q2.d] 27)) from
    (HB1.out.trans ((HB2.out.trans (hb3.mono (by omega))).mono HB1.out.size)).alloc (by have := HB1.out.size; omega) _)
  have HL := hide (show LD w (w3.alloc (.cells #[.slice q2.A q2.n q2.c, .slice q2.P q2.m q2.d] 27)) w3.heap.size w1.heap.size (w1.heap.size + 1) g7 w3.heap.size q kd PA LA pn pc ln lc ps A3 n3 af q1 q2 from
    have h23 : Below W1.heap.size W1 w3 := HB2.out.trans (hb3.mono (by omega))
    have hk3 := (HK2.out.step hb3).alloc (.cells #[.slice q2.A q2.n q2.c, .slice q2.P q2.m q2.d] 27)
    { m := ((HM1.out.below h23 hs1).more (by omega)).alloc (Nat.le_refl _) _, p := ((HP1.out.below h23 hs1).more (by omega)).alloc (Nat.le_refl _) _, a := ((HA1.out.below h23 hs1).more (by omega)).alloc (Nat.le_refl _) _,
      m1 := ((HM2.out.below hb3 hs22).more (by omega)).alloc (Nat.le_refl _) _, m2 := hm2.mdi.alloc (Nat.le_refl _) _,
      k3 := hk3.tl.tl.hd, k4 := hk3.tl.hd, k7 := hk3.hd, k9 := Blk.new w3 _ _, below := HB3.out, hB := by simp })
  clear hm2 hx2 hq2 hb3 HB3 HM1 HP1 HA1 HB1 HM2 HB2 HK2 z0 z1 z2 y0 y1
  unfold Mq.val
  go_upto_region 6 with (fail)
  generalize w3.alloc (.cells #[.slice q2.A q2.n q2.c, .slice q2.P q2.m q2.d] 27) = W3 at HL ⊢
  generalize w3.heap.size = g9 at HL ⊢
  generalize hg34 : w1.heap.size + 1 = g4 at HL ⊢
  clear hg34 hs1 hs2 hs22 hs3
  generalize w1.heap.size = g3 at HL ⊢
  have HSM := hide fun (W : World) (h : LD w W g9 g3 g4 g7 g9 q kd PA LA pn pc ln lc ps A3 n3 af q1 q2) => sameMod_yes q1 q2 g9 g9 W h.m1 h.m2 h.hB h.hB (HQ1.out.1.trans HQ2.out.1.symm) (HQ1.out.2.trans HQ2.out.2.symm)
  obtain ⟨r, hr⟩ : ∃ r, doV q.xs (vsN q.qs) kd pn ps dn af = r := ⟨_, rfl⟩
  rw [hr] at HQ1 HQ2 ⊢
  have HRR := hide hr
  clear hr
  obtain ⟨x0, x1⟩ := HL.out.cells7
  obtain ⟨x2, x3⟩ := HL.out.cells9
  obtain ⟨e0, e1, e2⟩ := HL.out.cells4
  obtain ⟨m0, m1⟩ := HL.out.cells3
  rcases r with _ | r
  · simp only [Option.isSome_none]
    go_wp2_with fail
    refine (HSM.out W3 HL.out).mono ?_
    rintro e w4 ⟨rfl, hb4⟩
    have HL4 := hide (HL.out.step hb4)
    clear hb4 HL x0 x1 x2 x3 e0 e1 e2 m0 m1
    obtain ⟨x0, x1⟩ := HL4.out.cells7
    obtain ⟨x2, x3⟩ := HL4.out.cells9
    obtain ⟨e0, e1, e2⟩ := HL4.out.cells4
    go_wp2_with fail
    refine (HSM.out w4 HL4.out).mono ?_
    rintro e w5 ⟨rfl, hb5⟩
    have HB5 := hide (HL4.out.step hb5).below
    clear hb5
    go_wp2
    go_ret
    exact ⟨rfl, HB5.out⟩
  simp only [Option.isSome_some]
  have hs := doV_some HRR.out
  have hx1 : q1.xs = af := HQ1.out.1.trans hs.1
  have hv1 : vsN q1.qs = r.2 := HQ1.out.2
  have hm1 : 0 < q1.m := by
    rcases Nat.eq_zero_or_pos q1.m with h0 | h0
    · have h1 : q1.qs = [] := List.eq_nil_of_length_eq_zero (by rw [HL.out.m1.past.1, h0])
      rw [h1] at hv1
      have h2 := hs.2.2.1
      rw [← hv1] at h2
      have h3 := nowV_len hs.2.1
      rw [← h2] at h3
      simp [lastV, vsN] at h3
    · exact h0
  obtain ⟨K, hK⟩ : ∃ K, q1.m = K + 1 := ⟨q1.m - 1, by omega⟩
  have hm19 := HL.out.m1.md
  unfold maxLen at hm19
  have hK' : (q1.m : Int) - 1 = (K : Int) := by omega
  obtain ⟨p, hp⟩ : ∃ x, q1.qs[K]? = some x := ⟨_, List.getElem?_eq_getElem (by rw [HL.out.m1.past.1]; omega)⟩
  have hlast : p.ps = af := by
    have h1 := getLast_vs hp (by rw [HL.out.m1.past.1]; exact hK)
    rw [← h1, hv1]
    exact hs.2.2.1
  have HH := hide (And.intro hx1 (And.intro hlast hp))
  have k1 : (0 : Int) ≤ (K : Int) := by omega
  have k2 : (K : Int) < (q1.m : Int) := by omega
  have k3 : decide ((0 : Int) < (q1.m : Int)) = true := decide_eq_true (by omega)
  have k4 : (0 : Int) < (q1.m : Int) := by omega
  clear hs hx1 hv1 hlast hp hm1 hK
  go_wp2_with fail
  refine (HSM.out W3 HL.out).mono ?_
  rintro e w4 ⟨rfl, hb4⟩
  have HL4 := hide (HL.out.step hb4)
  clear hb4 HL x0 x1 x2 x3 e0 e1 e2 m0 m1 HSM
  obtain ⟨x0, x1⟩ := HL4.out.cells7
  obtain ⟨e0, e1, e2⟩ := HL4.out.cells4
  obtain ⟨m0, m1⟩ := HL4.out.cells3
  obtain ⟨ad, he, _, hcp⟩ := HL4.out.m1.past.at_ HH.out.2.2
  have hrow := HL4.out.m1.past.row_ HH.out.2.2
  rw [he] at x1
  have hn1 : q1.n ≤ maxLen := by have := HL4.out.m1.nc; omega
  have HS1 := hide fun (i : Nat) => sameInts_yes q1.A A3 q1.n q1.c n3 c3 g9 g9 q1.xs af (w4.drewN i) (HL4.out.m1.now.drewN i) (HL4.out.a.drewN i) hn1 (by unfold maxLen; omega) HH.out.1
  have HS2 := hide fun (i : Nat) => sameInts_yes p.addr A3 p.ps.length p.cap n3 c3 g9 g9 p.ps af (w4.drewN i) (hrow.1.drewN i) (HL4.out.a.drewN i) (by omega) (by unfold maxLen; omega) HH.out.2.1
  unfold Nq.sl at hcp
  clear he hrow hn1
  go_wp2_with fail
  refine (HS1.out 0).mono ?_
  rintro e w5 ⟨rfl, z, rfl⟩
  go_wp2_with fail
  refine (HS2.out z).mono ?_
  rintro e w6 ⟨rfl, z2, rfl⟩
  go_wp2
  go_ret
  exact ⟨rfl, below_drewN HL4.out.below (z + z2)⟩
end Go.Proofs.Ytiopbgenkalfaaa
