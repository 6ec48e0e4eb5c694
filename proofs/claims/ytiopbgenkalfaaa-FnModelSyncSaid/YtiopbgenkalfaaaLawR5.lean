/-
  The walk of FnModelSync.
-/
import Derived.Test.YtiopbgenkalfaaaLawR0
namespace Go.Proofs.Ytiopbgenkalfaaa
open Go.RowKit
set_option linter.unusedVariables false
set_option maxRecDepth 100000

set_option maxHeartbeats 12800000 in
theorem modelSync_walk (A : Option Addr) (n c : Nat) (bs : Nat → Int) (w : World) (hb : Bytes w w.heap.size A n bs) (hn : n ≤ c) (hc : c ≤ maxLen) :
    Calls Try.prog 7 #[.slice A n c] w fun e w' => e = .returned (.bool true) ∧ Below w.heap.size w w' := by
  by_cases hbig : 1048576 < n
  · have hd : decide (1048576 < n) = true := by simpa using hbig
    go_enter Try.func7, Try.ntmps7
    go_wp2
    go_ret
    exact ⟨rfl, Below.refl _ _⟩
  have hd : decide (1048576 < n) = false := by simpa using hbig
  go_enter Try.func7, Try.ntmps7
  go_wp2_with fail
  refine (drawDo_any A n c bs _ hb hn hc).mono ?_
  rintro e w1 ⟨q, kd, PA, LA, A3, pn, pc, ln, lc, n3, c3, ps, ls, af, dn, rfl, hm, hqn, hqm, hp, hpn, ha, hn3, hn3c, hc3, hA3, hb1⟩
  obtain ⟨W1, hW1⟩ : ∃ W1, (w1.alloc (.cells #[.slice q.A q.n q.c, .slice q.P q.m q.d] 27)).alloc (.cells #[.int .i64 kd, .slice PA pn pc, .slice LA ln lc] 35) = W1 := ⟨_, rfl⟩
  have HK1 : Hid (Kp w1 W1 [(w1.heap.size + 1, 35, #[.int .i64 kd, .slice PA pn pc, .slice LA ln lc]), (w1.heap.size, 27, #[.slice q.A q.n q.c, .slice q.P q.m q.d])]) := by
    rw [← hW1]
    exact ((Kp.refl w1).push _ _).pushN _ (by simp) _ _
  have HM1 := hide (hm.below HK1.out.below (Nat.le_refl _))
  have HP1 := hide (hp.below HK1.out.below (Nat.le_refl _))
  have HA1 := hide (ha.below HK1.out.below (Nat.le_refl _))
  have HB1 := hide (hb1.trans (HK1.out.below.mono hb1.size))
  have hs1 := HK1.out.below.size
  clear hm hp ha hb1 hb
  go_upto_region 4 with (fail)
  clear hW1
  obtain ⟨⟨z0, z1, z2⟩, _, _, _⟩ := HK1.out.cells3
  obtain ⟨⟨y0, y1⟩, _, _⟩ := HK1.out.tl.cells2
  go_wp2_with fail
  refine (implDo q w1.heap.size W1 PA LA A3 pn pc ln lc n3 c3 ps af kd dn HM1.out hs1 HP1.out HA1.out hA3 (by omega) (by omega)).mono ?_
  rintro e w2 ⟨q1, rfl, hm1, hx1, hq1, hb2⟩
  have HQ1 := hide (And.intro hx1 hq1)
  obtain ⟨W2, hW2⟩ : ∃ W2, w2.alloc (.cells #[.slice q1.A q1.n q1.c, .slice q1.P q1.m q1.d] 27) = W2 := ⟨_, rfl⟩
  have hs2 := hb2.size
  have HK2 := hide (show Kp w1 W2 [(w2.heap.size, 27, #[.slice q1.A q1.n q1.c, .slice q1.P q1.m q1.d]), (w1.heap.size + 1, 35, #[.int .i64 kd, .slice PA pn pc, .slice LA ln lc]), (w1.heap.size, 27, #[.slice q.A q.n q.c, .slice q.P q.m q.d])] from by
    rw [← hW2]
    exact (HK1.out.step hb2).push _ _)
  have HM2 := hide (show MdI W2 w2.heap.size q1 from by rw [← hW2]; exact hm1.mdi.alloc (Nat.le_refl _) _)
  have HB2 := hide (show Below W1.heap.size W1 W2 from by rw [← hW2]; exact hb2.alloc hs2 _)
  have hs22 : w2.heap.size ≤ W2.heap.size := by rw [← hW2]; simp
  clear hm1 hx1 hq1 hb2 HK1 z0 z1 z2 y0 y1
  unfold Mq.val
  go_upto_region 5 with (fail)
  clear hW2
  generalize w2.heap.size = g7 at HK2 HM2 hs2 hs22 ⊢
  obtain ⟨⟨z0, z1, z2⟩, _, _, _⟩ := HK2.out.tl.cells3
  obtain ⟨⟨y0, y1⟩, _, _⟩ := HK2.out.tl.tl.cells2
  go_wp2_with fail
  refine (specDo q w1.heap.size W2 PA LA A3 pn pc ln lc n3 c3 ps af kd dn (HM1.out.below HB2.out hs1) (by omega) (HP1.out.below HB2.out hs1) (HA1.out.below HB2.out hs1) (by omega) (by omega) (by omega)).mono ?_
  rintro e w3 ⟨q2, rfl, hm2, hx2, hq2, hb3⟩
  have HQ2 := hide (And.intro hx2 hq2)
  have hs3 := hb3.size
  have HB3 := hide (show Below w.heap.size w (w3.alloc (.cells #[.slice q2.A q2.n q2.c, .slice q2.P q2.m q2.d] 27)) from
    (HB1.out.trans ((HB2.out.trans (hb3.mono (by omega))).mono HB1.out.size)).alloc (by have := HB1.out.size; omega) _)
  have HL := hide (show LD w (w3.alloc (.cells #[.slice q2.A q2.n q2.c, .slice q2.P q2.m q2.d] 27)) w3.heap.size w1.heap.size (w1.heap.size + 1) g7 w3.heap.size q kd PA LA pn pc ln lc ps A3 n3 af q1 q2 from
    have h23 : Below W1.heap.size W1 w3 := HB2.out.trans (hb3.mono (by omega))
    have hk3 := (HK2.out.step hb3).alloc (.cells #[.slice q2.A q2.n q2.c, .slice q2.P q2.m q2.d] 27)
    { m := ((HM1.out.below h23 hs1).more (by omega)).alloc (Nat.le_refl _) _, p := ((HP1.out.below h23 hs1).more (by omega)).alloc (Nat.le_refl _) _, a := ((HA1.out.below h23 hs1).more (by omega)).alloc (Nat.le_refl _) _,
      m1 := ((HM2.out.below hb3 hs22).more (by omega)).alloc (Nat.le_refl _) _, m2 := hm2.mdi.alloc (Nat.le_refl _) _,
      k3 := hk3.tl.tl.hd, k4 := hk3.tl.hd, k7 := hk3.hd, k9 := Blk.new w3 _ _, below := HB3.out, hB := by simp })
  clear hm2 hx2 hq2 hb3 HB3 HM1 HP1 HA1 HB1 HM2 HB2 HK2 z0 z1 z2 y0 y1
  unfold Mq.val
  go_upto_region 6 with (fail)
  generalize w3.alloc (.cells #[.slice q2.A q2.n q2.c, .slice q2.P q2.m q2.d] 27) = W3 at HL ⊢
  generalize w3.heap.size = g9 at HL ⊢
  generalize hg34 : w1.heap.size + 1 = g4 at HL ⊢
  clear hg34 hs1 hs2 hs22 hs3
  generalize w1.heap.size = g3 at HL ⊢
  have HSM := hide fun (W : World) (h : LD w W g9 g3 g4 g7 g9 q kd PA LA pn pc ln lc ps A3 n3 af q1 q2) => sameMod_yes q1 q2 g9 g9 W h.m1 h.m2 h.hB h.hB (HQ1.out.1.trans HQ2.out.1.symm) (HQ1.out.2.trans HQ2.out.2.symm)
  obtain ⟨r, hr⟩ : ∃ r, doV q.xs (vsN q.qs) kd pn ps dn af = r := ⟨_, rfl⟩
  rw [hr] at HQ1 HQ2 ⊢
  have HRR := hide hr
  clear hr
  obtain ⟨x0, x1⟩ := HL.out.cells7
  obtain ⟨x2, x3⟩ := HL.out.cells9
  obtain ⟨e0, e1, e2⟩ := HL.out.cells4
  obtain ⟨m0, m1⟩ := HL.out.cells3
  rcases r with _ | r
  · simp only [Option.isSome_none]
    go_wp2_with fail
    refine (HSM.out W3 HL.out).mono ?_
    rintro e w4 ⟨rfl, hb4⟩
    have HL4 := hide (HL.out.step hb4)
    clear hb4 HL x0 x1 x2 x3 e0 e1 e2 m0 m1
    obtain ⟨x0, x1⟩ := HL4.out.cells7
    obtain ⟨x2, x3⟩ := HL4.out.cells9
    obtain ⟨e0, e1, e2⟩ := HL4.out.cells4
    go_wp2_with fail
    refine (HSM.out w4 HL4.out).mono ?_
    rintro e w5 ⟨rfl, hb5⟩
    have HB5 := hide (HL4.out.step hb5).below
    clear hb5
    go_wp2
    go_ret
    exact ⟨rfl, HB5.out⟩
  simp only [Option.isSome_some]
  by_cases hkd : kd = 10
  · have hkd' : (kd == 10) = true := by simpa using hkd
    clear hkd
    go_wp2_with fail
    refine (HSM.out W3 HL.out).mono ?_
    rintro e w4 ⟨rfl, hb4⟩
    have HL4 := hide (HL.out.step hb4)
    clear hb4 HL x0 x1 x2 x3 e0 e1 e2 m0 m1
    obtain ⟨x0, x1⟩ := HL4.out.cells7
    obtain ⟨x2, x3⟩ := HL4.out.cells9
    obtain ⟨e0, e1, e2⟩ := HL4.out.cells4
    go_wp2_with fail
    refine (HSM.out w4 HL4.out).mono ?_
    rintro e w5 ⟨rfl, hb5⟩
    have HB5 := hide (HL4.out.step hb5).below
    clear hb5
    go_wp2
    go_ret
    exact ⟨rfl, HB5.out⟩
  have hkd' : (kd == 10) = false := by simpa using hkd
  have hs := doV_some HRR.out
  have hok : (modV q.xs (vsN q.qs) && nowV af) = true := by rw [hs.2.2.2, hs.2.1]; rfl
  have hc : ¬ (kd = 10 ∧ dn = true) := fun h => hkd h.1
  have hd := HRR.out
  rw [doV_else hok hc] at hd
  have hm1 : (vsN q1.qs).length = q1.m := by rw [vsN_length, HL.out.m1.past.1]
  rw [HQ1.out.2] at hm1
  simp only [Option.getD_some] at hm1
  have hmq : (vsN q.qs).length = q.m := by rw [vsN_length, HL.out.m.past.1]
  have hlen : (kd = 2 ∧ dn = true → q1.m = 1) ∧ (¬ (kd = 2 ∧ dn = true) → q1.m = (q.m - (q.m - 60)) + 1) := by
    split at hd
    · cases hd
    · split at hd
      · rename_i h2
        injection hd with hd
        subst hd
        exact ⟨fun _ => by simpa using hm1.symm, fun h => absurd h2 h⟩
      · rename_i h2
        injection hd with hd
        subst hd
        simp only [List.length_append, List.length_drop, List.length_cons, List.length_nil, hmq] at hm1
        exact ⟨fun h => absurd h h2, fun _ => by omega⟩
  have HLEN := hide hlen
  have hm63 : q.m ≤ 63 := hqm
  clear hlen hd hok hs hc hm1 hmq hkd
  by_cases h2 : kd = 2 ∧ dn = true
  · have h1 := HLEN.out.1 h2
    have h1b : ((q1.m : Int) == 1) = true := by rw [h1]; rfl
    obtain ⟨rfl, rfl⟩ := h2
    clear h1 hkd'
    go_wp2_with fail
    refine (HSM.out W3 HL.out).mono ?_
    rintro e w4 ⟨rfl, hb4⟩
    have HL4 := hide (HL.out.step hb4)
    clear hb4 HL x0 x1 x2 x3 e0 e1 e2 m0 m1 HSM
    obtain ⟨x0, x1⟩ := HL4.out.cells7
    obtain ⟨e0, e1, e2⟩ := HL4.out.cells4
    obtain ⟨m0, m1⟩ := HL4.out.cells3
    go_wp2
    go_ret
    exact ⟨rfl, HL4.out.below⟩
  · have h1 := HLEN.out.2 h2
    have key : ∀ k2 : Bool, (kd == 2) = k2 → (k2 && dn) = false := by
      intro k2 hk2
      rcases k2 with _ | _
      · rfl
      · rcases dn with _ | _
        · rfl
        · exact absurd ⟨by simpa using hk2, rfl⟩ h2
    clear h2
    rcases hk2 : (kd == 2) with _ | _
    · clear key
      by_cases h60 : q.m ≤ 60
      · have h60' : decide ((q.m : Int) ≤ 60) = true := decide_eq_true (by omega)
        have h60i : (q.m : Int) ≤ 60 := by omega
        have h1b : ((q1.m : Int) == (q.m : Int) + 1) = true := by rw [h1]; simp; omega
        clear h1
        go_wp2_with fail
        refine (HSM.out W3 HL.out).mono ?_
        rintro e w4 ⟨rfl, hb4⟩
        have HL4 := hide (HL.out.step hb4)
        clear hb4 HL x0 x1 x2 x3 e0 e1 e2 m0 m1 HSM
        obtain ⟨x0, x1⟩ := HL4.out.cells7
        obtain ⟨e0, e1, e2⟩ := HL4.out.cells4
        obtain ⟨m0, m1⟩ := HL4.out.cells3
        go_wp2
        go_ret
        exact ⟨rfl, HL4.out.below⟩
      · have h60' : decide ((q.m : Int) ≤ 60) = false := decide_eq_false (by omega)
        have h60i : ¬ (q.m : Int) ≤ 60 := by omega
        have h1b : ((q1.m : Int) == 61) = true := by rw [h1]; simp; omega
        clear h1
        go_wp2_with fail
        refine (HSM.out W3 HL.out).mono ?_
        rintro e w4 ⟨rfl, hb4⟩
        have HL4 := hide (HL.out.step hb4)
        clear hb4 HL x0 x1 x2 x3 e0 e1 e2 m0 m1 HSM
        obtain ⟨x0, x1⟩ := HL4.out.cells7
        obtain ⟨e0, e1, e2⟩ := HL4.out.cells4
        obtain ⟨m0, m1⟩ := HL4.out.cells3
        go_wp2
        go_ret
        exact ⟨rfl, HL4.out.below⟩
    · rcases dn with _ | _
      rotate_left
      · exact absurd (key true hk2) (by simp)
      clear key
      by_cases h60 : q.m ≤ 60
      · have h60' : decide ((q.m : Int) ≤ 60) = true := decide_eq_true (by omega)
        have h60i : (q.m : Int) ≤ 60 := by omega
        have h1b : ((q1.m : Int) == (q.m : Int) + 1) = true := by rw [h1]; simp; omega
        clear h1
        go_wp2_with fail
        refine (HSM.out W3 HL.out).mono ?_
        rintro e w4 ⟨rfl, hb4⟩
        have HL4 := hide (HL.out.step hb4)
        clear hb4 HL x0 x1 x2 x3 e0 e1 e2 m0 m1 HSM
        obtain ⟨x0, x1⟩ := HL4.out.cells7
        obtain ⟨e0, e1, e2⟩ := HL4.out.cells4
        obtain ⟨m0, m1⟩ := HL4.out.cells3
        go_wp2
        go_ret
        exact ⟨rfl, HL4.out.below⟩
      · have h60' : decide ((q.m : Int) ≤ 60) = false := decide_eq_false (by omega)
        have h60i : ¬ (q.m : Int) ≤ 60 := by omega
        have h1b : ((q1.m : Int) == 61) = true := by rw [h1]; simp; omega
        clear h1
        go_wp2_with fail
        refine (HSM.out W3 HL.out).mono ?_
        rintro e w4 ⟨rfl, hb4⟩
        have HL4 := hide (HL.out.step hb4)
        clear hb4 HL x0 x1 x2 x3 e0 e1 e2 m0 m1 HSM
        obtain ⟨x0, x1⟩ := HL4.out.cells7
        obtain ⟨e0, e1, e2⟩ := HL4.out.cells4
        obtain ⟨m0, m1⟩ := HL4.out.cells3
        go_wp2
        go_ret
        exact ⟨rfl, HL4.out.below⟩
end Go.Proofs.Ytiopbgenkalfaaa
