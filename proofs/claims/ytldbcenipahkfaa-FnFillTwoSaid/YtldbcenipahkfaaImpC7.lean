/-
  The program's ColumnsFill.
-/
import Derived.Test.YtldbcenipahkfaaImpC6
namespace Go.Proofs.Ytldbcenipahkfaa
open Go.RowKit
set_option linter.unusedVariables false
set_option maxRecDepth 100000

theorem fi_no {xs : List Int} {c : Int × Int} {a b : Int} (h : fillW xs a b c = false) : fillV xs a b c = false ∧ fillL xs a b c = [] := by simp [fillV, fillL, h]
theorem fi_none {xs : List Int} {c : Int × Int} {a b : Int} (h : fillW xs a b c = true) (hf : fillF xs a.toNat b.toNat c = none) : fillV xs a b c = false ∧ fillL xs a b c = [] := by simp [fillV, fillL, h, hf]
theorem fi_some {xs : List Int} {c : Int × Int} {a b : Int} {v : Nat} (h : fillW xs a b c = true) (hf : fillF xs a.toNat b.toNat c = some v) : fillV xs a b c = true ∧ fillL xs a b c = fillR xs a.toNat b.toNat c.1 v := by simp [fillV, fillL, h, hf]

/-- .. and one more, behind all of them -/
structure KpN (w W : World) (g : Nat) (t : TypeId) (cs : Array Value) (L : List (Nat × TypeId × Array Value)) : Prop where
  kp : Kp w W ((g, t, cs) :: L)
  far : ∀ p ∈ L, p.1 < g
section
variable {w W W' : World} {t : TypeId} {cs : Array Value} {L : List (Nat × TypeId × Array Value)} {g : Nat}
theorem Kp.al (h : Kp w W L) (t : TypeId) (cs : Array Value) : KpN w (W.alloc (.cells cs t)) W.heap.size t cs L := ⟨h.push t cs, fun p hp => (h.blk p hp).1.lt⟩
theorem KpN.step (h : KpN w W g t cs L) (hb : Below W.heap.size W W') : KpN w W' g t cs L := ⟨h.kp.step hb, h.far⟩
theorem KpN.put (h : KpN w W g t cs L) (j : Nat) (v : Value) : KpN w (W.setCell ⟨g, j, none⟩ v) g t (cs.setIfInBounds j v) L := ⟨h.kp.put (fun p hp => Nat.ne_of_lt (h.far p hp)) j v, h.far⟩
end
/-- what lacks, and both places -/
def FL (g1 g2 g3 : Nat) (s t p q : Int) : List (Nat × TypeId × Array Value) := [(g3, 53, #[.int .i64 q]), (g2, 53, #[.int .i64 p]), (g1, 55, #[.int .i64 s, .int .i64 t])]
section
variable {w W : World} {g1 g2 g3 g : Nat} {s t p q x : Int}
theorem FL.c (h : Kp w W (FL g1 g2 g3 s t p q)) : (W).cell? ⟨g1, 0, none⟩ = some (.int .i64 s) ∧ (W).cell? ⟨g1, 1, none⟩ = some (.int .i64 t) ∧ (W).cell? ⟨g2, 0, none⟩ = some (.int .i64 p) ∧ (W).cell? ⟨g3, 0, none⟩ = some (.int .i64 q) :=
  ⟨by rw [(Kp.hd (Kp.tl (Kp.tl h))).cell]; rfl, by rw [(Kp.hd (Kp.tl (Kp.tl h))).cell]; rfl, by rw [(Kp.hd (Kp.tl h)).cell]; rfl, by rw [(Kp.hd h).cell]; rfl⟩
theorem FL.call {f : FuncId} {args : Array Value} {r : Ending} (h : Hid (Kp w W (FL g1 g2 g3 s t p q))) (hc : Calls Try.prog f args W fun e W' => e = r ∧ Below W.heap.size W W') :
    Calls Try.prog f args W fun e W' => e = r ∧ Hid (Kp w W' (FL g1 g2 g3 s t p q)) := hc.mono fun e W' ⟨he, hb⟩ => ⟨he, h.out.step hb⟩
theorem FL.callN {f : FuncId} {args : Array Value} {r : Ending} (h : Hid (KpN w W g 53 #[.int .i64 x] (FL g1 g2 g3 s t p q))) (hc : Calls Try.prog f args W fun e W' => e = r ∧ Below W.heap.size W W') :
    Calls Try.prog f args W fun e W' => e = r ∧ Hid (KpN w W' g 53 #[.int .i64 x] (FL g1 g2 g3 s t p q)) ∧ W'.cell? ⟨g, 0, none⟩ = some (.int .i64 x) ∧ W'.frozen? ⟨g, 0, none⟩ = false :=
  hc.mono fun e W' ⟨he, hb⟩ => ⟨he, h.out.step hb, by rw [(h.out.step hb).kp.hd.cell]; rfl, (h.out.step hb).kp.free 0⟩
theorem FL.al (h : Hid (Kp w W (FL g1 g2 g3 s t p q))) (x : Int) : Hid (KpN w (W.alloc (.cells #[.int .i64 x] 53)) W.heap.size 53 #[.int .i64 x] (FL g1 g2 g3 s t p q)) := h.out.al _ _
theorem FL.putN (h : Hid (KpN w W g 53 #[.int .i64 x] (FL g1 g2 g3 s t p q))) (v : Int) : Hid (KpN w (W.setCell ⟨g, 0, none⟩ (.int .i64 v)) g 53 #[.int .i64 v] (FL g1 g2 g3 s t p q)) := h.out.put 0 (.int .i64 v)
theorem KpN.cell0 {L : List (Nat × TypeId × Array Value)} (h : Hid (KpN w W g 53 #[.int .i64 x] L)) : W.cell? ⟨g, 0, none⟩ = some (.int .i64 x) := by rw [h.out.kp.hd.cell]; rfl
theorem KpN.cell1 {L : List (Nat × TypeId × Array Value)} {W' : World} (h : Hid (KpN w W g 53 #[.int .i64 x] L)) (hb : Below W.heap.size W W') : W'.cell? ⟨g, 0, none⟩ = some (.int .i64 x) := (hb.cell (p := ⟨g, 0, none⟩) h.out.kp.lt).trans (KpN.cell0 h)
theorem FL.set (h : Hid (KpN w W g 53 #[.int .i64 x] (FL g1 g2 g3 s t p q))) (v : Int) : (W.setCell ⟨g, 0, none⟩ (.int .i64 v)).cell? ⟨g1, 0, none⟩ = some (.int .i64 s) ∧ (W.setCell ⟨g, 0, none⟩ (.int .i64 v)).cell? ⟨g1, 1, none⟩ = some (.int .i64 t) ∧ (W.setCell ⟨g, 0, none⟩ (.int .i64 v)).cell? ⟨g2, 0, none⟩ = some (.int .i64 p) ∧ (W.setCell ⟨g, 0, none⟩ (.int .i64 v)).cell? ⟨g3, 0, none⟩ = some (.int .i64 q) := FL.c (h.out.put 0 (.int .i64 v)).kp.tl
end
/-- behind the division -/
def FEnd (w W : World) (g : Nat) (g1 g2 g3 : Nat) (s t p q v : Int) : Prop := KpN w W g 53 #[.int .i64 v] (FL g1 g2 g3 s t p q)

set_option maxHeartbeats 12800000 in
theorem implCF (A : Option Addr) (n c B : Nat) (xs : List Int) (a b c1 c2 : Int) (w : World) (hr : Ints w B A n xs) (hB : B ≤ w.heap.size) (hn : n ≤ 1000000000000)
    (h0 : -9223372036854775808 ≤ c1) (h1 : c1 ≤ 9223372036854775807) (h2 : -9223372036854775808 ≤ c2) (h3 : c2 ≤ 9223372036854775807) :
    Calls Try.prog 27 #[.slice A n c, .int .i64 a, .int .i64 b, .agg #[.int .i64 c1, .int .i64 c2]] w (RsPost w (fillV xs a b (c1, c2)) (fillL xs a b (c1, c2))) := by
  have HK0 := hide ((Kp.refl w).push 26 #[.int .i64 c1, .int .i64 c2])
  have HB0 := hide ((Below.refl w.heap.size w).alloc (Nat.le_refl _) (.cells #[.int .i64 c1, .int .i64 c2] 26))
  have HHA := hide fun (W : World) => implHas A n c a W
  have HHB := hide fun (W : World) => implHas A n c b W
  rcases hv : (colV xs && ckV (c1, c2)) with _ | _
  · obtain ⟨e1, e3⟩ := fi_no (xs := xs) (c := (c1, c2)) (a := a) (b := b) (by unfold fillW; rw [hv]; rfl)
    rw [e1, e3]
    have HL := hide fun (W : World) (hb : Below w.heap.size w W) => lack_no A n c B xs c1 c2 W (hr.below hb hB) (Nat.le_trans hB hb.size) hn h0 h1 h2 h3 hv
    clear hr hv e1 e3 HHA HHB
    go_enter Try.func27, Try.ntmps27
    go_wp2_with fail
    refine (HL.out _ HB0.out).mono ?_
    rintro e w2 ⟨rfl, hb2⟩
    have HK2 := hide ((HK0.out.step hb2).push 55 #[.int .i64 0, .int .i64 0])
    have HB2 := hide HK2.out.below
    clear hb2 HK0 HB0 HL
    go_wp2
    go_ret2
    exact ⟨_, _, _, rfl, Own.nil_ _ _, HB2.out⟩
  · have hv2 := hv
    rw [Bool.and_eq_true] at hv2
    obtain ⟨hx, hc⟩ := hv2
    have hn6 : n ≤ 6 := by rw [← hr.1]; exact (colV_iff.1 hx).2.2
    have hlen := hr.1
    have HR := hide hr
    have HX := hide hx
    have HC := hide hc
    have hL := fun (W : World) (hb : Below w.heap.size w W) => lack_yes A n c B xs c1 c2 W (hr.below hb hB) (Nat.le_trans hB hb.size) hx hc
    have hfw : fillW xs a b (c1, c2) = (inB a 0 ((n : Int) - 1) && inB b 0 ((n : Int) - 1) && !decide (a = b)) := by unfold fillW; rw [hv, hr.1, Bool.true_and]
    rcases ha : inB a 0 ((n : Int) - 1) with _ | _
    · rw [ha] at HHA
      obtain ⟨e1, e3⟩ := fi_no (xs := xs) (c := (c1, c2)) (a := a) (b := b) (by rw [hfw, ha]; rfl)
      rw [e1, e3]
      have HL := hide hL
      clear hr hv hx hc hL hfw ha e1 e3 HHB hlen
      generalize lkS xs (c1, c2) = s at *
      generalize lkW xs (c1, c2) = t at *
      go_enter Try.func27, Try.ntmps27
      go_wp2_with fail
      refine (HL.out _ HB0.out).mono ?_
      rintro e w2 ⟨rfl, hb2⟩
      have HK2 := hide ((HK0.out.step hb2).push 55 #[.int .i64 s, .int .i64 t])
      have HB2 := hide HK2.out.below
      clear hb2 HK0 HB0 HL
      go_wp2_with fail
      refine (HHA.out _).mono ?_
      rintro e w' ⟨rfl, rfl⟩
      go_wp2
      go_ret2
      exact ⟨_, _, _, rfl, Own.nil_ _ _, HB2.out⟩
    · rcases hb : inB b 0 ((n : Int) - 1) with _ | _
      · rw [ha] at HHA
        rw [hb] at HHB
        obtain ⟨e1, e3⟩ := fi_no (xs := xs) (c := (c1, c2)) (a := a) (b := b) (by rw [hfw, ha, hb]; rfl)
        rw [e1, e3]
        have HL := hide hL
        clear hr hv hx hc hL hfw ha hb e1 e3 hlen
        generalize lkS xs (c1, c2) = s at *
        generalize lkW xs (c1, c2) = t at *
        go_enter Try.func27, Try.ntmps27
        go_wp2_with fail
        refine (HL.out _ HB0.out).mono ?_
        rintro e w2 ⟨rfl, hb2⟩
        have HK2 := hide ((HK0.out.step hb2).push 55 #[.int .i64 s, .int .i64 t])
        have HB2 := hide HK2.out.below
        clear hb2 HK0 HB0 HL
        go_wp2_with fail
        refine (HHA.out _).mono ?_
        rintro e w' ⟨rfl, rfl⟩
        go_wp2_with fail
        refine (HHB.out _).mono ?_
        rintro e w' ⟨rfl, rfl⟩
        go_wp2
        go_ret2
        exact ⟨_, _, _, rfl, Own.nil_ _ _, HB2.out⟩
      · rw [ha] at HHA
        rw [hb] at HHB
        by_cases hab : a = b
        · obtain ⟨e1, e3⟩ := fi_no (xs := xs) (c := (c1, c2)) (a := a) (b := b) (by rw [hfw, ha, hb, decide_eq_true hab]; rfl)
          rw [e1, e3]
          have hd : (a == b) = true := by simpa using hab
          have HL := hide hL
          clear hr hv hx hc hL hfw ha hb e1 e3 hlen hab
          generalize lkS xs (c1, c2) = s at *
          generalize lkW xs (c1, c2) = t at *
          go_enter Try.func27, Try.ntmps27
          go_wp2_with fail
          refine (HL.out _ HB0.out).mono ?_
          rintro e w2 ⟨rfl, hb2⟩
          have HK2 := hide ((HK0.out.step hb2).push 55 #[.int .i64 s, .int .i64 t])
          have HB2 := hide HK2.out.below
          clear hb2 HK0 HB0 HL
          go_wp2_with fail
          refine (HHA.out _).mono ?_
          rintro e w' ⟨rfl, rfl⟩
          go_wp2_with fail
          refine (HHB.out _).mono ?_
          rintro e w' ⟨rfl, rfl⟩
          go_wp2
          go_ret2
          exact ⟨_, _, _, rfl, Own.nil_ _ _, HB2.out⟩
        · have hW : fillW xs a b (c1, c2) = true := by rw [hfw, ha, hb, decide_eq_false hab]; rfl
          have hd : (a == b) = false := by simpa using hab
          have ha2 := inB_iff.1 ha
          have hb2 := inB_iff.1 hb
          obtain ⟨ka, rfl⟩ := Int.eq_ofNat_of_zero_le ha2.1
          obtain ⟨kb, rfl⟩ := Int.eq_ofNat_of_zero_le hb2.1
          have hka : ka < n := by omega
          have hkb : kb < n := by omega
          have hkab : ka ≠ kb := fun e => hab (by rw [e])
          have hFY := fillF_yes hx hc (show ka < xs.length by omega) (show kb < xs.length by omega) hkab
          have hFN := fillF_no hx hc (show ka < xs.length by omega) (show kb < xs.length by omega) hkab
          have hlr := lk_rng xs (c1, c2)
          have hfr := flB_rng xs ka kb (c1, c2)
          have hflr := fl_rng xs ka kb (c1, c2)
          have hS0 := fun (v : Int) (h0 : 0 ≤ v) (h9 : v ≤ 99) => colV_set hx ka h0 h9
          have hgd := fun (v : Int) => getD_set_ne (xs := xs) hkab v
          -- what the program computes
          obtain ⟨p, hp⟩ : ∃ p, ((ka : Int) + 1) % 101 = p := ⟨_, rfl⟩
          obtain ⟨q, hq⟩ : ∃ q, ((kb : Int) + 1) % 101 = q := ⟨_, rfl⟩
          have hp0 : 0 ≤ p ∧ p ≤ 100 := by omega
          have hq0 : 0 ≤ q ∧ q ≤ 100 := by omega
          have hPA : ∀ W : World, Calls Try.prog 50 #[.int .i64 ka] W fun e w' => e = .returned (.agg #[.int .i64 p]) ∧ Below W.heap.size W w' := fun W => by
            have h := placeOf_any ka W (by omega) (by omega)
            rwa [hp] at h
          have hPB : ∀ W : World, Calls Try.prog 50 #[.int .i64 kb] W fun e w' => e = .returned (.agg #[.int .i64 q]) ∧ Below W.heap.size W w' := fun W => by
            have h := placeOf_any kb W (by omega) (by omega)
            rwa [hq] at h
          have hfl : flB xs ka kb (c1, c2) = ov ((lkW xs (c1, c2) - lkS xs (c1, c2) * p % 101) % 101) ((q - p) % 101) := by unfold flB; rw [hp, hq]
          have hVe : flV xs ka kb (c1, c2) = rsV xs ka ((lkS xs (c1, c2) - flB xs ka kb (c1, c2)) % 101) := rfl
          have hOe : ∀ v : Int, rsV (xs.set ka v) kb (flB xs ka kb (c1, c2)) = flO xs ka kb (c1, c2) := fun v => by unfold rsV flO; rw [hgd]
          have hRA := fun (W : World) (hb : Below w.heap.size w W) (y : Int) (h0 : 0 ≤ y) (h1 : y ≤ 100) => raised_any A n c B ka xs y W (hr.below hb hB) (Nat.le_trans hB hb.size) hx hka h0 h1
          have hFR : ∀ v : Int, fillL xs ka kb (c1, c2) = fillL xs ka kb (c1, c2) := fun _ => rfl
          clear hp hq hfw ha hb hr hv hab hgd hFR
          generalize hSS : lkS xs (c1, c2) = s at *
          generalize hTT : lkW xs (c1, c2) = t at *
          have HL := hide hL
          have HT1 := hide fun (W : World) => times_any s p W hlr.1.1 hlr.1.2 hp0.1 hp0.2
          have hm1 : 0 ≤ s * p % 101 ∧ s * p % 101 ≤ 100 := by omega
          generalize s * p % 101 = m1 at *
          have HT2 := hide fun (W : World) => minus_any t m1 W hlr.2.1 hlr.2.2 hm1.1 hm1.2
          have hm2 : 0 ≤ (t - m1) % 101 ∧ (t - m1) % 101 ≤ 100 := by omega
          generalize (t - m1) % 101 = m2 at *
          have HT3 := hide fun (W : World) => minus_any q p W hq0.1 hq0.2 hp0.1 hp0.2
          have hm3 : 0 ≤ (q - p) % 101 ∧ (q - p) % 101 ≤ 100 := by omega
          generalize (q - p) % 101 = m3 at *
          have HT4 := hide fun (W : World) => over_any m2 m3 W hm2.1 hm2.2 hm3.1 hm3.2
          rw [← hfl] at HT4
          generalize flB xs ka kb (c1, c2) = v at *
          have HT5 := hide fun (W : World) => minus_any s v W hlr.1.1 hlr.1.2 hfr.1 hfr.2
          have hRA2 := fun (W : World) (hb : Below w.heap.size w W) => hRA W hb ((s - v) % 101) (by omega) (by omega)
          rw [← hVe] at hRA2
          generalize hVV : flV xs ka kb (c1, c2) = V at *
          generalize hOO : flO xs ka kb (c1, c2) = O at *
          have HFY := hide hFY
          have HFN := hide hFN
          have HW := hide hW
          have hRB : V ≤ 99 → ∀ (A3 : Option Addr) (c3 : Nat) (W : World), Ints W W.heap.size A3 n (xs.set ka V) → Calls Try.prog 47 #[.slice A3 n c3, .int .i64 kb, .agg #[.int .i64 v]] W (RsPost W (decide (O ≤ 99)) (if O ≤ 99 then (xs.set ka V).set kb O else [])) := fun hV A3 c3 W hi => by
            have h := raised_any A3 n c3 _ kb (xs.set ka V) v W hi (Nat.le_refl _) (hS0 V hflr.1.1 hV) hkb hfr.1 hfr.2
            rw [hOe] at h
            exact h
          have HPA := hide hPA
          have HPB := hide hPB
          have hfd := run_fieldM
          generalize (s - v) % 101 = y at *
          clear hx hc hL ha2 hb2 hkab hFY hFN hlr hfr hS0 hp0 hq0 hPA hPB hfl hVe hOe hRA hSS hTT hm1 hm2 hm3 hVV hOO hW hflr
          have HLEN := hide hlen
          clear hlen
          by_cases hV : V ≤ 99
          · simp only [if_pos hV, decide_eq_true hV] at hRA2
            have HRA := hide hRA2
            have hRB2 := hRB hV
            clear hRA2 hRB
            by_cases hO : O ≤ 99
            · simp only [if_pos hO, decide_eq_true hO] at hRB2
              have HRB := hide hRB2
              obtain ⟨hF1, hF2⟩ := HFY.out hV hO
              obtain ⟨e1, e3⟩ := fi_some HW.out (v := V.toNat) (by rw [Int.toNat_natCast, Int.toNat_natCast]; exact hF1)
              rw [Int.toNat_natCast, Int.toNat_natCast, hF2] at e3
              rw [e1, e3]
              clear hV hO hRB2 hF1 hF2 e1 e3
              go_enter Try.func27, Try.ntmps27
              go_wp2_with fail
              refine (HL.out _ HB0.out).mono ?_
              rintro e w2 ⟨rfl, hb2⟩
              have HK2 := hide ((HK0.out.step hb2).push 55 #[.int .i64 s, .int .i64 t])
              have HB2 := hide HK2.out.below
              clear hb2 HK0 HB0 HL
              go_wp2_with fail
              refine (HHA.out _).mono ?_
              rintro e w' ⟨rfl, rfl⟩
              go_wp2_with fail
              refine (HHB.out _).mono ?_
              rintro e w' ⟨rfl, rfl⟩
              obtain ⟨g1, hg1⟩ : ∃ g, w2.heap.size = g := ⟨_, rfl⟩
              rw [hg1] at HK2
              have HK2' := hide HK2.out.tl
              have HKL : Hid (Kp w (w2.alloc (.cells #[.int .i64 s, .int .i64 t] 55)) [(g1, 55, #[.int .i64 s, .int .i64 t])]) := HK2.out.sub (by intro x hx; simp only [List.mem_cons, List.not_mem_nil, or_false] at hx ⊢; exact .inl hx)
              clear HK2 HK2' HHA HHB
              go_wp2_with fail
              refine (HPA.out _).mono ?_
              rintro e w3 ⟨rfl, hb3⟩
              have HK3 := hide (HKL.out.step hb3)
              clear hb3 HKL
              go_wp2_with fail
              refine (HPB.out _).mono ?_
              rintro e w4 ⟨rfl, hb4⟩
              obtain ⟨g2, hg2⟩ : ∃ g, w4.heap.size = g := ⟨_, rfl⟩
              have HK4 := hide ((((HK3.out.step hb4).pushN g2 hg2 53 #[.int .i64 p]).pushN (g2 + 1) (by simp [hg2]) 53 #[.int .i64 q]))
              have HK5 : Hid (Kp w (((w4.alloc (.cells #[.int .i64 p] 53)).alloc (.cells #[.int .i64 q] 53)).drewN 1) (FL g1 g2 (g2 + 1) s t p q)) := HK4.out.drewN 1
              have HKD : Hid (Kp w ((w4.alloc (.cells #[.int .i64 p] 53)).alloc (.cells #[.int .i64 q] 53)).drew (FL g1 g2 (g2 + 1) s t p q)) := HK5
              clear hb4 HK3 HK4
              go_wp2_with fail
              generalize hW9 : (w4.alloc (.cells #[.int .i64 p] 53)).alloc (.cells #[.int .i64 q] 53) = w9 at HK5 HKD ⊢
              have HKE : Hid (KpN w (w9.alloc (.cells #[.int .i64 0] 53)).drew w9.heap.size 53 #[.int .i64 0] (FL g1 g2 (g2 + 1) s t p q)) := FL.al HKD 0
              clear hW9 hg1 hg2
              go_region_held3 (fun W => W.cell? ⟨g1, 0, none⟩ = some (.int .i64 s) ∧ W.cell? ⟨g1, 1, none⟩ = some (.int .i64 t) ∧ W.cell? ⟨g2, 0, none⟩ = some (.int .i64 p) ∧ W.cell? ⟨g2 + 1, 0, none⟩ = some (.int .i64 q))
                (first
                  | (with_reducible exact FL.c (Hid.out (by assumption)))
                  | (with_reducible exact FL.c (KpN.kp (Hid.out (FL.al (by assumption) 0))).tl)
                  | (with_reducible exact FL.c (KpN.kp (Hid.out (FL.al (by assumption) v))).tl)
                  | (with_reducible exact FL.c (KpN.kp (Hid.out (by assumption))).tl)
                  | (with_reducible exact FL.set (by assumption) _)
                  | (with_reducible exact FL.set (FL.al (by assumption) 0) _))
                ((first
                  | (go_at_call 52; (with_reducible refine (FL.call (by assumption) (HT1.out _)).mono ?_); rintro e w5 ⟨rfl, HK6⟩)
                  | (go_at_call 52; (with_reducible refine (FL.callN (FL.al (by assumption) 0) (HT1.out _)).mono ?_); rintro e w5 ⟨rfl, HK6, z0, z1⟩)
                  | (go_at_call 52; (with_reducible refine (FL.callN (by assumption) (HT1.out _)).mono ?_); rintro e w5 ⟨rfl, HK6, z0, z1⟩)
                  | (go_at_call 51; (with_reducible refine (FL.call (by assumption) (HT2.out _)).mono ?_); rintro e w5 ⟨rfl, HK6⟩)
                  | (go_at_call 51; (with_reducible refine (FL.callN (FL.al (by assumption) 0) (HT2.out _)).mono ?_); rintro e w5 ⟨rfl, HK6, z0, z1⟩)
                  | (go_at_call 51; (with_reducible refine (FL.callN (by assumption) (HT2.out _)).mono ?_); rintro e w5 ⟨rfl, HK6, z0, z1⟩)
                  | (go_at_call 51; (with_reducible refine (FL.call (by assumption) (HT3.out _)).mono ?_); rintro e w5 ⟨rfl, HK6⟩)
                  | (go_at_call 51; (with_reducible refine (FL.callN (FL.al (by assumption) 0) (HT3.out _)).mono ?_); rintro e w5 ⟨rfl, HK6, z0, z1⟩)
                  | (go_at_call 51; (with_reducible refine (FL.callN (by assumption) (HT3.out _)).mono ?_); rintro e w5 ⟨rfl, HK6, z0, z1⟩)
                  | (go_at_call 45; (with_reducible refine (FL.call (by assumption) (HT4.out _)).mono ?_); rintro e w5 ⟨rfl, HK6⟩)
                  | (go_at_call 45; (with_reducible refine (FL.callN (FL.al (by assumption) 0) (HT4.out _)).mono ?_); rintro e w5 ⟨rfl, HK6, z0, z1⟩)
                  | (go_at_call 45; (with_reducible refine (FL.callN (by assumption) (HT4.out _)).mono ?_); rintro e w5 ⟨rfl, HK6, z0, z1⟩)))
              all_goals
                first
                  | have HF := FL.putN HK6 v
                  | have HF := FL.al HK6 v
                have y0 := (FL.c HF.out.kp.tl).1
                have y1 := KpN.cell0 HF
                have HBF := hide HF.out.kp.below
                clear HK5 HKD HKE HT1 HT2 HT3 HT4
                go_wp2_with fail
                refine (HT5.out _).mono ?_
                rintro e w8 ⟨rfl, hb8⟩
                have HB8 := hide (HBF.out.trans (hb8.mono HBF.out.size))
                have HF8 := hide (HF.out.step hb8)
                have y2 := KpN.cell0 HF8
                clear HF
                clear hb8
                go_wp2_with fail
                refine (HRA.out _ HB8.out).mono ?_
                rintro e w6 ⟨A6, n6, c6, rfl, ho6, hb6⟩
                obtain rfl : n6 = n := by have h := ho6.1; rw [List.length_set, HLEN.out] at h; exact h.symm
                have HF6 := hide (HF8.out.step hb6)
                have y3 := KpN.cell0 HF6
                clear HF8 HF6
                have HO6 := hide ho6
                have HB6 := hide (HB8.out.trans (hb6.mono HB8.out.size))
                clear ho6 hb6
                go_wp2_with fail
                refine (HRB.out A6 c6 w6 HO6.out.ints).mono ?_
                rintro e w7 ⟨A7, n7, c7, rfl, ho7, hb7⟩
                have HO := hide (ho7.mono HB6.out.size)
                have HB7 := hide (HB6.out.trans (hb7.mono HB6.out.size))
                clear ho7 hb7
                go_wp2
                go_ret2
                exact ⟨_, _, _, rfl, HO.out, HB7.out⟩
            · simp only [if_neg hO, decide_eq_false hO] at hRB2
              have HRB := hide hRB2
              have hF1 := HFN.out (Or.inr (by omega))
              obtain ⟨e1, e3⟩ := fi_none HW.out (by rw [Int.toNat_natCast, Int.toNat_natCast]; exact hF1)
              rw [e1, e3]
              clear hV hO hRB2 hF1 e1 e3
              go_enter Try.func27, Try.ntmps27
              go_wp2_with fail
              refine (HL.out _ HB0.out).mono ?_
              rintro e w2 ⟨rfl, hb2⟩
              have HK2 := hide ((HK0.out.step hb2).push 55 #[.int .i64 s, .int .i64 t])
              have HB2 := hide HK2.out.below
              clear hb2 HK0 HB0 HL
              go_wp2_with fail
              refine (HHA.out _).mono ?_
              rintro e w' ⟨rfl, rfl⟩
              go_wp2_with fail
              refine (HHB.out _).mono ?_
              rintro e w' ⟨rfl, rfl⟩
              obtain ⟨g1, hg1⟩ : ∃ g, w2.heap.size = g := ⟨_, rfl⟩
              rw [hg1] at HK2
              have HK2' := hide HK2.out.tl
              have HKL : Hid (Kp w (w2.alloc (.cells #[.int .i64 s, .int .i64 t] 55)) [(g1, 55, #[.int .i64 s, .int .i64 t])]) := HK2.out.sub (by intro x hx; simp only [List.mem_cons, List.not_mem_nil, or_false] at hx ⊢; exact .inl hx)
              clear HK2 HK2' HHA HHB
              go_wp2_with fail
              refine (HPA.out _).mono ?_
              rintro e w3 ⟨rfl, hb3⟩
              have HK3 := hide (HKL.out.step hb3)
              clear hb3 HKL
              go_wp2_with fail
              refine (HPB.out _).mono ?_
              rintro e w4 ⟨rfl, hb4⟩
              obtain ⟨g2, hg2⟩ : ∃ g, w4.heap.size = g := ⟨_, rfl⟩
              have HK4 := hide ((((HK3.out.step hb4).pushN g2 hg2 53 #[.int .i64 p]).pushN (g2 + 1) (by simp [hg2]) 53 #[.int .i64 q]))
              have HK5 : Hid (Kp w (((w4.alloc (.cells #[.int .i64 p] 53)).alloc (.cells #[.int .i64 q] 53)).drewN 1) (FL g1 g2 (g2 + 1) s t p q)) := HK4.out.drewN 1
              have HKD : Hid (Kp w ((w4.alloc (.cells #[.int .i64 p] 53)).alloc (.cells #[.int .i64 q] 53)).drew (FL g1 g2 (g2 + 1) s t p q)) := HK5
              clear hb4 HK3 HK4
              go_wp2_with fail
              generalize hW9 : (w4.alloc (.cells #[.int .i64 p] 53)).alloc (.cells #[.int .i64 q] 53) = w9 at HK5 HKD ⊢
              have HKE : Hid (KpN w (w9.alloc (.cells #[.int .i64 0] 53)).drew w9.heap.size 53 #[.int .i64 0] (FL g1 g2 (g2 + 1) s t p q)) := FL.al HKD 0
              clear hW9 hg1 hg2
              go_region_held3 (fun W => W.cell? ⟨g1, 0, none⟩ = some (.int .i64 s) ∧ W.cell? ⟨g1, 1, none⟩ = some (.int .i64 t) ∧ W.cell? ⟨g2, 0, none⟩ = some (.int .i64 p) ∧ W.cell? ⟨g2 + 1, 0, none⟩ = some (.int .i64 q))
                (first
                  | (with_reducible exact FL.c (Hid.out (by assumption)))
                  | (with_reducible exact FL.c (KpN.kp (Hid.out (FL.al (by assumption) 0))).tl)
                  | (with_reducible exact FL.c (KpN.kp (Hid.out (FL.al (by assumption) v))).tl)
                  | (with_reducible exact FL.c (KpN.kp (Hid.out (by assumption))).tl)
                  | (with_reducible exact FL.set (by assumption) _)
                  | (with_reducible exact FL.set (FL.al (by assumption) 0) _))
                ((first
                  | (go_at_call 52; (with_reducible refine (FL.call (by assumption) (HT1.out _)).mono ?_); rintro e w5 ⟨rfl, HK6⟩)
                  | (go_at_call 52; (with_reducible refine (FL.callN (FL.al (by assumption) 0) (HT1.out _)).mono ?_); rintro e w5 ⟨rfl, HK6, z0, z1⟩)
                  | (go_at_call 52; (with_reducible refine (FL.callN (by assumption) (HT1.out _)).mono ?_); rintro e w5 ⟨rfl, HK6, z0, z1⟩)
                  | (go_at_call 51; (with_reducible refine (FL.call (by assumption) (HT2.out _)).mono ?_); rintro e w5 ⟨rfl, HK6⟩)
                  | (go_at_call 51; (with_reducible refine (FL.callN (FL.al (by assumption) 0) (HT2.out _)).mono ?_); rintro e w5 ⟨rfl, HK6, z0, z1⟩)
                  | (go_at_call 51; (with_reducible refine (FL.callN (by assumption) (HT2.out _)).mono ?_); rintro e w5 ⟨rfl, HK6, z0, z1⟩)
                  | (go_at_call 51; (with_reducible refine (FL.call (by assumption) (HT3.out _)).mono ?_); rintro e w5 ⟨rfl, HK6⟩)
                  | (go_at_call 51; (with_reducible refine (FL.callN (FL.al (by assumption) 0) (HT3.out _)).mono ?_); rintro e w5 ⟨rfl, HK6, z0, z1⟩)
                  | (go_at_call 51; (with_reducible refine (FL.callN (by assumption) (HT3.out _)).mono ?_); rintro e w5 ⟨rfl, HK6, z0, z1⟩)
                  | (go_at_call 45; (with_reducible refine (FL.call (by assumption) (HT4.out _)).mono ?_); rintro e w5 ⟨rfl, HK6⟩)
                  | (go_at_call 45; (with_reducible refine (FL.callN (FL.al (by assumption) 0) (HT4.out _)).mono ?_); rintro e w5 ⟨rfl, HK6, z0, z1⟩)
                  | (go_at_call 45; (with_reducible refine (FL.callN (by assumption) (HT4.out _)).mono ?_); rintro e w5 ⟨rfl, HK6, z0, z1⟩)))
              all_goals
                first
                  | have HF := FL.putN HK6 v
                  | have HF := FL.al HK6 v
                have y0 := (FL.c HF.out.kp.tl).1
                have y1 := KpN.cell0 HF
                have HBF := hide HF.out.kp.below
                clear HK5 HKD HKE HT1 HT2 HT3 HT4
                go_wp2_with fail
                refine (HT5.out _).mono ?_
                rintro e w8 ⟨rfl, hb8⟩
                have HB8 := hide (HBF.out.trans (hb8.mono HBF.out.size))
                have HF8 := hide (HF.out.step hb8)
                have y2 := KpN.cell0 HF8
                clear HF
                clear hb8
                go_wp2_with fail
                refine (HRA.out _ HB8.out).mono ?_
                rintro e w6 ⟨A6, n6, c6, rfl, ho6, hb6⟩
                obtain rfl : n6 = n := by have h := ho6.1; rw [List.length_set, HLEN.out] at h; exact h.symm
                have HF6 := hide (HF8.out.step hb6)
                have y3 := KpN.cell0 HF6
                clear HF8 HF6
                have HO6 := hide ho6
                have HB6 := hide (HB8.out.trans (hb6.mono HB8.out.size))
                clear ho6 hb6
                go_wp2_with fail
                refine (HRB.out A6 c6 w6 HO6.out.ints).mono ?_
                rintro e w7 ⟨A7, n7, c7, rfl, ho7, hb7⟩
                have HO := hide (ho7.mono HB6.out.size)
                have HB7 := hide (HB6.out.trans (hb7.mono HB6.out.size))
                clear ho7 hb7
                go_wp2
                go_ret2
                exact ⟨_, _, _, rfl, HO.out, HB7.out⟩
          · simp only [if_neg hV, decide_eq_false hV] at hRA2
            have HRA := hide hRA2
            have hF1 := HFN.out (Or.inl (by omega))
            obtain ⟨e1, e3⟩ := fi_none HW.out (by rw [Int.toNat_natCast, Int.toNat_natCast]; exact hF1)
            rw [e1, e3]
            clear hRA2 hRB hV hF1 e1 e3
            go_enter Try.func27, Try.ntmps27
            go_wp2_with fail
            refine (HL.out _ HB0.out).mono ?_
            rintro e w2 ⟨rfl, hb2⟩
            have HK2 := hide ((HK0.out.step hb2).push 55 #[.int .i64 s, .int .i64 t])
            have HB2 := hide HK2.out.below
            clear hb2 HK0 HB0 HL
            go_wp2_with fail
            refine (HHA.out _).mono ?_
            rintro e w' ⟨rfl, rfl⟩
            go_wp2_with fail
            refine (HHB.out _).mono ?_
            rintro e w' ⟨rfl, rfl⟩
            obtain ⟨g1, hg1⟩ : ∃ g, w2.heap.size = g := ⟨_, rfl⟩
            rw [hg1] at HK2
            have HK2' := hide HK2.out.tl
            have HKL : Hid (Kp w (w2.alloc (.cells #[.int .i64 s, .int .i64 t] 55)) [(g1, 55, #[.int .i64 s, .int .i64 t])]) := HK2.out.sub (by intro x hx; simp only [List.mem_cons, List.not_mem_nil, or_false] at hx ⊢; exact .inl hx)
            clear HK2 HK2' HHA HHB
            go_wp2_with fail
            refine (HPA.out _).mono ?_
            rintro e w3 ⟨rfl, hb3⟩
            have HK3 := hide (HKL.out.step hb3)
            clear hb3 HKL
            go_wp2_with fail
            refine (HPB.out _).mono ?_
            rintro e w4 ⟨rfl, hb4⟩
            obtain ⟨g2, hg2⟩ : ∃ g, w4.heap.size = g := ⟨_, rfl⟩
            have HK4 := hide ((((HK3.out.step hb4).pushN g2 hg2 53 #[.int .i64 p]).pushN (g2 + 1) (by simp [hg2]) 53 #[.int .i64 q]))
            have HK5 : Hid (Kp w (((w4.alloc (.cells #[.int .i64 p] 53)).alloc (.cells #[.int .i64 q] 53)).drewN 1) (FL g1 g2 (g2 + 1) s t p q)) := HK4.out.drewN 1
            have HKD : Hid (Kp w ((w4.alloc (.cells #[.int .i64 p] 53)).alloc (.cells #[.int .i64 q] 53)).drew (FL g1 g2 (g2 + 1) s t p q)) := HK5
            clear hb4 HK3 HK4
            go_wp2_with fail
            generalize hW9 : (w4.alloc (.cells #[.int .i64 p] 53)).alloc (.cells #[.int .i64 q] 53) = w9 at HK5 HKD ⊢
            have HKE : Hid (KpN w (w9.alloc (.cells #[.int .i64 0] 53)).drew w9.heap.size 53 #[.int .i64 0] (FL g1 g2 (g2 + 1) s t p q)) := FL.al HKD 0
            clear hW9 hg1 hg2
            go_region_held3 (fun W => W.cell? ⟨g1, 0, none⟩ = some (.int .i64 s) ∧ W.cell? ⟨g1, 1, none⟩ = some (.int .i64 t) ∧ W.cell? ⟨g2, 0, none⟩ = some (.int .i64 p) ∧ W.cell? ⟨g2 + 1, 0, none⟩ = some (.int .i64 q))
              (first
                | (with_reducible exact FL.c (Hid.out (by assumption)))
                | (with_reducible exact FL.c (KpN.kp (Hid.out (FL.al (by assumption) 0))).tl)
                | (with_reducible exact FL.c (KpN.kp (Hid.out (FL.al (by assumption) v))).tl)
                | (with_reducible exact FL.c (KpN.kp (Hid.out (by assumption))).tl)
                | (with_reducible exact FL.set (by assumption) _)
                | (with_reducible exact FL.set (FL.al (by assumption) 0) _))
              ((first
                | (go_at_call 52; (with_reducible refine (FL.call (by assumption) (HT1.out _)).mono ?_); rintro e w5 ⟨rfl, HK6⟩)
                | (go_at_call 52; (with_reducible refine (FL.callN (FL.al (by assumption) 0) (HT1.out _)).mono ?_); rintro e w5 ⟨rfl, HK6, z0, z1⟩)
                | (go_at_call 52; (with_reducible refine (FL.callN (by assumption) (HT1.out _)).mono ?_); rintro e w5 ⟨rfl, HK6, z0, z1⟩)
                | (go_at_call 51; (with_reducible refine (FL.call (by assumption) (HT2.out _)).mono ?_); rintro e w5 ⟨rfl, HK6⟩)
                | (go_at_call 51; (with_reducible refine (FL.callN (FL.al (by assumption) 0) (HT2.out _)).mono ?_); rintro e w5 ⟨rfl, HK6, z0, z1⟩)
                | (go_at_call 51; (with_reducible refine (FL.callN (by assumption) (HT2.out _)).mono ?_); rintro e w5 ⟨rfl, HK6, z0, z1⟩)
                | (go_at_call 51; (with_reducible refine (FL.call (by assumption) (HT3.out _)).mono ?_); rintro e w5 ⟨rfl, HK6⟩)
                | (go_at_call 51; (with_reducible refine (FL.callN (FL.al (by assumption) 0) (HT3.out _)).mono ?_); rintro e w5 ⟨rfl, HK6, z0, z1⟩)
                | (go_at_call 51; (with_reducible refine (FL.callN (by assumption) (HT3.out _)).mono ?_); rintro e w5 ⟨rfl, HK6, z0, z1⟩)
                | (go_at_call 45; (with_reducible refine (FL.call (by assumption) (HT4.out _)).mono ?_); rintro e w5 ⟨rfl, HK6⟩)
                | (go_at_call 45; (with_reducible refine (FL.callN (FL.al (by assumption) 0) (HT4.out _)).mono ?_); rintro e w5 ⟨rfl, HK6, z0, z1⟩)
                | (go_at_call 45; (with_reducible refine (FL.callN (by assumption) (HT4.out _)).mono ?_); rintro e w5 ⟨rfl, HK6, z0, z1⟩)))
            all_goals
              first
                | have HF := FL.putN HK6 v
                | have HF := FL.al HK6 v
              have y0 := (FL.c HF.out.kp.tl).1
              have y1 := KpN.cell0 HF
              have HBF := hide HF.out.kp.below
              clear HK5 HKD HKE HT1 HT2 HT3 HT4
              go_wp2_with fail
              refine (HT5.out _).mono ?_
              rintro e w8 ⟨rfl, hb8⟩
              have HB8 := hide (HBF.out.trans (hb8.mono HBF.out.size))
              clear hb8
              go_wp2_with fail
              refine (HRA.out _ HB8.out).mono ?_
              rintro e w6 ⟨A6, n6, c6, rfl, ho6, hb6⟩
              have HB6 := hide (HB8.out.trans (hb6.mono HB8.out.size))
              clear ho6 hb6
              go_wp2
              go_ret2
              exact ⟨_, _, _, rfl, Own.nil_ _ _, HB6.out⟩
end Go.Proofs.Ytldbcenipahkfaa
