/-
  The program's written, allows.
-/
import Derived.Test.YtiopbgenkalfaaaImpR2
import Derived.Test.YtiopbgenkalfaaaImplP
import Derived.Test.YtiopbgenkalfaaaClone
import Derived.Deep.RegionHeld3
namespace Go.Proofs.Ytiopbgenkalfaaa
open Go.RowKit
set_option linter.unusedVariables false
set_option maxRecDepth 100000

/-- what a round of written knows -/
structure WrS (w W : World) (B1 g : Nat) (cs : Array Value) (Ao : Option Addr) (n co : Nat) (xs ps : List Int) (k : Nat) : Prop where
  kp : Kp w W [(g, 35, cs)]
  own : Own W B1 Ao n co (putP xs ps k)
theorem WrS.step {w W W' : World} {B1 g n co k : Nat} {cs : Array Value} {Ao : Option Addr} {xs ps : List Int} (h : WrS w W B1 g cs Ao n co xs ps k) (hb : Below W.heap.size W W') : WrS w W' B1 g cs Ao n co xs ps k :=
  ⟨h.kp.step hb, h.own.below hb⟩

set_option maxHeartbeats 6400000 in
theorem implWritten (q : Mq) (B : Nat) (w : World) (PA LA : Option Addr) (pn pc ln lc : Nat) (ps : List Int) (kd : Int) (dn : Bool) (h : MdI w B q) (hB : B ≤ w.heap.size) (hp : Ints w B PA (pn * 2) ps) (hpn : pn ≤ 1000000000) (h12 : q.n = 12) :
    Calls Try.prog 72 #[.agg #[.slice q.A q.n q.c, .slice q.P q.m q.d], .agg #[.int .i64 kd, .slice PA pn pc, .slice LA ln lc], .bool dn] w
      fun e w' => ∃ A2 c2, e = .returned (.slice A2 q.n c2) ∧ Own w' w.heap.size A2 q.n c2 (nextV q.xs kd pn ps dn) ∧ Below w.heap.size w w' := by
  obtain ⟨A, n, c, P, m, d, xs, qs⟩ := q
  simp only at h h12 ⊢
  have hlen := h.now.1
  obtain ⟨W, hW⟩ : ∃ W, (w.alloc (.cells #[.slice A n c, .slice P m d] 27)).alloc (.cells #[.int .i64 kd, .slice PA pn pc, .slice LA ln lc] 35) = W := ⟨_, rfl⟩
  have hsz : W.heap.size = w.heap.size + 2 := by rw [← hW]; simp
  have HK : Hid (Kp w W [(w.heap.size + 1, 35, #[.int .i64 kd, .slice PA pn pc, .slice LA ln lc]), (w.heap.size, 27, #[.slice A n c, .slice P m d])]) := by
    rw [← hW]
    exact ((Kp.refl w).push _ _).pushN _ (by simp) _ _
  have HN : Hid (Ints W B A n xs) := h.now.below HK.out.below hB
  have HP := hide (hp.below HK.out.below hB)
  have HWR := hide (show wrB xs kd pn ps dn = (decide (kd = 1) && dn && validP ps pn) from by
    unfold wrB
    rw [show decide (xs.length = 12) = true from decide_eq_true (hlen.trans h12), Bool.and_true])
  obtain ⟨⟨z0, z1⟩, _, _⟩ := HK.out.tl.cells2
  have HK1 := hide (HK.out.sub (L' := [(w.heap.size + 1, 35, #[.int .i64 kd, .slice PA pn pc, .slice LA ln lc])]) (by simp))
  have HCL := hide (clone_any A n c B xs W HN.out (by omega) (by omega) (fun e => by have h1 := h.nc.2.2 e; have h2 := h.nc.1; simp only at h1 h2; omega))
  have hBW : B ≤ W.heap.size := by omega
  have hwW : w.heap.size ≤ W.heap.size := by omega
  have HN12 := hide h12
  have hn12 : n ≤ 12 := by omega
  have HPV := hide fun (W : World) (hp : Ints W B PA (pn * 2) ps) (hB : B ≤ W.heap.size) => implPutP PA pn pc B ps W hp hB hpn
  clear h hp hlen HK HN hsz h12
  obtain ⟨g, hg⟩ : ∃ g, w.heap.size + 1 = g := ⟨_, rfl⟩
  have hgW : g < W.heap.size := by rw [← hg]; exact HK1.out.lt
  rw [hg] at HK1
  go_enter Try.func72, Try.ntmps72
  go_upto_region 1 with (fail)
  have HG := hide hg
  clear hW hg
  go_wp2_with fail
  refine HCL.out.mono ?_
  rintro e w5 ⟨A5, c5, rfl, ho5, hb5⟩
  have hs5 := hb5.size
  have HP5 := hide (HP.out.below hb5 hBW)
  have HS5 : Hid (WrS w w5 W.heap.size g #[.int .i64 kd, .slice PA pn pc, .slice LA ln lc] A5 n c5 xs ps 0) := ⟨HK1.out.step hb5, ho5⟩
  clear ho5 hb5 HK1 HP z0 z1 HCL
  obtain ⟨⟨z0, z1, z2⟩, f0, f1, f2⟩ := HS5.out.kp.cells3
  go_wp2_with fail
  refine (HPV.out w5 HP5.out (by omega)).mono ?_
  rintro e w6 ⟨A6, m6, c6, rfl, ho6, hb6⟩
  have hs6 := hb6.size
  have HP6 := hide (HP5.out.below hb6 (by omega))
  have HS6 := hide (HS5.out.step hb6)
  clear ho6 hb6 HS5 HP5 z0 z1 z2 f0 f1 f2 HPV
  obtain ⟨⟨z0, z1, z2⟩, f0, f1, f2⟩ := HS6.out.kp.cells3
  rcases hv : validP ps pn with _ | _
  · have HE := hide (show Own w6 W.heap.size A5 n c5 (nextV xs kd pn ps dn) from by
      unfold nextV
      rw [if_neg (by rw [HWR.out, hv]; simp)]
      exact HS6.out.own)
    clear hv
    go_wp2
    go_ret
    exact ⟨_, _, rfl, HE.out.mono hwW, HS6.out.kp.below⟩
  · have HV := hide hv
    clear hv
    rcases dn with _ | _
    · have HE := hide (show Own w6 W.heap.size A5 n c5 (nextV xs kd pn ps false) from by
        unfold nextV
        rw [if_neg (by rw [wrB_no2]; simp)]
        exact HS6.out.own)
      go_wp2
      go_ret
      exact ⟨_, _, rfl, HE.out.mono hwW, HS6.out.kp.below⟩
    · by_cases hk1 : kd = 1
      rotate_left
      · have HE := hide (show Own w6 W.heap.size A5 n c5 (nextV xs kd pn ps true) from by
          unfold nextV
          rw [if_neg (by rw [wrB_no1 hk1]; simp)]
          exact HS6.out.own)
        have hk1' : (kd == 1) = false := by simpa using hk1
        clear hk1
        go_wp2
        go_ret
        exact ⟨_, _, rfl, HE.out.mono hwW, HS6.out.kp.below⟩
      · have hk1' : (kd == 1) = true := by simpa using hk1
        have HNX := hide (show nextV xs kd pn ps true = putP xs ps pn from by
          unfold nextV
          rw [if_pos (by rw [HWR.out, HV.out, hk1]; rfl)])
        clear hk1
        go_wp2_with fail
        clear z0 z1 z2 f0 f1 f2
        go_loopw [33] (fun i wr => ∃ (k : Nat), k ≤ pn ∧ i = .int .i64 k ∧ Hid (WrS w wr W.heap.size g #[.int .i64 kd, .slice PA pn pc, .slice LA ln lc] A5 n c5 xs ps k) ∧ Hid (Ints wr B PA (pn * 2) ps) ∧ W.heap.size ≤ wr.heap.size) (fun i _ => pn - (intOf i).toNat)
        case atStart => exact ⟨0, Nat.zero_le _, rfl, HS6, HP6, by omega⟩
        case round =>
          clear HS6 HP6 hs5 hs6
          obtain ⟨k, hk, rfl, HS, HPR, hsr⟩ := hrel
          by_cases hlt : k < pn
          · have hpa := pair_at HV.out hlt
            obtain ⟨ad, p, rfl, hp, hpb, hc0, hc1⟩ := ints_at2 HPR.out hlt
            obtain ⟨x, hx⟩ : ∃ x, ps.getD (k * 2) 0 = x := ⟨_, rfl⟩
            obtain ⟨y, hy⟩ : ∃ y, ps.getD (k * 2 + 1) 0 = y := ⟨_, rfl⟩
            rw [hx] at hc0 hpa
            rw [hy] at hc1 hpa
            obtain ⟨J, rfl⟩ := Int.eq_ofNat_of_zero_le hpa.1
            have hJ : J < n := by have := HN12.out; omega
            have HS7 := hide (HS.out.step (W' := wr.alloc (.cells #[.int .i64 (J : Int), .int .i64 y] 42)) (below_new wr _))
            have HP7 := hide (HPR.out.alloc (by omega) (.cells #[.int .i64 (J : Int), .int .i64 y] 42))
            have hbk := Blk.new wr 42 #[.int .i64 (J : Int), .int .i64 y]
            have p0 : (wr.alloc (.cells #[.int .i64 (J : Int), .int .i64 y] 42)).cell? ⟨wr.heap.size, 0, none⟩ = some (.int .i64 (J : Int)) := by rw [hbk.cell]; rfl
            have p1 : (wr.alloc (.cells #[.int .i64 (J : Int), .int .i64 y] 42)).cell? ⟨wr.heap.size, 1, none⟩ = some (.int .i64 y) := by rw [hbk.cell]; rfl
            obtain ⟨go, rfl, hgo0, hgo1⟩ := HS7.out.own.shape (by omega)
            have hcell := HS7.out.own.cell (g := go) (j := J) hJ
            have hfree := HS7.out.own.free (g := go) (j := J)
            have hst := HS7.out.own.stored (g := go) (j := J) y
            have hset : (putP xs ps k).set J y = putP xs ps (k + 1) := by rw [putP, hx, hy]; rfl
            rw [hset] at hst
            generalize (putP xs ps k).getD J 0 = yy at hcell
            have hs7 : (wr.alloc (.cells #[.int .i64 (J : Int), .int .i64 y] 42)).heap.size = wr.heap.size + 1 := by simp
            have HS8 : Hid (WrS w ((wr.alloc (.cells #[.int .i64 (J : Int), .int .i64 y] 42)).setCell ⟨go, J, none⟩ (.int .i64 y)) W.heap.size g #[.int .i64 kd, .slice (some ad) pn pc, .slice LA ln lc] (some ⟨go, 0, none⟩) n c5 xs ps (k + 1)) := by
              refine ⟨⟨fun q hq => ?_, HS7.out.kp.below.grown hst.2 (by omega) (by intro b hb; injection hb with hb; omega)⟩, hst.1⟩
              have e : q.1 = g := by
                simp only [List.mem_singleton] at hq
                rw [hq]
              exact ⟨(HS7.out.kp.blk q hq).1.far (p := ⟨go, J, none⟩) (by rw [e]; show g ≠ go; omega) _, (HS7.out.kp.blk q hq).2⟩
            have HP8 := hide (HP7.out.grown hst.2 (by omega) (by intro b hb; injection hb with hb; omega))
            have hs8 : W.heap.size ≤ ((wr.alloc (.cells #[.int .i64 (J : Int), .int .i64 y] 42)).setCell ⟨go, J, none⟩ (.int .i64 y)).heap.size := by have := hst.2.size; omega
            have HS8s := hide hs8
            have j0 : (0 : Int) ≤ (J : Int) := by omega
            have j1 : (J : Int) < (n : Int) := by omega
            have k0 : (0 : Int) ≤ (k : Int) := by omega
            have k1 : (k : Int) < (pn : Int) := by omega
            clear hst hset hx hy HS7 HP7 hs7 hs8 hbk HS HPR
            go_wp2
            go_roundw
            case rel => exact ⟨k + 1, by omega, by go_num, HS8, HP8, HS8s.out⟩
            case measure => simp [intOf]; omega
          · have HE := hide (show Own wr W.heap.size A5 n c5 (nextV xs kd pn ps true) from by
              rw [HNX.out, show pn = k from by omega]
              exact HS.out.own)
            have hlt' : ¬ (k : Int) < (pn : Int) := by omega
            go_wp2
            go_ret
            exact ⟨_, _, rfl, HE.out.mono hwW, HS.out.kp.below⟩

/-- what allows answers -/
def allowB (now : List Int) (past : List (List Int)) (kd : Int) (pn : Nat) (ps : List Int) (dn : Bool) (af : List Int) : Bool := if kd = 10 ∧ dn = true then decide (af ∈ past) else decide (nextV now kd pn ps dn = af)
set_option maxHeartbeats 3200000 in
theorem implAllows (q : Mq) (B : Nat) (w : World) (PA LA A3 : Option Addr) (pn pc ln lc n3 c3 : Nat) (ps af : List Int) (kd : Int) (dn : Bool) (h : MdI w B q) (hB : B ≤ w.heap.size) (hp : Ints w B PA (pn * 2) ps) (ha : Ints w B A3 n3 af)
    (hpn : pn ≤ 1000000000) (h12 : q.n = 12) (hn3 : n3 ≤ 1000000000) :
    Calls Try.prog 43 #[.agg #[.slice q.A q.n q.c, .slice q.P q.m q.d], .agg #[.int .i64 kd, .slice PA pn pc, .slice LA ln lc], .bool dn, .slice A3 n3 c3] w
      fun e w' => e = .returned (.bool (allowB q.xs (vsN q.qs) kd pn ps dn af)) ∧ Below w.heap.size w w' := by
  obtain ⟨W, hW⟩ : ∃ W, ((w.alloc (.cells #[.slice q.A q.n q.c, .slice q.P q.m q.d] 27)).alloc (.cells #[.int .i64 kd, .slice PA pn pc, .slice LA ln lc] 35)).alloc (.cells #[.slice A3 n3 c3] 23) = W := ⟨_, rfl⟩
  have hsz : W.heap.size = w.heap.size + 3 := by rw [← hW]; simp
  have HK : Hid (Kp w W [(w.heap.size + 1 + 1, 23, #[.slice A3 n3 c3]), (w.heap.size + 1, 35, #[.int .i64 kd, .slice PA pn pc, .slice LA ln lc]), (w.heap.size, 27, #[.slice q.A q.n q.c, .slice q.P q.m q.d])]) := by
    rw [← hW]
    exact (((Kp.refl w).push _ _).pushN _ (by simp) _ _).pushN _ (by simp) _ _
  have HM := hide (h.below HK.out.below hB)
  have HP := hide (hp.below HK.out.below hB)
  have HA := hide (ha.below HK.out.below hB)
  have hBW : B ≤ W.heap.size := by omega
  have hwW : w.heap.size ≤ W.heap.size := by omega
  have y0 : W.cell? ⟨w.heap.size + 1 + 1, 0, none⟩ = some (.slice A3 n3 c3) := by rw [HK.out.hd.cell]; rfl
  obtain ⟨⟨e0, e1, e2⟩, _, _, _⟩ := HK.out.tl.cells3
  obtain ⟨⟨z0, z1⟩, _, _⟩ := HK.out.tl.tl.cells2
  have hd9 : q.m ≤ maxLen := by have := h.md; omega
  have HCO := hide (contains_any q.P A3 q.m q.d n3 c3 B (w.heap.size + 1 + 1) q.qs af W HM.out.past HA.out hd9 (by unfold maxLen; omega) y0)
  have HWR := hide fun (i : Nat) => implWritten q B (W.drewN i) PA LA pn pc ln lc ps kd dn (HM.out.drewN i) hBW (HP.out.drewN i) hpn h12
  have hq12' : q.n ≤ 12 := by omega
  clear h hp ha hsz h12
  by_cases hc : kd = 10 ∧ dn = true
  · obtain ⟨rfl, rfl⟩ := hc
    go_enter Try.func43, Try.ntmps43
    go_upto_region 1 with (fail)
    clear hW
    go_wp2_with fail
    refine HCO.out.mono ?_
    rintro e w1 ⟨rfl, z, rfl⟩
    go_wp2
    go_ret
    exact ⟨ret_bool (by unfold allowB; rw [if_pos ⟨rfl, rfl⟩]), below_drewN HK.out.below z⟩
  · have HE := hide (show allowB q.xs (vsN q.qs) kd pn ps dn af = decide (nextV q.xs kd pn ps dn = af) from if_neg hc)
    go_enter Try.func43, Try.ntmps43
    go_upto_region 1 with (fail)
    clear hW
    have HC := hide (show ∀ w1 : World, Below (W.drewN 1).heap.size (W.drewN 1) w1 → w1.cell? ⟨w.heap.size + 1 + 1, 0, none⟩ = some (.slice A3 n3 c3) ∧ w1.cell? ⟨w.heap.size, 0, none⟩ = some (.slice q.A q.n q.c) ∧ w1.cell? ⟨w.heap.size, 1, none⟩ = some (.slice q.P q.m q.d) ∧ w1.cell? ⟨w.heap.size + 1, 0, none⟩ = some (.int .i64 kd) ∧ w1.cell? ⟨w.heap.size + 1, 1, none⟩ = some (.slice PA pn pc) ∧ w1.cell? ⟨w.heap.size + 1, 2, none⟩ = some (.slice LA ln lc) from fun w1 hb => by
      have hk := (HK.out.drewN 1).step hb
      obtain ⟨⟨e0, e1, e2⟩, _, _, _⟩ := hk.tl.cells3
      obtain ⟨⟨z0, z1⟩, _, _⟩ := hk.tl.tl.cells2
      exact ⟨by rw [hk.hd.cell]; rfl, z0, z1, e0, e1, e2⟩)
    have HKB := hide HK.out.below
    have hq12 : q.n ≤ 12 := hq12'
    rcases h10 : (kd == 10) with _ | _
    · clear hc
      go_wp2_with fail
      go_region_held3 (fun W => W.cell? ⟨w.heap.size + 1 + 1, 0, none⟩ = some (.slice A3 n3 c3) ∧ W.cell? ⟨w.heap.size, 0, none⟩ = some (.slice q.A q.n q.c) ∧ W.cell? ⟨w.heap.size, 1, none⟩ = some (.slice q.P q.m q.d) ∧ W.cell? ⟨w.heap.size + 1, 0, none⟩ = some (.int .i64 kd) ∧ W.cell? ⟨w.heap.size + 1, 1, none⟩ = some (.slice PA pn pc) ∧ W.cell? ⟨w.heap.size + 1, 2, none⟩ = some (.slice LA ln lc))
        (first
          | (with_reducible exact HK1.out)
          | go_keep)
        ((first
          | (go_at_call 72; refine (HWR.out 1).mono ?_; rintro e w1 ⟨A2, c2, rfl, ho1, hb1⟩
             have HK1 := hide (HC.out w1 hb1)
             have HEQ := hide (equal_any A2 A3 q.n c2 n3 c3 w1.heap.size B _ af w1 ho1.ints ((HA.out.drewN 1).below hb1 hBW) (by unfold maxLen; omega) (by unfold maxLen; omega))
             have HB1 := hide (HKB.out.trans ((⟨hb1.os, hb1.tape, hb1.output, hb1.size, hb1.block⟩ : Below W.heap.size W w1).mono hwW))
             clear ho1 hb1)
          | (go_at_call 69; refine HEQ.out.mono ?_; rintro e w2 ⟨rfl, z, rfl⟩)))
      all_goals
        go_wp2
        go_ret
        exact ⟨ret_bool HE.out.symm, below_drewN HB1.out z⟩
    · rcases dn with _ | _
      rotate_left
      · exact absurd ⟨by simpa using h10, rfl⟩ hc
      · clear hc
        go_wp2_with fail
        go_region_held3 (fun W => W.cell? ⟨w.heap.size + 1 + 1, 0, none⟩ = some (.slice A3 n3 c3) ∧ W.cell? ⟨w.heap.size, 0, none⟩ = some (.slice q.A q.n q.c) ∧ W.cell? ⟨w.heap.size, 1, none⟩ = some (.slice q.P q.m q.d) ∧ W.cell? ⟨w.heap.size + 1, 0, none⟩ = some (.int .i64 kd) ∧ W.cell? ⟨w.heap.size + 1, 1, none⟩ = some (.slice PA pn pc) ∧ W.cell? ⟨w.heap.size + 1, 2, none⟩ = some (.slice LA ln lc))
          (first
            | (with_reducible exact HK1.out)
            | go_keep)
          ((first
            | (go_at_call 72; refine (HWR.out 1).mono ?_; rintro e w1 ⟨A2, c2, rfl, ho1, hb1⟩
               have HK1 := hide (HC.out w1 hb1)
               have HEQ := hide (equal_any A2 A3 q.n c2 n3 c3 w1.heap.size B _ af w1 ho1.ints ((HA.out.drewN 1).below hb1 hBW) (by unfold maxLen; omega) (by unfold maxLen; omega))
               have HB1 := hide (HKB.out.trans ((⟨hb1.os, hb1.tape, hb1.output, hb1.size, hb1.block⟩ : Below W.heap.size W w1).mono hwW))
               clear ho1 hb1)
            | (go_at_call 69; refine HEQ.out.mono ?_; rintro e w2 ⟨rfl, z, rfl⟩)))
        all_goals
          go_wp2
          go_ret
          exact ⟨ret_bool HE.out.symm, below_drewN HB1.out z⟩
end Go.Proofs.Ytiopbgenkalfaaa
