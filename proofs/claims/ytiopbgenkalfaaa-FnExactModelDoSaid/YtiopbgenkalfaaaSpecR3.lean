/-
  The model's l42Next.
-/
import Derived.Test.YtiopbgenkalfaaaSpecR2
import Derived.Test.YtiopbgenkalfaaaSpecP
namespace Go.Proofs.Ytiopbgenkalfaaa
open Go.RowKit
set_option linter.unusedVariables false
set_option maxRecDepth 100000

/-- what a round of l42Next knows -/
structure NxS (w W : World) (B1 g : Nat) (cs : Array Value) (Ao : Option Addr) (n co : Nat) (xs ps : List Int) (k : Nat) (b : Bool) : Prop where
  kp : Kp w W [(g, 35, cs)]
  own : Own W B1 Ao n co (putP xs ps k)
  wr : k = 0 ∨ b = true
theorem NxS.step {w W W' : World} {B1 g n co k : Nat} {cs : Array Value} {Ao : Option Addr} {xs ps : List Int} {b : Bool} (h : NxS w W B1 g cs Ao n co xs ps k b) (hb : Below W.heap.size W W') : NxS w W' B1 g cs Ao n co xs ps k b :=
  ⟨h.kp.step hb, h.own.below hb, h.wr⟩

set_option maxHeartbeats 6400000 in
theorem specNext (q : Mq) (B : Nat) (w : World) (PA LA : Option Addr) (pn pc ln lc : Nat) (ps : List Int) (kd : Int) (dn : Bool) (h : MdI w B q) (hB : B ≤ w.heap.size) (hp : Ints w B PA (pn * 2) ps) (hpn : pn ≤ 1000000000) (hn : q.n ≤ 1000000000) :
    Calls Try.prog 39 #[.agg #[.slice q.A q.n q.c, .slice q.P q.m q.d], .agg #[.int .i64 kd, .slice PA pn pc, .slice LA ln lc], .bool dn] w
      fun e w' => ∃ A2 c2, e = .returned (.slice A2 q.n c2) ∧ Own w' w.heap.size A2 q.n c2 (nextV q.xs kd pn ps dn) ∧ Below w.heap.size w w' := by
  obtain ⟨A, n, c, P, m, d, xs, qs⟩ := q
  simp only at h hn ⊢
  have hlen := h.now.1
  have HK := hide (((Kp.refl w).push 27 #[.slice A n c, .slice P m d]).pushN (w.heap.size + 1) (by simp) 35 #[.int .i64 kd, .slice PA pn pc, .slice LA ln lc])
  have HN := hide ((h.now.alloc hB (.cells #[.slice A n c, .slice P m d] 27)).alloc (by simp; omega) (.cells #[.int .i64 kd, .slice PA pn pc, .slice LA ln lc] 35))
  have HP := hide ((hp.alloc hB (.cells #[.slice A n c, .slice P m d] 27)).alloc (by simp; omega) (.cells #[.int .i64 kd, .slice PA pn pc, .slice LA ln lc] 35))
  have HLEN := hide hlen
  have hs : ((w.alloc (.cells #[.slice A n c, .slice P m d] 27)).alloc (.cells #[.int .i64 kd, .slice PA pn pc, .slice LA ln lc] 35)).heap.size = w.heap.size + 2 := by simp
  clear h hp hlen
  go_enter Try.func39, Try.ntmps39
  go_upto_region 1 with (fail)
  generalize (w.alloc (.cells #[.slice A n c, .slice P m d] 27)).alloc (.cells #[.int .i64 kd, .slice PA pn pc, .slice LA ln lc] 35) = W at HK HN HP hs ⊢
  obtain ⟨⟨z0, z1⟩, _, _⟩ := ((HK.out.sub (L' := [(w.heap.size, 27, #[.slice A n c, .slice P m d])]) (by simp)).alloc (.cells #[] 3)).cells2
  have HK1 := hide (HK.out.sub (L' := [(w.heap.size + 1, 35, #[.int .i64 kd, .slice PA pn pc, .slice LA ln lc])]) (by simp))
  have HSZ := hide hs
  have hBW : B ≤ W.heap.size := by omega
  have hwW : w.heap.size ≤ W.heap.size := by omega
  clear HK hs
  obtain ⟨g, hg⟩ : ∃ g, w.heap.size + 1 = g := ⟨_, rfl⟩
  rw [hg] at HK1 ⊢
  have HG := hide hg
  clear hg
  have hgW : g < W.heap.size := HK1.out.lt
  go_wp2_with (at_builtin; refine wpList_append_ints rfl _ _ rfl W.heap.size 0 0 B n c _ _ [] xs rfl (Own.lit0 W _ (Nat.le_refl _)) rfl (HN.out.alloc hBW _) (by omega) (by simp) ?_; intro A5 c5 w5 ho5 hg5 hat5; clear hat5; simp only [Nat.zero_add, List.nil_append] at ho5 ⊢; have hb5 := below_app0 (Below.refl W.heap.size W) (Nat.le_refl _) hg5; have hs5 := hb5.size; have HP5 := hide (HP.out.below hb5 hBW); have HS0 : Hid (NxS w w5 W.heap.size g #[.int .i64 kd, .slice PA pn pc, .slice LA ln lc] A5 n c5 xs ps 0 (wrB xs kd pn ps dn)) := ⟨HK1.out.step hb5, ho5, .inl rfl⟩; clear ho5 hg5 hb5 HK1 HN HP z0 z1)
  go_loopw [8] (fun i wr => ∃ (k : Nat), k ≤ pn ∧ i = .int .i64 k ∧ Hid (NxS w wr W.heap.size g #[.int .i64 kd, .slice PA pn pc, .slice LA ln lc] A5 n c5 xs ps k (wrB xs kd pn ps dn)) ∧ Hid (Ints wr B PA (pn * 2) ps) ∧ W.heap.size ≤ wr.heap.size) (fun i _ => pn - (intOf i).toNat)
  case atStart => exact ⟨0, Nat.zero_le _, rfl, HS0, HP5, hs5⟩
  case round =>
    clear HS0 HP5 hs5
    obtain ⟨k, hk, rfl, HS, HP5, hs5⟩ := hrel
    obtain ⟨⟨z0, z1, z2⟩, f0, f1, f2⟩ := HS.out.kp.cells3
    by_cases hlt : k < pn
    · by_cases hk1 : kd = 1
      · subst hk1
        rcases dn with _ | _
        · have HE := hide (show Own wr W.heap.size A5 n c5 (nextV xs 1 pn ps false) by
            unfold nextV; rw [if_neg (by rw [wrB_no2]; simp)]
            rcases HS.out.wr with h | h
            · have := HS.out.own; rw [h] at this; exact this
            · rw [wrB_no2] at h; cases h)
          go_wp2
          go_ret
          exact ⟨_, _, rfl, HE.out.mono hwW, HS.out.kp.below⟩
        · by_cases h12 : n = 12
          · have HE12 := hide h12
            have h12' : ((n : Int) == 12) = true := by rw [h12]; rfl
            have HV := hide (l2P_any PA pn pc B ps wr HP5.out (by omega) hpn)
            have HWB := hide (wrB_eq (now := xs) (pn := pn) (ps := ps) (by rw [HLEN.out]; exact h12))
            rcases hv : validP ps pn with _ | _
            · have HE := hide (show Own wr W.heap.size A5 n c5 (nextV xs 1 pn ps true) by
                have hw : wrB xs 1 pn ps true = false := HWB.out.trans hv
                unfold nextV; rw [if_neg (by rw [hw]; simp)]
                rcases HS.out.wr with h | h
                · have := HS.out.own; rw [h] at this; exact this
                · rw [hw] at h; cases h)
              rw [hv] at HV
              clear hv h12
              go_wp2_with fail
              refine HV.out.mono ?_
              rintro e w6 ⟨rfl, hb6⟩
              have HS6 := hide (HS.out.step hb6)
              have HE6 := hide (HE.out.below hb6)
              clear hb6
              go_wp2
              go_ret
              exact ⟨_, _, rfl, HE6.out.mono hwW, HS6.out.kp.below⟩
            · have hw : wrB xs 1 pn ps true = true := HWB.out.trans hv
              have HWT := hide hw
              have hpa := pair_at hv hlt
              rw [hv] at HV
              clear hv h12
              go_wp2_with fail
              refine HV.out.mono ?_
              rintro e w6 ⟨rfl, hb6⟩
              have HS6 := hide (HS.out.step hb6)
              have hs6 := hb6.size
              have HP6 := hide (HP5.out.below hb6 (by omega))
              clear hb6 z0 z1 z2 f0 f1 f2 HS HP5 hw
              obtain ⟨⟨z0, z1, z2⟩, f0, f1, f2⟩ := HS6.out.kp.cells3
              obtain ⟨ad, p, rfl, hp, hpb, hc0, hc1⟩ := ints_at2 HP6.out hlt
              obtain ⟨x, hx⟩ : ∃ x, ps.getD (k * 2) 0 = x := ⟨_, rfl⟩
              obtain ⟨y, hy⟩ : ∃ y, ps.getD (k * 2 + 1) 0 = y := ⟨_, rfl⟩
              rw [hx] at hc0 hpa
              rw [hy] at hc1 hpa
              obtain ⟨J, rfl⟩ := Int.eq_ofNat_of_zero_le hpa.1
              have hJ : J < n := by have := HE12.out; omega
              obtain ⟨go, rfl, hgo0, hgo1⟩ := HS6.out.own.shape (by omega)
              have hcell := HS6.out.own.cell (g := go) (j := J) hJ
              have hfree := HS6.out.own.free (g := go) (j := J)
              have hst := HS6.out.own.stored (g := go) (j := J) y
              have hset : (putP xs ps k).set J y = putP xs ps (k + 1) := by rw [putP, hx, hy]; rfl
              rw [hset] at hst
              generalize (putP xs ps k).getD J 0 = yy at hcell
              have hbW : Below w.heap.size w6 (w6.setCell ⟨go, J, none⟩ (.int .i64 y)) := (Below.refl _ _).grown hst.2 (by have := HS6.out.kp.below.size; omega) (by intro b hb; injection hb with hb; omega)
              have hne : ∀ q ∈ [(g, (35 : TypeId), (#[.int .i64 1, .slice (some ad) pn pc, .slice LA ln lc] : Array Value))], q.1 ≠ go := by
                intro q hq
                simp only [List.mem_singleton] at hq
                subst hq
                show g ≠ go
                omega
              have HS7 : Hid (NxS w (w6.setCell ⟨go, J, none⟩ (.int .i64 y)).drew W.heap.size g #[.int .i64 1, .slice (some ad) pn pc, .slice LA ln lc] (some ⟨go, 0, none⟩) n c5 xs ps (k + 1) (wrB xs 1 pn ps true)) :=
                ⟨⟨fun q hq => ⟨((HS6.out.kp.blk q hq).1.far (p := ⟨go, J, none⟩) (hne q hq) (.int .i64 y)).drew, (HS6.out.kp.blk q hq).2⟩, below_drewN (HS6.out.kp.below.trans hbW) 1⟩, hst.1.drewN 1, .inr HWT.out⟩
              have HP7 : Hid (Ints (w6.setCell ⟨go, J, none⟩ (.int .i64 y)).drew B (some ad) (pn * 2) ps) := (HP6.out.grown hst.2 (by omega) (by intro b hb; injection hb with hb; omega)).drewN 1
              have hs7 : W.heap.size ≤ (w6.setCell ⟨go, J, none⟩ (.int .i64 y)).drew.heap.size := by (have := hst.2.size; show W.heap.size ≤ (w6.setCell ⟨go, J, none⟩ (.int .i64 y)).heap.size; omega)
              have HS7s := hide hs7
              have j0 : (0 : Int) ≤ (J : Int) := by omega
              have j1 : (J : Int) < (n : Int) := by omega
              clear hst hset hbW hne hx hy HS6 HP6 hs7 HWB HV
              go_wp2_with fail
              go_region
              all_goals
                go_wp2
                go_roundw
                case rel => exact ⟨k + 1, by omega, by go_num, HS7, HP7, HS7s.out⟩
                case measure => simp [intOf]; omega
          · have h12' : ((n : Int) == 12) = false := by simp; omega
            have HE := hide (show Own wr W.heap.size A5 n c5 (nextV xs 1 pn ps true) by
              have hw : wrB xs 1 pn ps true = false := wrB_no3 (by rw [HLEN.out]; exact h12)
              unfold nextV; rw [if_neg (by rw [hw]; simp)]
              rcases HS.out.wr with h | h
              · have := HS.out.own; rw [h] at this; exact this
              · rw [hw] at h; cases h)
            clear h12
            go_wp2
            go_ret
            exact ⟨_, _, rfl, HE.out.mono hwW, HS.out.kp.below⟩
      · have hk1' : (kd == 1) = false := by simpa using hk1
        have HE := hide (show Own wr W.heap.size A5 n c5 (nextV xs kd pn ps dn) by
          have hw : wrB xs kd pn ps dn = false := wrB_no1 hk1
          unfold nextV; rw [if_neg (by rw [hw]; simp)]
          rcases HS.out.wr with h | h
          · have := HS.out.own; rw [h] at this; exact this
          · rw [hw] at h; cases h)
        clear hk1
        go_wp2
        go_ret
        exact ⟨_, _, rfl, HE.out.mono hwW, HS.out.kp.below⟩
    · have HE := hide (show Own wr W.heap.size A5 n c5 (nextV xs kd pn ps dn) by
        obtain rfl : k = pn := by omega
        have ho := HS.out.own
        unfold nextV
        rcases hw : wrB xs kd k ps dn with _ | _
        · rw [if_neg (by simp)]
          rcases HS.out.wr with h | h
          · rw [h] at ho; exact ho
          · rw [hw] at h; cases h
        · rw [if_pos rfl]; exact ho)
      have hlt' : ¬ (k : Int) < (pn : Int) := by omega
      go_wp2
      go_ret
      exact ⟨_, _, rfl, HE.out.mono hwW, HS.out.kp.below⟩
end Go.Proofs.Ytiopbgenkalfaaa
