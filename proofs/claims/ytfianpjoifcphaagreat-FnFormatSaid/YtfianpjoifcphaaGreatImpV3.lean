/-
  slices.Equal of equal maps, the program's storeHas and mapFits, of a valid volume.
-/
import Derived.Test.YtfianpjoifcphaaGreatG6
import Derived.Test.YtfianpjoifcphaaGreatG3
import Derived.Test.YtfianpjoifcphaaGreatG5
import Derived.Test.YtfianpjoifcphaaGreatG7
import Derived.StillTailTactics
import Derived.Deep.RegionHeld3
namespace Go.Proofs.YtfianpjoifcphaaGreat
open Go.RowKit
set_option linter.unusedVariables false
set_option maxRecDepth 100000

set_option maxHeartbeats 3200000 in
theorem equalW_yes (A A' : Option Addr) (n c d B B' : Nat) (ms : List Wh) (w : World) (hx : MpI w B A n ms) (hy : MpI w B' A' n ms) (hn : n ≤ 1000000000) :
    Calls Tryz.prog 115 #[.slice A n c, .slice A' n d] w fun e w' => e = .returned (.bool true) ∧ ∃ q, w' = w.drewN q := by
  have HX := hide hx
  have HY := hide hy
  clear hx hy
  go_enter Tryz.func115, Tryz.ntmps115
  go_wp2
  go_loopw [13] (fun i wr => ∃ k q : Nat, k ≤ n ∧ i = .int .i64 k ∧ wr = w.drewN q) (fun i _ => n - (intOf i).toNat)
  case atStart => exact ⟨0, 0, Nat.zero_le _, rfl, rfl⟩
  case round =>
    obtain ⟨k, q, hk, rfl, rfl⟩ := hrel
    by_cases hlt : k < n
    · obtain ⟨x, hx⟩ : ∃ x, ms[k]? = some x := ⟨_, List.getElem?_eq_getElem (by rw [HX.out.1]; exact hlt)⟩
      obtain ⟨ad, p, rfl, hp, hb, h0, h1, h2, h3, h4⟩ := (HX.out.drewN q).at_ hx
      obtain ⟨ad', p', rfl, hp', hb', g0, g1, g2, g3, g4⟩ := (HY.out.drewN q).at_ hx
      clear hx
      obtain ⟨t, z, a, i, u⟩ := x
      dsimp only at h0 h1 h2 h3 h4 g0 g1 g2 g3 g4
      have k0 : (0 : Int) ≤ (k : Int) := by omega
      have k1 : (k : Int) < (n : Int) := by omega
      generalize hw : w.drewN q = wz at h0 h1 h2 h3 h4 g0 g1 g2 g3 g4 ⊢
      go_wp2_with fail
      go_quiet (fail)
      go_wp2
      go_roundw
      case rel => exact ⟨k + 1, _, by omega, by go_num, by rw [← hw]; exact World.drewN_drewN _ _ _⟩
      case measure => simp [intOf]; omega
    · obtain rfl : k = n := by omega
      go_wp2
      go_ret
      exact ⟨rfl, q, rfl⟩

theorem blkP_in {p : Int → Bool} {b : Int} : ∀ {n : Nat}, b ∈ blkP p n → ∃ j : Nat, b = (j : Int) ∧ j < n ∧ p (j : Int) = true
  | 0, h => by cases h
  | n + 1, h => by
    rw [blkP_succ] at h
    split at h
    · rcases List.mem_append.1 h with h | h
      · obtain ⟨j, e, hj, hp⟩ := blkP_in h
        exact ⟨j, e, by omega, hp⟩
      · have := List.mem_singleton.1 h
        exact ⟨n, this, by omega, ‹_›⟩
    · obtain ⟨j, e, hj, hp⟩ := blkP_in h
      exact ⟨j, e, by omega, hp⟩
theorem tier_mem {ms : List Wh} (hv : mpV ms = true) {t b : Int} (h : b ∈ tierM ms t) : ∃ (j : Nat) (x : Wh), b = (j : Int) ∧ j < 12 ∧ ms[j]? = some x ∧ x.1 = t := by
  unfold tierM at h
  rw [if_pos hv] at h
  obtain ⟨j, e, hj, hp⟩ := blkP_in h
  unfold inT at hp
  rw [Int.toNat_natCast] at hp
  rcases hx : ms[j]? with _ | x
  · rw [hx] at hp; cases hp
  · rw [hx] at hp
    exact ⟨j, x, e, hj, hx, by simpa using hp⟩
theorem whV_cold {x : Wh} (h : whV x = true) (e : x.1 = 2) : 1 ≤ x.2.2.2.1 ∧ x.2.2.2.1 ≤ 999 ∧ 0 ≤ x.2.2.2.2 ∧ x.2.2.2.2 ≤ 5 := by
  unfold whV at h
  rw [if_neg (by omega), if_neg (by omega), if_pos e] at h
  simp only [Bool.and_eq_true, inB_iff] at h
  omega

set_option maxHeartbeats 6400000 in
theorem implHas (A S : Option Addr) (n c sn sc B BS : Nat) (ms : List Wh) (t : List Oq) (w : World) (hm : MpI w B A n ms) (hB : B ≤ w.heap.size) (hn : n = 12) (hv : mpV ms = true) (ht : Objs w BS S sn t) (hBS : BS ≤ w.heap.size) (hsn : sn ≤ 6) (hc : coldV ms (obs t)) :
    Calls Tryz.prog 116 #[.slice S sn sc, .slice A n c] w fun e w' => e = .returned (.bool true) ∧ Below w.heap.size w w' := by
  subst hn
  have HM := hide hm
  have HT := hide ht
  have HC := hide hc
  have HMV := hide hv
  have HMT := hide (implMT A 12 c B ms 2 w hm hB (by omega))
  have HG := hide fun (W : World) (id ix : Int) (h : Below w.heap.size w W) => implGetO S sn sc BS id ix t W (ht.below h hBS) (Nat.le_trans hBS h.size) (by omega)
  clear hm ht hc hv
  go_enter Tryz.func116, Tryz.ntmps116
  go_wp2_with fail
  refine HMT.out.mono ?_
  rintro e w1 ⟨A2, m2, c2, rfl, ho1, hb1⟩
  have HO := hide ho1
  have HB1 := hide hb1
  clear ho1 hb1 HMT
  go_wp2_with fail
  go_loopw [12] (fun i wr => ∃ k : Nat, k ≤ m2 ∧ i = .int .i64 k ∧ Hid (Below w1.heap.size w1 wr)) (fun i _ => m2 - (intOf i).toNat)
  case atStart => exact ⟨0, Nat.zero_le _, rfl, Below.refl _ _⟩
  case round =>
    obtain ⟨k, hk, rfl, HB⟩ := hrel
    have hmx : m2 ≤ 9223372036854775807 := by have := HO.out.cap; unfold maxLen at this; omega
    by_cases hlt : k < m2
    · have hlen := HO.out.1
      obtain ⟨b, hb⟩ : ∃ b, (tierM ms 2)[k]? = some b := ⟨_, List.getElem?_eq_getElem (by omega)⟩
      obtain ⟨j, x, rfl, hj, hx, hx2⟩ := tier_mem HMV.out (List.mem_of_getElem? hb)
      have hcx := HC.out x (List.mem_of_getElem? hx) hx2
      obtain ⟨i0, i1, i2, i3⟩ := whV_cold ((mpV_iff.1 HMV.out).1 x (List.mem_of_getElem? hx)) hx2
      obtain ⟨ad, e1, hab, hc⟩ := (HO.out.ints.below HB.out (Nat.le_refl _)).at_ hlt
      rw [show (tierM ms 2).getD k 0 = (j : Int) by simp [List.getD, hb]] at hc
      have HBW := hide (HB1.out.trans (HB.out.mono HB1.out.size))
      obtain ⟨ad2, p, e2, hp, hpb, g0, g1, g2, g3, g4⟩ := (HM.out.below HBW.out hB).at_ hx
      subst e1
      subst e2
      have HGC := hide (hcx ▸ HG.out (wr.drewN 1) x.2.2.2.1 x.2.2.2.2 (below_drewN HBW.out 1) (by omega) (by omega))
      clear hb hx hx2 hcx hlen
      obtain ⟨xt, xz, xa, xi, xu⟩ := x
      dsimp only at g0 g1 g2 g3 g4 HGC
      have k0 : (0 : Int) ≤ (k : Int) := by omega
      have k1 : (k : Int) < (m2 : Int) := by omega
      have j0 : (0 : Int) ≤ (j : Int) := by omega
      have j1 : (j : Int) < ((12 : Nat) : Int) := by omega
      have j2 : (j : Int) < 12 := by omega
      clear i0 i1 i2 i3
      have hpw : p.block < wr.heap.size := by have := HBW.out.size; omega
      go_wp2_with fail
      go_region_held3 (fun W => W.cell? ⟨p.block, p.off + 3, none⟩ = some (.int .i64 xi) ∧ W.cell? ⟨p.block, p.off + 4, none⟩ = some (.int .i64 xu))
        (first
          | go_keep
          | (exact ⟨(hb3.cell (p := ⟨p.block, p.off + 3, none⟩) hpw).trans g3, (hb3.cell (p := ⟨p.block, p.off + 4, none⟩) hpw).trans g4⟩))
        ((first
          | (go_at_call 170; refine HGC.out.mono ?_; rintro e w3 ⟨rfl, hb3'⟩; have hb3 : Below wr.heap.size wr w3 := ⟨hb3'.os, hb3'.tape, hb3'.output, hb3'.size, hb3'.block⟩; clear hb3')))
      have HB3 := hide (HB.out.trans (hb3.mono HB.out.size))
      clear hb3
      go_wp2
      go_roundw
      case rel => exact ⟨k + 1, by omega, by go_num, HB3.out⟩
      case measure => simp [intOf]; omega
    · go_wp2
      go_ret
      exact ⟨rfl, HB1.out.trans (HB.out.mono HB1.out.size)⟩

set_option maxHeartbeats 6400000 in
theorem implMapFits (q : Vq) (B : Nat) (A : Option Addr) (n c BL : Nat) (qs : List Fq) (w : World) (hv : VolI w B q) (hB : B ≤ w.heap.size) (hf : Fits q) (hr : Fnds w BL A n qs) (hBL : BL ≤ w.heap.size) (hn : n ≤ 100000000) (hq : ∀ x ∈ qs, x.vals.length ≤ 1000000000) (hfs : fns qs = devF (zns q.dev)) :
    Calls Tryz.prog 52 #[q.val, .slice A n c] w fun e w' => e = .returned (.bool true) ∧ Below w.heap.size w w' := by
  obtain ⟨W0, hW0⟩ : ∃ W0, w.alloc (.cells (boxV q) 29) = W0 := ⟨_, rfl⟩
  have HV0 : Hid (VV w B q W0) := by rw [← hW0]; exact VV.start w B q hv hB
  have hw0 : Below w.heap.size w W0 := by rw [← hW0]; exact below_box w _
  have HSM := hide (implSM A n c BL qs W0 (hr.below hw0 hBL) (Nat.le_trans hBL hw0.size) hn hq)
  rw [hfs, show smap (devF (zns q.dev)) = some q.map from hf.ok.sm] at HSM
  have h12 := hf.m12
  have HEQ := hide fun (W : World) (A2 : Option Addr) (c2 B2 : Nat) (h : VV w B q W) (hm : MpI W B2 A2 12 q.map) => equalW_yes A2 q.mA 12 c2 q.mc B2 B q.map W hm (h12 ▸ h.vi.map) (by omega)
  have HHS := hide fun (W : World) (h : VV w B q W) => implHas q.mA q.sA 12 q.mc q.sn q.sc B B q.map q.sto W (h12 ▸ h.vi.map) (h.hB hB) rfl (smap_valid hf.ok.sm) h.vi.sto (h.hB hB) hf.s6 hf.ok.cd
  have HBB := hide hB
  have hm12 : q.map.length = 12 := map_len hf.ok
  have HM12 := hide hm12
  clear hf hv hr hq hfs hw0 hm12
  have HH12 := hide h12
  unfold boxV at hW0
  unfold Vq.val
  go_enter Tryz.func52, Tryz.ntmps52
  clear h12
  go_wp2_with fail
  refine HSM.out.mono ?_
  rintro e w1 ⟨A2, m2, c2, rfl, ho, hb1⟩
  have hm2 : m2 = 12 := ho.1.symm.trans HM12.out
  subst hm2
  have HO := hide ho.mpi
  have HV1 := hide (HV0.out.below hb1 HBB.out)
  clear ho hb1 HSM HV0 hW0
  obtain ⟨c0, c1, c2', c3, c4, c5⟩ := HV1.out.cells
  rw [HH12.out] at c2'
  go_wp2_with fail
  refine (HEQ.out _ A2 c2 _ HV1.out HO.out).mono ?_
  rintro e w2 ⟨rfl, z, hw2⟩
  have HV2 := hide (show VV w B q w2 by rw [hw2]; exact HV1.out.drewN z)
  clear hw2 HO HV1 c0 c1 c2' c3 c4 c5
  obtain ⟨c0, c1, c2', c3, c4, c5⟩ := HV2.out.cells
  rw [HH12.out] at c2'
  go_wp2_with fail
  refine (HHS.out _ HV2.out).mono ?_
  rintro e w3 ⟨rfl, hb3⟩
  have HV3 := hide (HV2.out.below hb3 HBB.out)
  clear hb3
  go_wp2
  go_ret
  exact ⟨rfl, HV3.out.bl⟩
end Go.Proofs.YtfianpjoifcphaaGreat
