/-
  The program's grown.
-/
import Derived.Test.YtiopbgenkalfaaaImpR1
import Derived.Test.YtiopbgenkalfaaaModG
import Derived.Test.YtiopbgenkalfaaaClone
import Derived.Deep.DeepCutAuto
import Derived.Deep.CutBlock
import Derived.Deep.RegionLaw
namespace Go.Proofs.Ytiopbgenkalfaaa
open Go.RowKit
set_option linter.unusedVariables false
set_option maxRecDepth 100000

theorem drewN_size (w : World) (n : Nat) : (w.drewN n).heap.size = w.heap.size := rfl
/-- the argument in its box, and the result's box -/
structure GwA (w W : World) (B : Nat) (q : Mq) : Prop where
  k0 : Blk W w.heap.size 27 #[.slice q.A q.n q.c, .slice q.P q.m q.d]
  m : MdI W B q
  hB : B ≤ w.heap.size
theorem GwA.step {w W W' : World} {B : Nat} {q : Mq} (h : GwA w W B q) (hb : Below (w.heap.size + 1) W W') : GwA w W' B q := by
  have := h.hB
  exact ⟨h.k0.below hb (by omega), h.m.below hb (by omega), h.hB⟩
theorem GwA.cells {w W : World} {B : Nat} {q : Mq} (h : GwA w W B q) : W.cell? ⟨w.heap.size, 0, none⟩ = some (.slice q.A q.n q.c) ∧ W.cell? ⟨w.heap.size, 1, none⟩ = some (.slice q.P q.m q.d) := ⟨by rw [h.k0.cell]; rfl, by rw [h.k0.cell]; rfl⟩

set_option maxHeartbeats 6400000 in
theorem implGrown (q : Mq) (B : Nat) (w : World) (A3 : Option Addr) (n3 c3 : Nat) (af : List Int) (h : MdI w B q) (hB : B ≤ w.heap.size) (ha : Ints w B A3 n3 af) (hA3 : A3 = none → n3 = 0 ∧ c3 = 0) (hn3 : n3 ≤ 1000000000) (hV : modV q.xs (vsN q.qs) = true) :
    Calls Try.prog 44 #[.agg #[.slice q.A q.n q.c, .slice q.P q.m q.d], .slice A3 n3 c3] w
      fun e w' => ∃ q5 : Mq, e = .returned q5.val ∧ OwnM w' w.heap.size q5 ∧ q5.xs = af ∧ vsN q5.qs = (vsN q.qs).drop ((vsN q.qs).length - 60) ++ [af] ∧ Below w.heap.size w w' := by
  obtain ⟨W, hW⟩ : ∃ W, (w.alloc (.cells #[.slice q.A q.n q.c, .slice q.P q.m q.d] 27)).alloc (.cells #[.slice none 0 0, .slice none 0 0] 27) = W := ⟨_, rfl⟩
  have hsz : W.heap.size = w.heap.size + 2 := by rw [← hW]; simp
  have HK : Hid (Kp w W [(w.heap.size + 1, 27, #[.slice none 0 0, .slice none 0 0]), (w.heap.size, 27, #[.slice q.A q.n q.c, .slice q.P q.m q.d])]) := by
    rw [← hW]
    exact ((Kp.refl w).push _ _).pushN _ (by simp) _ _
  have HA := hide (show GwA w W B q from ⟨(HK.out.blk (w.heap.size, 27, #[.slice q.A q.n q.c, .slice q.P q.m q.d]) (by simp)).1, h.below HK.out.below hB, hB⟩)
  have HR := hide (HK.out.sub (L' := [(w.heap.size + 1, 27, #[.slice none 0 0, .slice none 0 0])]) (by simp))
  have hm61 : q.m ≤ 61 := by
    have := (modV_parts hV).2.2.2.1
    rw [vsN_length, h.past.1] at this
    exact this
  have hmd := h.md
  unfold maxLen at hmd
  have hB3 : B ≤ W.heap.size := by omega
  have hwW : w.heap.size + 2 ≤ W.heap.size := by omega
  have HCL := hide (clone_any A3 n3 c3 B af W (ha.below HK.out.below hB) hB3 (by omega) hA3)
  have HC2 := hide fun (W' : World) (hb : Below (w.heap.size + 1) W W') (hs : B ≤ W'.heap.size) => clone_any A3 n3 c3 B af W' ((ha.below HK.out.below hB).below hb (by omega)) hs (by omega) hA3
  have HVV := hide (modV_parts hV).1
  have HM1 := hide (show 1 ≤ q.m from by
    have := (modV_parts hV).2.2.1
    rw [vsN_length, h.past.1] at this
    exact this)
  clear h ha HK hsz hV
  obtain ⟨G, hG⟩ : ∃ G, w.heap.size + 1 = G := ⟨_, rfl⟩
  rw [hG] at HR
  go_enter Try.func44, Try.ntmps44
  go_upto_region 1 with (fail)
  have HGE := hide hG
  clear hG hW
  go_wp2_with fail
  refine HCL.out.mono ?_
  rintro e w5 ⟨A5, c5, rfl, ho5, hb5⟩
  have hs5 := hb5.size
  have hGW : G < W.heap.size := HR.out.lt
  have HG0 := hide (show GrS w (w5.alloc (.cells #[.slice A5 n3 c5, .slice none 0 0] 27)) W.heap.size w5.heap.size [(G, 27, #[.slice none 0 0, .slice none 0 0])] ⟨A5, n3, c5, none, 0, 0, af, []⟩ from
    { kp := (HR.out.step hb5).push _ _, own := ⟨ho5.alloc _, OwnN.nil_ _ _, by simp⟩, le := by omega, bw := by (simp; omega), tl := by
        intro p hp
        simp only [List.mem_singleton] at hp
        subst hp
        exact ⟨(show (27 : TypeId) ≠ 23 by decide), by show G ≠ w5.heap.size; omega⟩ })
  have hb6 : Below W.heap.size W (w5.alloc (.cells #[.slice A5 n3 c5, .slice none 0 0] 27)) := hb5.alloc hs5 _
  have HA6 := hide (HA.out.step (hb6.mono (by omega)))
  have HB6 := hide hb6
  have hs6 := hb6.size
  clear ho5 hb5 hb6 HR HA HCL
  go_upto_region 2 with (fail)
  obtain ⟨go, hgo⟩ : ∃ go, w5.heap.size = go := ⟨_, rfl⟩
  rw [hgo] at HG0 ⊢
  have hgo2 : w.heap.size + 1 ≤ go := by omega
  clear hgo
  generalize w5.alloc (.cells #[.slice A5 n3 c5, .slice none 0 0] 27) = W6 at HG0 HA6 HB6 hs6 ⊢
  obtain ⟨z0, z1⟩ := HA6.out.cells
  have HB0 := hide (HB6.out.mono (show w.heap.size + 1 ≤ W.heap.size by omega))
  have hl61 : (vsN q.qs).length = q.m := by rw [vsN_length, HA6.out.m.past.1]
  by_cases h60 : q.m ≤ 60
  · have HN := hide HA6.out.m.past
    have HDR := hide (show vsN q.qs = (vsN q.qs).drop ((vsN q.qs).length - 60) from by rw [hl61, show q.m - 60 = 0 from by omega]; rfl)
    have h60' : (q.m : Int) - 60 ≤ 0 := by omega
    clear hl61
    have hPq : q.m = 0 ∨ ∃ ad, q.P = some ad := by
      rcases Nat.eq_zero_or_pos q.m with h | h
      · exact .inl h
      · obtain ⟨ad, h2, _⟩ := HA6.out.m.past.2.1 h
        exact .inr ⟨ad, h2⟩
    have hm1 : 1 ≤ q.m := HM1.out
    obtain ⟨ad, hP⟩ : ∃ ad, q.P = some ad := hPq.elim (fun h => absurd h (by omega)) id
    rw [hP] at HN z1
    clear hPq hP
    obtain ⟨mm, hmm⟩ : ∃ mm, q.m = mm := ⟨_, rfl⟩
    rw [hmm] at HN z1 h60 h60' hm1
    have HMM := hide hmm
    have hdd : mm ≤ q.d := by omega
    clear hmm hmd hm61
    go_wp2_with fail
    go_loopw [20] (fun i wr => ∃ (j d : Nat) (P : Option Addr) (rs : List Nq), j ≤ mm ∧ i = .int .i64 j ∧ Hid (GrS w wr W.heap.size go [(G, 27, #[.slice none 0 0, .slice none 0 0])] ⟨A5, n3, c5, P, j, d, af, rs⟩) ∧ Hid (NyI wr B (some ad) mm (q.qs)) ∧ Hid (Below (w.heap.size + 1) W wr) ∧ Hid (vsN rs = (vsN (q.qs)).take j)) (fun i _ => mm - (intOf i).toNat)
    case atStart => exact ⟨0, 0, none, [], by omega, rfl, HG0, HN, HB0, rfl⟩
    case round =>
      clear HG0 HN HB0 hs6 z0 z1
      obtain ⟨j, d, P, rs, hj, rfl, HG, HN, HB, HV⟩ := hrel
      have hws : W.heap.size ≤ wr.heap.size := HG.out.bw
      have hj1 : j + 1 ≤ 100000000000 := by omega
      obtain ⟨⟨_, r1⟩, _, _⟩ := HG.out.cells
      by_cases hlt : j < mm
      · obtain ⟨p, hp⟩ : ∃ x, (q.qs)[j]? = some x := ⟨_, List.getElem?_eq_getElem (by rw [HN.out.1]; exact hlt)⟩
        obtain ⟨hI, hpc, hcm, hpn'⟩ := HN.out.row_ hp
        have HV2 := hide (show vsN rs ++ [p.ps] = (vsN (q.qs)).take (j + 1) from by
          rw [List.take_add_one, HV.out, vsN_get hp]
          rfl)
        have hlp : p.ps.length ≤ 12 := by
          have h2 := List.all_eq_true.1 HVV.out p.ps (List.mem_map_of_mem (id (List.mem_of_getElem? hp)))
          have := nowV_len h2
          omega
        have HCL := hide (clone_any p.addr p.ps.length p.cap B p.ps (wr.drewN 1) (hI.drewN 1) (by rw [drewN_size]; omega) (by omega) (fun e => by have := hpn' e; omega))
        obtain ⟨ad', he, hb, hc⟩ := HN.out.at_ hp
        injection he with he
        subst he
        clear hI hpn' hp hb
        obtain ⟨ps5, pa, pc5⟩ := p
        unfold Nq.sl at hc
        simp only at hc HV2 HCL hpc hcm hlp
        have k0 : (0 : Int) ≤ (j : Int) := by omega
        have k1 : (j : Int) < (mm : Nat) := by omega
        go_wp2_with fail
        go_region_law (first
          | (go_simp; go_at_call 34; refine HCL.out.mono ?_; rintro e w5 ⟨A8, c8, rfl, ho5, hb5'⟩
             have HB5 := hide (⟨hb5'.os, hb5'.tape, hb5'.output, hb5'.size, hb5'.block⟩ : Below wr.heap.size wr w5)
             have HO5 := hide ho5
             have r5 := (HG.out.step HB5.out).cells.1.2
             have r6 := ((HG.out.step HB5.out).alloc (.cells #[.slice A8 ps5.length c8] 23)).cells.1.2
             have HNW := hide (HG.out.new ho5 HB5.out (Nat.le_refl _))
             have hb6 : W.heap.size ≤ (w5.alloc (.cells #[.slice A8 ps5.length c8] 23)).heap.size := by (have := HB5.out.size; have := HG.out.bw; simp; omega)
             clear ho5 hb5')
          | (refine step_append_nts ?_ (.tmp 25) (.tmp 28) ?_ W.heap.size j d 1 1 P (some ⟨w5.heap.size, 0, none⟩) rs [⟨ps5, A8, c8⟩] ?_ ?_ ?_ ?_ ?_ ?_; rfl; rfl; rfl; rfl; exact HNW.out; exact hj1; exact hb6; intro A6 c6 w6 ho6 hg6 hat6
             obtain ⟨⟨s1, s2⟩, hgr⟩ := HG.out.app HO5.out HB5.out (Nat.le_refl _) ho6 hg6
             have HGR : Hid (GrS w (w6.setCell ⟨go, 1, none⟩ (.slice A6 (j + 1) c6)) W.heap.size go [(G, 27, #[.slice none 0 0, .slice none 0 0])] ⟨A5, n3, c5, A6, j + 1, c6, af, rs ++ [⟨ps5, A8, c8⟩]⟩) := hgr
             have HBW := hide (HG.out.appb (B0 := w.heap.size + 1) HB5.out hg6 (by omega) hgo2 (.slice A6 (j + 1) c6))
             clear hgr ho6 hg6 hat6))
        all_goals
          have HV3 := hide ((vsN_snoc rs ps5 A8 c8).trans HV2.out)
          have HN3 := hide (HN.out.below HBW.out (by omega))
          have HB3 := hide (HB.out.trans HBW.out)
          clear s1 s2 HBW r5 r6 hb6 r1 hc
          go_wp2
          go_roundw
          case rel => exact ⟨j + 1, c6, A6, _, by omega, by go_num, HGR, HN3, HB3, HV3⟩
          case measure => simp [intOf]; omega
      · have hlt' : ¬ (j : Int) < (mm : Nat) := by omega
        have HVE := hide (show vsN rs ++ [af] = (vsN q.qs).drop ((vsN q.qs).length - 60) ++ [af] from
          congrArg (· ++ [af]) (HV.out.trans ((List.take_of_length_le (by rw [vsN_length, HN.out.1]; omega)).trans HDR.out)))
        have HCL := hide (HC2.out (wr.drewN 1) (below_drewN HB.out 1) (by rw [drewN_size]; omega))
        go_wp2_with fail
        go_region_law (first
          | (go_simp; go_at_call 34; refine HCL.out.mono ?_; rintro e w5 ⟨A8, c8, rfl, ho5, hb5'⟩
             have HB5 := hide (⟨hb5'.os, hb5'.tape, hb5'.output, hb5'.size, hb5'.block⟩ : Below wr.heap.size wr w5)
             have HO5 := hide ho5
             have r5 := (HG.out.step HB5.out).cells.1.2
             have r6 := ((HG.out.step HB5.out).alloc (.cells #[.slice A8 n3 c8] 23)).cells.1.2
             have HNW := hide (HG.out.new ho5 HB5.out (Nat.le_refl _))
             have hb6 : W.heap.size ≤ (w5.alloc (.cells #[.slice A8 n3 c8] 23)).heap.size := by (have := HB5.out.size; have := HG.out.bw; simp; omega)
             clear ho5 hb5')
          | (refine step_append_nts ?_ (.tmp 33) (.tmp 36) ?_ W.heap.size j d 1 1 P (some ⟨w5.heap.size, 0, none⟩) rs [⟨af, A8, c8⟩] ?_ ?_ ?_ ?_ ?_ ?_; rfl; rfl; rfl; rfl; exact HNW.out; exact hj1; exact hb6; intro A6 c6 w6 ho6 hg6 hat6
             obtain ⟨⟨s1, s2⟩, hgr⟩ := HG.out.app HO5.out HB5.out (Nat.le_refl _) ho6 hg6
             have HGR : Hid (GrS w (w6.setCell ⟨go, 1, none⟩ (.slice A6 (j + 1) c6)) W.heap.size go [(G, 27, #[.slice none 0 0, .slice none 0 0])] ⟨A5, n3, c5, A6, j + 1, c6, af, rs ++ [⟨af, A8, c8⟩]⟩) := hgr
             have HBW := hide (HG.out.appb (B0 := w.heap.size + 1) HB5.out hg6 (by omega) hgo2 (.slice A6 (j + 1) c6))
             clear hgr ho6 hg6 hat6))
        all_goals
          have HV3 := hide ((vsN_snoc rs af A8 c8).trans HVE.out)
          clear s1 s2 HBW r5 r6 hb6 r1
          obtain ⟨⟨t0, t1⟩, _, _⟩ := HGR.out.cells
          obtain ⟨⟨t2, t3⟩, t4, t5⟩ := HGR.out.kp.tl.cells2
          have HF2 := HGR.out.done
          have HF := hide HF2.1
          have HM := hide HF2.2
          clear HF2
          simp only at t0 t1
          generalize w6.setCell ⟨go, 1, none⟩ (.slice A6 (j + 1) c6) = W7 at t0 t1 t2 t3 t4 t5 HF HM ⊢
          go_wp2
          obtain ⟨⟨q0, q1⟩, _, _⟩ := HF.out.cells2
          exact bodyPost_ret (v := .agg #[.slice A5 n3 c5, .slice A6 (j + 1) c6]) (by simp [results, Try.results44, go_sem, q0, q1]) rfl ⟨⟨A5, n3, c5, A6, j + 1, c6, af, rs ++ [⟨af, A8, c8⟩]⟩, rfl, HM.out.mono (by omega), rfl, HV3.out, HF.out.below⟩
  · have hm : q.m = 61 := by omega
    obtain ⟨ad, hP, hadB, _⟩ := HA6.out.m.past.2.1 (by omega)
    have HN : Hid (NyI W6 B (some ⟨ad.block, ad.off + 1, none⟩) 60 (q.qs.drop 1)) := by
      have h1 := HA6.out.m.past.cut (k := 1) (m := q.m) (cap := q.d) (by omega) (Nat.le_refl _) hmd.1
      rw [if_neg (by omega), hP, List.take_of_length_le (by rw [HA6.out.m.past.1]; exact Nat.le_refl _), hm] at h1
      exact h1
    have HDR := hide (show vsN (q.qs.drop 1) = (vsN q.qs).drop ((vsN q.qs).length - 60) from by rw [hl61, hm, vsN_drop])
    have h61 : (q.m : Int) - 60 = 1 := by omega
    have hd1 : ¬ q.d = 1 := by omega
    have hd2 : (1 : Int) ≤ (q.m : Int) := by omega
    have hd3 : (q.m : Int) ≤ (q.d : Int) := by omega
    clear hl61
    go_wp2_with fail
    clear h61 hd1 hd2 hd3 hm hP
    generalize (⟨ad.block, ad.off + 1, none⟩ : Addr) = ad1 at HN ⊢
    go_loopw [20] (fun i wr => ∃ (j d : Nat) (P : Option Addr) (rs : List Nq), j ≤ 60 ∧ i = .int .i64 j ∧ Hid (GrS w wr W.heap.size go [(G, 27, #[.slice none 0 0, .slice none 0 0])] ⟨A5, n3, c5, P, j, d, af, rs⟩) ∧ Hid (NyI wr B (some ad1) 60 (q.qs.drop 1)) ∧ Hid (Below (w.heap.size + 1) W wr) ∧ Hid (vsN rs = (vsN (q.qs.drop 1)).take j)) (fun i _ => 60 - (intOf i).toNat)
    case atStart => exact ⟨0, 0, none, [], by omega, rfl, HG0, HN, HB0, rfl⟩
    case round =>
      clear HG0 HN HB0 hs6 z0 z1
      obtain ⟨j, d, P, rs, hj, rfl, HG, HN, HB, HV⟩ := hrel
      have hws : W.heap.size ≤ wr.heap.size := HG.out.bw
      have hj1 : j + 1 ≤ 100000000000 := by omega
      obtain ⟨⟨_, r1⟩, _, _⟩ := HG.out.cells
      by_cases hlt : j < 60
      · obtain ⟨p, hp⟩ : ∃ x, (q.qs.drop 1)[j]? = some x := ⟨_, List.getElem?_eq_getElem (by rw [HN.out.1]; exact hlt)⟩
        obtain ⟨hI, hpc, hcm, hpn'⟩ := HN.out.row_ hp
        have HV2 := hide (show vsN rs ++ [p.ps] = (vsN (q.qs.drop 1)).take (j + 1) from by
          rw [List.take_add_one, HV.out, vsN_get hp]
          rfl)
        have hlp : p.ps.length ≤ 12 := by
          have h2 := List.all_eq_true.1 HVV.out p.ps (List.mem_map_of_mem (List.mem_of_mem_drop (List.mem_of_getElem? hp)))
          have := nowV_len h2
          omega
        have HCL := hide (clone_any p.addr p.ps.length p.cap B p.ps (wr.drewN 1) (hI.drewN 1) (by rw [drewN_size]; omega) (by omega) (fun e => by have := hpn' e; omega))
        obtain ⟨ad', he, hb, hc⟩ := HN.out.at_ hp
        injection he with he
        subst he
        clear hI hpn' hp hb
        obtain ⟨ps5, pa, pc5⟩ := p
        unfold Nq.sl at hc
        simp only at hc HV2 HCL hpc hcm hlp
        have k0 : (0 : Int) ≤ (j : Int) := by omega
        have k1 : (j : Int) < (60 : Nat) := by omega
        go_wp2_with fail
        go_region_law (first
          | (go_simp; go_at_call 34; refine HCL.out.mono ?_; rintro e w5 ⟨A8, c8, rfl, ho5, hb5'⟩
             have HB5 := hide (⟨hb5'.os, hb5'.tape, hb5'.output, hb5'.size, hb5'.block⟩ : Below wr.heap.size wr w5)
             have HO5 := hide ho5
             have r5 := (HG.out.step HB5.out).cells.1.2
             have r6 := ((HG.out.step HB5.out).alloc (.cells #[.slice A8 ps5.length c8] 23)).cells.1.2
             have HNW := hide (HG.out.new ho5 HB5.out (Nat.le_refl _))
             have hb6 : W.heap.size ≤ (w5.alloc (.cells #[.slice A8 ps5.length c8] 23)).heap.size := by (have := HB5.out.size; have := HG.out.bw; simp; omega)
             clear ho5 hb5')
          | (refine step_append_nts ?_ (.tmp 25) (.tmp 28) ?_ W.heap.size j d 1 1 P (some ⟨w5.heap.size, 0, none⟩) rs [⟨ps5, A8, c8⟩] ?_ ?_ ?_ ?_ ?_ ?_; rfl; rfl; rfl; rfl; exact HNW.out; exact hj1; exact hb6; intro A6 c6 w6 ho6 hg6 hat6
             obtain ⟨⟨s1, s2⟩, hgr⟩ := HG.out.app HO5.out HB5.out (Nat.le_refl _) ho6 hg6
             have HGR : Hid (GrS w (w6.setCell ⟨go, 1, none⟩ (.slice A6 (j + 1) c6)) W.heap.size go [(G, 27, #[.slice none 0 0, .slice none 0 0])] ⟨A5, n3, c5, A6, j + 1, c6, af, rs ++ [⟨ps5, A8, c8⟩]⟩) := hgr
             have HBW := hide (HG.out.appb (B0 := w.heap.size + 1) HB5.out hg6 (by omega) hgo2 (.slice A6 (j + 1) c6))
             clear hgr ho6 hg6 hat6))
        all_goals
          have HV3 := hide ((vsN_snoc rs ps5 A8 c8).trans HV2.out)
          have HN3 := hide (HN.out.below HBW.out (by omega))
          have HB3 := hide (HB.out.trans HBW.out)
          clear s1 s2 HBW r5 r6 hb6 r1 hc
          go_wp2
          go_roundw
          case rel => exact ⟨j + 1, c6, A6, _, by omega, by go_num, HGR, HN3, HB3, HV3⟩
          case measure => simp [intOf]; omega
      · have hlt' : ¬ (j : Int) < (60 : Nat) := by omega
        have HVE := hide (show vsN rs ++ [af] = (vsN q.qs).drop ((vsN q.qs).length - 60) ++ [af] from
          congrArg (· ++ [af]) (HV.out.trans ((List.take_of_length_le (by rw [vsN_length, HN.out.1]; omega)).trans HDR.out)))
        have HCL := hide (HC2.out (wr.drewN 1) (below_drewN HB.out 1) (by rw [drewN_size]; omega))
        go_wp2_with fail
        go_region_law (first
          | (go_simp; go_at_call 34; refine HCL.out.mono ?_; rintro e w5 ⟨A8, c8, rfl, ho5, hb5'⟩
             have HB5 := hide (⟨hb5'.os, hb5'.tape, hb5'.output, hb5'.size, hb5'.block⟩ : Below wr.heap.size wr w5)
             have HO5 := hide ho5
             have r5 := (HG.out.step HB5.out).cells.1.2
             have r6 := ((HG.out.step HB5.out).alloc (.cells #[.slice A8 n3 c8] 23)).cells.1.2
             have HNW := hide (HG.out.new ho5 HB5.out (Nat.le_refl _))
             have hb6 : W.heap.size ≤ (w5.alloc (.cells #[.slice A8 n3 c8] 23)).heap.size := by (have := HB5.out.size; have := HG.out.bw; simp; omega)
             clear ho5 hb5')
          | (refine step_append_nts ?_ (.tmp 33) (.tmp 36) ?_ W.heap.size j d 1 1 P (some ⟨w5.heap.size, 0, none⟩) rs [⟨af, A8, c8⟩] ?_ ?_ ?_ ?_ ?_ ?_; rfl; rfl; rfl; rfl; exact HNW.out; exact hj1; exact hb6; intro A6 c6 w6 ho6 hg6 hat6
             obtain ⟨⟨s1, s2⟩, hgr⟩ := HG.out.app HO5.out HB5.out (Nat.le_refl _) ho6 hg6
             have HGR : Hid (GrS w (w6.setCell ⟨go, 1, none⟩ (.slice A6 (j + 1) c6)) W.heap.size go [(G, 27, #[.slice none 0 0, .slice none 0 0])] ⟨A5, n3, c5, A6, j + 1, c6, af, rs ++ [⟨af, A8, c8⟩]⟩) := hgr
             have HBW := hide (HG.out.appb (B0 := w.heap.size + 1) HB5.out hg6 (by omega) hgo2 (.slice A6 (j + 1) c6))
             clear hgr ho6 hg6 hat6))
        all_goals
          have HV3 := hide ((vsN_snoc rs af A8 c8).trans HVE.out)
          clear s1 s2 HBW r5 r6 hb6 r1
          obtain ⟨⟨t0, t1⟩, _, _⟩ := HGR.out.cells
          obtain ⟨⟨t2, t3⟩, t4, t5⟩ := HGR.out.kp.tl.cells2
          have HF2 := HGR.out.done
          have HF := hide HF2.1
          have HM := hide HF2.2
          clear HF2
          simp only at t0 t1
          generalize w6.setCell ⟨go, 1, none⟩ (.slice A6 (j + 1) c6) = W7 at t0 t1 t2 t3 t4 t5 HF HM ⊢
          go_wp2
          obtain ⟨⟨q0, q1⟩, _, _⟩ := HF.out.cells2
          exact bodyPost_ret (v := .agg #[.slice A5 n3 c5, .slice A6 (j + 1) c6]) (by simp [results, Try.results44, go_sem, q0, q1]) rfl ⟨⟨A5, n3, c5, A6, j + 1, c6, af, rs ++ [⟨af, A8, c8⟩]⟩, rfl, HM.out.mono (by omega), rfl, HV3.out, HF.out.below⟩
end Go.Proofs.Ytiopbgenkalfaaa
