/-
  The model's ModelDo.
-/
import Derived.Test.YtiopbgenkalfaaaSpecR3
import Derived.Test.YtiopbgenkalfaaaModG
import Derived.Deep.RegionLaw
namespace Go.Proofs.Ytiopbgenkalfaaa
open Go.RowKit
set_option linter.unusedVariables false
set_option maxRecDepth 100000

/-- the arguments and the two boxes -/
structure DoA (w W : World) (B : Nat) (q : Mq) (kd : Int) (PA LA : Option Addr) (pn pc ln lc : Nat) (ps : List Int) (A3 : Option Addr) (n3 : Nat) (af : List Int) : Prop where
  k0 : Blk W w.heap.size 27 #[.slice q.A q.n q.c, .slice q.P q.m q.d]
  k1 : Blk W (w.heap.size + 1) 35 #[.int .i64 kd, .slice PA pn pc, .slice LA ln lc]
  m : MdI W B q
  p : Ints W B PA (pn * 2) ps
  a : Ints W B A3 n3 af
  hB : B ≤ w.heap.size
section
variable {w W W' : World} {B pn pc ln lc n3 : Nat} {q : Mq} {kd : Int} {PA LA A3 : Option Addr} {ps af : List Int}
theorem DoA.step (h : DoA w W B q kd PA LA pn pc ln lc ps A3 n3 af) (hb : Below (w.heap.size + 2) W W') : DoA w W' B q kd PA LA pn pc ln lc ps A3 n3 af := by
  have := h.hB
  exact ⟨h.k0.below hb (by omega), h.k1.below hb (by omega), h.m.below hb (by omega), h.p.below hb (by omega), h.a.below hb (by omega), h.hB⟩
theorem DoA.cells0 (h : DoA w W B q kd PA LA pn pc ln lc ps A3 n3 af) : W.cell? ⟨w.heap.size, 0, none⟩ = some (.slice q.A q.n q.c) ∧ W.cell? ⟨w.heap.size, 1, none⟩ = some (.slice q.P q.m q.d) := ⟨by rw [h.k0.cell]; rfl, by rw [h.k0.cell]; rfl⟩
theorem DoA.cells1 (h : DoA w W B q kd PA LA pn pc ln lc ps A3 n3 af) : W.cell? ⟨w.heap.size + 1, 0, none⟩ = some (.int .i64 kd) ∧ W.cell? ⟨w.heap.size + 1, 1, none⟩ = some (.slice PA pn pc) ∧ W.cell? ⟨w.heap.size + 1, 2, none⟩ = some (.slice LA ln lc) := ⟨by rw [h.k1.cell]; rfl, by rw [h.k1.cell]; rfl, by rw [h.k1.cell]; rfl⟩
end
/-- the result is stored into its block -/
theorem heap_drewN_size (w : World) (n : Nat) : (w.drewN n).heap.size = w.heap.size := rfl
theorem done_box {w W W' : World} {g base : Nat} {q : Mq} {u v : Value} (hk : Kp w W [(g, 27, #[u, v])]) (hb : Below W.heap.size W W') (hm : OwnM W' base q) (hg : g < base) :
    Kp w ((W'.setCell ⟨g, 0, none⟩ (.slice q.A q.n q.c)).setCell ⟨g, 1, none⟩ (.slice q.P q.m q.d)) [(g, 27, #[.slice q.A q.n q.c, .slice q.P q.m q.d])] ∧
    OwnM ((W'.setCell ⟨g, 0, none⟩ (.slice q.A q.n q.c)).setCell ⟨g, 1, none⟩ (.slice q.P q.m q.d)) base q :=
  ⟨(hk.step hb).put2 (by simp) _ _, hm.old (grown2 _ _ _ _) hg⟩

set_option maxHeartbeats 6400000 in
theorem specDo (q : Mq) (B : Nat) (w : World) (PA LA A3 : Option Addr) (pn pc ln lc n3 c3 : Nat) (ps af : List Int) (kd : Int) (dn : Bool) (h : MdI w B q) (hB : B ≤ w.heap.size) (hp : Ints w B PA (pn * 2) ps) (ha : Ints w B A3 n3 af)
    (hpn : pn ≤ 1000000000) (hn : q.n ≤ 1000000000) (hn3 : n3 ≤ 1000000000) :
    Calls Try.prog 17 #[.agg #[.slice q.A q.n q.c, .slice q.P q.m q.d], .agg #[.int .i64 kd, .slice PA pn pc, .slice LA ln lc], .bool dn, .slice A3 n3 c3] w
      (MPost w (doV q.xs (vsN q.qs) kd pn ps dn af)) := by
  obtain ⟨W, hW⟩ : ∃ W, ((w.alloc (.cells #[.slice q.A q.n q.c, .slice q.P q.m q.d] 27)).alloc (.cells #[.int .i64 kd, .slice PA pn pc, .slice LA ln lc] 35)).alloc (.cells #[.slice none 0 0, .slice none 0 0] 27) = W := ⟨_, rfl⟩
  have hsz : W.heap.size = w.heap.size + 3 := by rw [← hW]; simp
  have HK := hide (show Kp w W [(w.heap.size + 2, 27, #[.slice none 0 0, .slice none 0 0]), (w.heap.size + 1, 35, #[.int .i64 kd, .slice PA pn pc, .slice LA ln lc]), (w.heap.size, 27, #[.slice q.A q.n q.c, .slice q.P q.m q.d])] by
    rw [← hW]
    exact (((Kp.refl w).push _ _).pushN _ (by simp) _ _).pushN _ (by simp) _ _)
  have HA := hide (show DoA w W B q kd PA LA pn pc ln lc ps A3 n3 af from
    have hb := HK.out.below
    ⟨(HK.out.blk (w.heap.size, 27, #[.slice q.A q.n q.c, .slice q.P q.m q.d]) (by simp)).1, (HK.out.blk (w.heap.size + 1, 35, #[.int .i64 kd, .slice PA pn pc, .slice LA ln lc]) (by simp)).1, h.below hb hB, hp.below hb hB, ha.below hb hB, hB⟩)
  have HR := hide (HK.out.sub (L' := [(w.heap.size + 2, 27, #[.slice none 0 0, .slice none 0 0])]) (by simp))
  have hqn : q.n ≤ maxLen := by unfold maxLen; omega
  have HVA := hide fun (W : World) (ha : Ints W B A3 n3 af) => specVals A3 n3 c3 B af W ha (by unfold maxLen; omega)
  have HVM := hide fun (W : World) (hm : MdI W B q) (hs : B ≤ W.heap.size) => specValid q B W hm hs
  have HNX := hide fun (W : World) (hm : MdI W B q) (hp : Ints W B PA (pn * 2) ps) (hs : B ≤ W.heap.size) => specNext q B W PA LA pn pc ln lc ps kd dn hm hs hp hpn hn
  have HMO := hide fun (W : World) (ha : Ints W B A3 n3 af) (hs : B ≤ W.heap.size) => specModel A3 n3 c3 B af W ha hs hn3
  clear h hp ha HK
  go_enter Try.func17, Try.ntmps17
  go_upto_region 1 with (fail)
  clear hW
  have HSZ := hide hsz
  have hB3 : B ≤ W.heap.size := by have := HA.out.hB; omega
  have hw3 : w.heap.size + 2 < W.heap.size := by omega
  clear hsz
  have HR0 : Hid (Kp w W [(w.heap.size + 1 + 1, 27, #[.slice none 0 0, .slice none 0 0])]) := HR
  generalize w.heap.size + 1 + 1 = G at HR0 ⊢
  clear HR
  have HR := HR0
  clear HR0
  have hGW : G < W.heap.size := HR.out.lt
  obtain ⟨z0, z1⟩ := HA.out.cells0
  go_wp2_with fail
  refine (HVM.out W HA.out.m hB3).mono ?_
  rintro e w1 ⟨rfl, hb1⟩
  have HA1 := hide (HA.out.step (hb1.mono (by omega)))
  have HR1 := hide (HR.out.step hb1)
  have hs1 := hb1.size
  clear hb1 HA HR z0 z1 HVM
  obtain ⟨⟨r0, r1⟩, f0, f1⟩ := HR1.out.cells2
  rcases hmv : modV q.xs (vsN q.qs) with _ | _
  · have HE := hide (doV_bad (kd := kd) (pn := pn) (ps := ps) (dn := dn) (after := af) (show (modV q.xs (vsN q.qs) && nowV af) = false by rw [hmv]; rfl))
    have HF := hide (HR1.out.put2 (by simp) (.slice none 0 0) (.slice none 0 0))
    clear hmv
    go_wp2
    obtain ⟨⟨q0, q1⟩, _, _⟩ := HF.out.cells2
    exact bodyPost_ret (v := .tuple #[.agg #[.slice none 0 0, .slice none 0 0], .bool false]) (by simp [results, Try.results17, go_sem, q0, q1]) rfl (MPost.no w HF.out.below HE.out)
  have HMV := hide hmv
  have hm61 : q.m ≤ 61 := by
    have := (modV_parts hmv).2.2.2.1
    rw [vsN_length, HA1.out.m.past.1] at this
    exact this
  clear hmv
  have HVA1 := hide (HVA.out w1 HA1.out.a)
  clear HVA
  rcases hav : nowV af with _ | _
  · have HE := hide (doV_bad (kd := kd) (pn := pn) (ps := ps) (dn := dn) (after := af) (show (modV q.xs (vsN q.qs) && nowV af) = false by rw [hav]; simp))
    have HF := hide (HR1.out.put2 (by simp) (.slice none 0 0) (.slice none 0 0))
    rw [hav] at HVA1
    clear hav
    go_wp2_with fail
    refine HVA1.out.mono ?_
    rintro e w' ⟨rfl, rfl⟩
    go_wp2
    obtain ⟨⟨q0, q1⟩, _, _⟩ := HF.out.cells2
    exact bodyPost_ret (v := .tuple #[.agg #[.slice none 0 0, .slice none 0 0], .bool false]) (by simp [results, Try.results17, go_sem, q0, q1]) rfl (MPost.no w HF.out.below HE.out)
  rw [hav] at HVA1
  have HOK := hide (show (modV q.xs (vsN q.qs) && nowV af) = true by rw [HMV.out, hav]; rfl)
  have HLA := hide (nowV_len hav)
  clear hav
  obtain ⟨e0, e1, e2⟩ := HA1.out.cells1
  go_wp2_with fail
  refine HVA1.out.mono ?_
  rintro e w' ⟨rfl, rfl⟩
  go_upto_region 3 with (fail)
  go_cut [29] from 24 to 29 (fun c wx => wx = w1 ∧ c = .bool (decide (kd = 10 ∧ dn = true)))
  case first =>
    by_cases hkd : kd = 10
    · have hkd' : (kd == 10) = true := by simpa using hkd
      rcases dn with _ | _
      · have HKD := hide (show decide (kd = 10 ∧ (false : Bool) = true) = false by simp)
        clear hkd
        go_wp2_with fail
        go_meet
        exact ⟨rfl, by rw [HKD.out]⟩
      · have HKD := hide (show decide (kd = 10 ∧ (true : Bool) = true) = true by simp [hkd])
        clear hkd
        go_wp2_with fail
        go_meet
        exact ⟨rfl, by rw [HKD.out]⟩
    · have hkd' : (kd == 10) = false := by simpa using hkd
      have HKD := hide (show decide (kd = 10 ∧ dn = true) = false by simp [hkd])
      clear hkd
      go_wp2_with fail
      go_meet
      exact ⟨rfl, by rw [HKD.out]⟩
  case rest =>
    obtain ⟨hwx, hcc⟩ := hcut
    rw [hwx, hcc]
    clear hwx hcc
    by_cases hc : kd = 10 ∧ dn = true
    · rw [decide_eq_true hc]
      obtain ⟨rfl, rfl⟩ := hc
      have HE0 := hide (doV_crash (now := q.xs) (past := vsN q.qs) (pn := pn) (ps := ps) HOK.out)
      go_wp2_with fail
      go_loopw [10] (fun i wr => ∃ k z : Nat, k ≤ q.m ∧ i = .int .i64 k ∧ wr = w1.drewN z ∧ Hid (af ∈ vsN q.qs ↔ af ∈ (vsN q.qs).drop k)) (fun i _ => q.m - (intOf i).toNat)
      case atStart => exact ⟨0, 0, Nat.zero_le _, rfl, rfl, Iff.rfl⟩
      case round =>
        obtain ⟨k, z, hk, rfl, rfl, HI⟩ := hrel
        obtain ⟨z0, z1⟩ := (HA1.out.step (W' := w1.drewN z) (below_drewN (Below.refl _ _) z)).cells0
        by_cases hlt : k < q.m
        · obtain ⟨p, hp⟩ : ∃ x, q.qs[k]? = some x := ⟨_, List.getElem?_eq_getElem (by rw [HA1.out.m.past.1]; exact hlt)⟩
          obtain ⟨hI, hpc, hcm, hpn'⟩ := HA1.out.m.past.row_ hp
          have HSA := hide (l42Same_any p.addr A3 p.ps.length p.cap n3 c3 B B p.ps af (w1.drewN z) (hI.drewN z) (HA1.out.a.drewN z) (by omega) (by unfold maxLen; omega))
          obtain ⟨ad, he, hb, hc⟩ := (HA1.out.m.past.drewN z).at_ hp
          have HD := hide (show (vsN q.qs).drop k = p.ps :: (vsN q.qs).drop (k + 1) from by
            have h2 := vsN_get hp
            have hl : k < (vsN q.qs).length := (List.getElem?_eq_some_iff.1 h2).1
            have e2 : (vsN q.qs)[k] = p.ps := (List.getElem?_eq_some_iff.1 h2).2
            rw [List.drop_eq_getElem_cons hl, e2])
          rw [he] at z1
          clear he hI hpn' hp
          obtain ⟨ps5, pa, pc5⟩ := p
          unfold Nq.sl at hc
          simp only at hc HSA HD hpc hcm
          by_cases heq : ps5 = af
          · have HE := hide (HE0.out.trans (if_pos (by rw [HI.out, HD.out, heq]; exact List.mem_cons_self ..)))
            rw [decide_eq_true heq] at HSA
            clear heq HI HD HE0
            go_wp2_with fail
            refine HSA.out.mono ?_
            rintro e w' ⟨rfl, z2, rfl⟩
            go_wp2_with fail
            refine (HMO.out (w1.drewN (z + z2)) (HA1.out.a.drewN (z + z2)) (by (simp only [heap_drewN_size]; omega))).mono ?_
            rintro e w5 ⟨q5, rfl, hm5, hx5, hq5, hb5⟩
            have HF2 := hide (done_box (HR1.out.drewN (z + z2)) hb5 hm5 (by (simp only [heap_drewN_size]; omega)))
            have HF := hide HF2.out.1
            have HM := hide HF2.out.2
            have HX5 := hide hx5
            have HQ5 := hide hq5
            obtain ⟨⟨t0, t1⟩, g0, g1⟩ := (Kp.step (HR1.out.drewN (z + z2)) hb5).cells2
            clear hm5 hx5 hq5 hb5 HF2
            unfold Mq.val
            go_wp2
            obtain ⟨⟨q0, q1⟩, _, _⟩ := HF.out.cells2
            exact bodyPost_ret (v := .tuple #[.agg #[.slice q5.A q5.n q5.c, .slice q5.P q5.m q5.d], .bool true]) (by simp [results, Try.results17, go_sem, q0, q1]) rfl ⟨q5, by rw [HE.out]; rfl, HM.out.mono (by (simp only [heap_drewN_size]; omega)), by rw [HE.out]; exact HX5.out, by rw [HE.out]; exact HQ5.out, HF.out.below⟩

          · have HI2 := hide (show af ∈ vsN q.qs ↔ af ∈ (vsN q.qs).drop (k + 1) from by
              rw [HI.out, HD.out, List.mem_cons]
              exact ⟨fun h => h.elim (fun e => absurd e.symm heq) id, .inr⟩)
            rw [decide_eq_false heq] at HSA
            clear heq HI HD
            go_wp2_with fail
            refine HSA.out.mono ?_
            rintro e w' ⟨rfl, z2, rfl⟩
            go_wp2
            go_roundw
            case rel => exact ⟨k + 1, z + z2, by omega, by go_num, rfl, HI2.out⟩
            case measure => simp [intOf]; omega
        · have HE := hide (HE0.out.trans (if_neg (by rw [HI.out, List.drop_of_length_le (by rw [vsN_length, HA1.out.m.past.1]; omega)]; exact List.not_mem_nil)))
          have HRZ := hide (HR1.out.drewN z)
          have hlt' : ¬ (k : Int) < (q.m : Int) := by omega
          obtain ⟨⟨r0, r1⟩, f0, f1⟩ := HRZ.out.cells2
          have HF := hide (HRZ.out.put2 (by simp) (.slice none 0 0) (.slice none 0 0))
          go_wp2
          obtain ⟨⟨q0, q1⟩, _, _⟩ := HF.out.cells2
          exact bodyPost_ret (v := .tuple #[.agg #[.slice none 0 0, .slice none 0 0], .bool false]) (by simp [results, Try.results17, go_sem, q0, q1]) rfl (MPost.no w HF.out.below HE.out)

    · rw [decide_eq_false hc]
      have HRV := hide (doV_else (now := q.xs) (past := vsN q.qs) (pn := pn) (ps := ps) (dn := dn) HOK.out hc)
      have HNX1 := hide (HNX.out w1 HA1.out.m HA1.out.p (by omega))
      have HNL := hide (nextV_length q.xs kd pn ps dn)
      obtain ⟨nx, hnx⟩ : ∃ v, nextV q.xs kd pn ps dn = v := ⟨_, rfl⟩
      rw [hnx] at HRV HNX1 HNL
      clear hnx hc HNX
      obtain ⟨z0, z1⟩ := HA1.out.cells0
      go_wp2_with fail
      refine HNX1.out.mono ?_
      rintro e w2 ⟨A2, c2, rfl, ho2, hb2⟩
      have HA2 := hide (HA1.out.step (hb2.mono (by omega)))
      have HR2 := hide (HR1.out.step hb2)
      have hs2 := hb2.size
      have HO2 := hide ho2
      have HSA := hide (l42Same_any A2 A3 q.n c2 n3 c3 w2.heap.size B nx af w2 ho2.ints HA2.out.a hqn (by unfold maxLen; omega))
      clear ho2 hb2 HA1 HR1 HNX1 z0 z1 e0 e1 e2 r0 r1 f0 f1
      obtain ⟨⟨r0, r1⟩, f0, f1⟩ := HR2.out.cells2
      by_cases heq : nx = af
      rotate_left
      · have HE := hide (HRV.out.trans (if_pos heq))
        rw [decide_eq_false heq] at HSA
        clear heq HRV
        go_wp2_with fail
        refine HSA.out.mono ?_
        rintro e w' ⟨rfl, z, rfl⟩
        have HR3 := hide (HR2.out.drewN z)
        clear r0 r1 f0 f1
        obtain ⟨⟨r0, r1⟩, f0, f1⟩ := HR3.out.cells2
        have HF := hide (HR3.out.put2 (by simp) (.slice none 0 0) (.slice none 0 0))
        go_wp2
        obtain ⟨⟨q0, q1⟩, _, _⟩ := HF.out.cells2
        exact bodyPost_ret (v := .tuple #[.agg #[.slice none 0 0, .slice none 0 0], .bool false]) (by simp [results, Try.results17, go_sem, q0, q1]) rfl (MPost.no w HF.out.below HE.out)

      rw [decide_eq_true heq] at HSA
      have HRV2 := hide (HRV.out.trans (if_neg (by simpa using heq)))
      have HEQ := hide heq
      clear heq HRV
      go_wp2_with fail
      refine HSA.out.mono ?_
      rintro e w3 ⟨rfl, hw3⟩
      have HA3 := hide (HA2.out.step (W' := w3) (by obtain ⟨z, rfl⟩ := hw3; exact below_drewN (Below.refl _ _) z))
      have HR3 := hide (HR2.out.step (W' := w3) (by obtain ⟨z, rfl⟩ := hw3; exact below_drewN (Below.refl _ _) z))
      have HO3 := hide (HO2.out.below (w' := w3) (by obtain ⟨z, rfl⟩ := hw3; exact below_drewN (Below.refl _ _) z))
      have hs3 : w2.heap.size = w3.heap.size := by obtain ⟨z, rfl⟩ := hw3; rfl
      rw [hs3] at hs2
      clear hw3 hs3 HA2 HR2 HO2 HSA r0 r1 f0 f1
      obtain ⟨e0, e1, e2⟩ := HA3.out.cells1
      obtain ⟨⟨r0, r1⟩, f0, f1⟩ := HR3.out.cells2
      go_upto_region 13 with (fail)
      go_cut [57] from 58 to 63 (fun c wx => wx = w3 ∧ c = .bool (decide (kd = 2 ∧ dn = true)))
      case first =>
        by_cases hkd : kd = 2
        · have hkd' : (kd == 2) = true := by simpa using hkd
          rcases dn with _ | _
          · have HKD := hide (show decide (kd = 2 ∧ (false : Bool) = true) = false by simp)
            clear hkd
            go_wp2_with fail
            go_meet
            exact ⟨rfl, by rw [HKD.out]⟩
          · have HKD := hide (show decide (kd = 2 ∧ (true : Bool) = true) = true by simp [hkd])
            clear hkd
            go_wp2_with fail
            go_meet
            exact ⟨rfl, by rw [HKD.out]⟩
        · have hkd' : (kd == 2) = false := by simpa using hkd
          have HKD := hide (show decide (kd = 2 ∧ dn = true) = false by simp [hkd])
          clear hkd
          go_wp2_with fail
          go_meet
          exact ⟨rfl, by rw [HKD.out]⟩
      case rest =>
        obtain ⟨hwx, hcc⟩ := hcut
        rw [hwx, hcc]
        clear hwx hcc
        by_cases h2 : kd = 2 ∧ dn = true
        · rw [decide_eq_true h2]
          have HE := hide (HRV2.out.trans (if_pos h2))
          clear h2
          clear HRV2
          go_wp2_with fail
          refine (HMO.out w3 HA3.out.a (by omega)).mono ?_
          rintro e w5 ⟨q5, rfl, hm5, hx5, hq5, hb5⟩
          have HF2 := hide (done_box HR3.out hb5 hm5 (by omega))
          have HF := hide HF2.out.1
          have HM := hide HF2.out.2
          have HX5 := hide hx5
          have HQ5 := hide hq5
          obtain ⟨⟨t0, t1⟩, g0, g1⟩ := (Kp.step HR3.out hb5).cells2
          clear hm5 hx5 hq5 hb5 HF2
          unfold Mq.val
          go_wp2
          obtain ⟨⟨q0, q1⟩, _, _⟩ := HF.out.cells2
          exact bodyPost_ret (v := .tuple #[.agg #[.slice q5.A q5.n q5.c, .slice q5.P q5.m q5.d], .bool true]) (by simp [results, Try.results17, go_sem, q0, q1]) rfl ⟨q5, by rw [HE.out]; rfl, HM.out.mono (by omega), by rw [HE.out]; exact HX5.out, by rw [HE.out]; exact HQ5.out, HF.out.below⟩
        · rw [decide_eq_false h2]
          have HC2 := hide h2
          clear h2
          have HE := hide (HRV2.out.trans (if_neg HC2.out))
          clear HRV2 HC2

          go_upto_region 16 with (fail)
          have hG2 : G ≠ w3.heap.size + 1 := by omega
          have HG0 := hide (show GrS w ((w3.alloc (.cells #[] 23)).alloc (.cells #[.slice A2 q.n c2, .slice (some ⟨w3.heap.size, 0, none⟩) 0 0] 27)) w1.heap.size (w3.heap.size + 1) [(G, 27, #[.slice none 0 0, .slice none 0 0])] ⟨A2, q.n, c2, some ⟨w3.heap.size, 0, none⟩, 0, 0, nx, []⟩ from
            { kp := (HR3.out.alloc _).pushN _ (by simp) _ _, own := ⟨(HO3.out.alloc _).alloc _, (OwnN.lit0 w3 _ hs2).alloc _, by simp⟩, le := by omega, bw := by (simp; omega), tl := by
                intro p hp
                simp only [List.mem_singleton] at hp
                subst hp
                exact ⟨(show (27 : TypeId) ≠ 23 by decide), hG2⟩ })
          have hb4 : Below w3.heap.size w3 ((w3.alloc (.cells #[] 23)).alloc (.cells #[.slice A2 q.n c2, .slice (some ⟨w3.heap.size, 0, none⟩) 0 0] 27)) := ((Below.refl _ _).alloc (Nat.le_refl _) _).alloc (by simp) _
          have HA4 := hide (HA3.out.step (hb4.mono (by omega)))
          have hs4 : w1.heap.size ≤ ((w3.alloc (.cells #[] 23)).alloc (.cells #[.slice A2 q.n c2, .slice (some ⟨w3.heap.size, 0, none⟩) 0 0] 27)).heap.size := by have := hb4.size; omega
          obtain ⟨go, hgo⟩ : ∃ go, w3.heap.size + 1 = go := ⟨_, rfl⟩
          rw [hgo] at HG0 hG2 ⊢
          obtain ⟨gp, hgp⟩ : ∃ gp, w3.heap.size = gp := ⟨_, rfl⟩
          have HGO := hide hgo
          have hgo2 : w.heap.size + 2 ≤ go := by omega
          rw [hgp] at HG0 HA4 hs4 ⊢
          clear hb4 HA3 HR3 HO3 hgo hgp e0 e1 e2 r0 r1 f0 f1
          generalize (w3.alloc (.cells #[] 23)).alloc (.cells #[.slice A2 q.n c2, .slice (some ⟨gp, 0, none⟩) 0 0] 27) = W4 at HG0 HA4 hs4 ⊢
          obtain ⟨z0, z1⟩ := HA4.out.cells0
          go_upto_region 17 with (fail)
          obtain ⟨F, hF, hF2⟩ : ∃ F : Nat, (if (60 : Int) < (q.m : Int) then (q.m : Int) - 60 else 0) = (F : Int) ∧ F = q.m - 60 := ⟨q.m - 60, by split <;> omega, rfl⟩
          rw [hF]
          have HFF := hide hF2
          have hFm : F ≤ q.m := by omega
          clear hF hF2 z0 z1
          go_wp2_with fail
          go_loopw [14] (fun i wr => ∃ (j d : Nat) (P : Option Addr) (rs : List Nq), F + j ≤ q.m ∧ i = .int .i64 ((F + j : Nat) : Int) ∧ Hid (GrS w wr w1.heap.size go [(G, 27, #[.slice none 0 0, .slice none 0 0])] ⟨A2, q.n, c2, P, j, d, nx, rs⟩) ∧ Hid (DoA w wr B q kd PA LA pn pc ln lc ps A3 n3 af) ∧ Hid (vsN rs = ((vsN q.qs).drop F).take j)) (fun i _ => q.m - (intOf i).toNat)
          case atStart => exact ⟨0, 0, _, [], by omega, rfl, HG0, HA4, rfl⟩
          case round =>
            clear HG0 HA4 hs4
            obtain ⟨j, d, P, rs, hj, rfl, HG, HA, HV⟩ := hrel
            obtain ⟨k, hk⟩ : ∃ k, F + j = k := ⟨_, rfl⟩
            rw [hk] at hj ⊢
            have HKK := hide hk
            have hjk : j ≤ 61 := by omega
            clear hk
            have hws : w1.heap.size ≤ wr.heap.size := HG.out.bw
            by_cases hlt : k < q.m
            · obtain ⟨p, hp⟩ : ∃ x, q.qs[k]? = some x := ⟨_, List.getElem?_eq_getElem (by rw [HA.out.m.past.1]; exact hlt)⟩
              obtain ⟨hI, hpc, hcm, hpn'⟩ := HA.out.m.past.row_ hp
              have HV2 := hide (show vsN rs ++ [p.ps] = ((vsN q.qs).drop F).take (j + 1) from by
                rw [List.take_add_one, HV.out, List.getElem?_drop, HKK.out, vsN_get hp]
                rfl)
              have hlp : p.ps.length ≤ 12 := by
                have h1 := (modV_parts HMV.out).1
                have h2 := List.all_eq_true.1 h1 _ (List.mem_of_getElem? (vsN_get hp))
                have := nowV_len h2
                omega
              obtain ⟨ad, he, hb, hc⟩ := HA.out.m.past.at_ hp
              obtain ⟨z0, z1⟩ := HA.out.cells0
              obtain ⟨⟨_, r1⟩, _, _⟩ := HG.out.cells
              have HAA := hide (HA.out.step (W' := wr.alloc (.cells #[] 3)) ((Below.refl _ _).alloc (by omega) _))
              obtain ⟨y0, y1⟩ := HAA.out.cells0
              obtain ⟨ad', he', _, hc'⟩ := HAA.out.m.past.at_ hp
              obtain ⟨⟨_, r2⟩, _, _⟩ := (HG.out.alloc (.cells #[] 3)).cells
              rw [he] at z1 y1 he'
              injection he' with he'
              subst he'
              have HI := hide ((HAA.out.m.past.row_ hp).1.drewN 1)
              have HO0 := hide ((Own.lit0 wr wr.heap.size (Nat.le_refl _)).drewN 1)
              have hnm : 0 + p.ps.length ≤ 17592186044416 := by omega
              have hbs : wr.heap.size ≤ ((wr.alloc (.cells #[] 3)).drewN 1).heap.size := by (simp only [heap_drewN_size]; simp)
              clear he hI hpn' hp z0 y0
              obtain ⟨ps5, pa, pc5⟩ := p
              unfold Nq.sl at hc hc'
              simp only at hc hc' HV2 HI hnm hpc hcm hlp
              have k0 : (0 : Int) ≤ (k : Int) := by omega
              have k1 : (k : Int) < (q.m : Int) := by omega
              have hj1 : j + 1 ≤ 100000000000 := by omega
              go_wp2_with fail
              go_region_law (first
                | (refine step_append_ints ?_ (.tmp 84) (.tmp 89) ?_ wr.heap.size 0 0 B ps5.length pc5 (some ⟨wr.heap.size, 0, none⟩) pa [] ps5 ?_ ?_ ?_ ?_ ?_ ?_ ?_; rfl; rfl; rfl; exact HO0.out; rfl; exact HI.out; exact hnm; exact hbs; intro A5 c5 w5 ho5 hg5 hat5
                   simp only [Nat.zero_add, List.nil_append] at ho5 ⊢
                   have HB5 := hide (below_app0 (Below.refl wr.heap.size wr) (Nat.le_refl _) (grown_undrew hg5))
                   have HO5 := hide ho5
                   have r5 := (HG.out.step HB5.out).cells.1.2
                   have r6 := ((HG.out.step HB5.out).alloc (.cells #[.slice A5 ps5.length c5] 23)).cells.1.2
                   have HNW := hide (HG.out.new ho5 HB5.out (Nat.le_refl _))
                   have hb6 : w1.heap.size ≤ (w5.alloc (.cells #[.slice A5 ps5.length c5] 23)).heap.size := by (have := HB5.out.size; simp; omega)
                   clear ho5 hg5 hat5)
                | (refine step_append_nts ?_ (.tmp 83) (.tmp 91) ?_ w1.heap.size j d 1 1 P (some ⟨w5.heap.size, 0, none⟩) rs [⟨ps5, A5, c5⟩] ?_ ?_ ?_ ?_ ?_ ?_; rfl; rfl; rfl; rfl; exact HNW.out; exact hj1; exact hb6; intro A6 c6 w6 ho6 hg6 hat6
                   obtain ⟨⟨s1, s2⟩, hgr⟩ := HG.out.app HO5.out HB5.out (Nat.le_refl _) ho6 hg6
                   have HGR : Hid (GrS w (w6.setCell ⟨go, 1, none⟩ (.slice A6 (j + 1) c6)) w1.heap.size go [(G, 27, #[.slice none 0 0, .slice none 0 0])] ⟨A2, q.n, c2, A6, j + 1, c6, nx, rs ++ [⟨ps5, A5, c5⟩]⟩) := hgr
                   have HBW := hide (HG.out.appb (B0 := w.heap.size + 2) HB5.out hg6 (by omega) hgo2 (.slice A6 (j + 1) c6))
                   clear hgr ho6 hg6 hat6))
              all_goals
                have HV3 := hide ((vsN_snoc rs ps5 A5 c5).trans HV2.out)
                have HA3 := hide (HA.out.step HBW.out)
                clear s1 s2 HBW r5 r6 hb6
                go_wp2
                go_roundw
                case rel => exact ⟨j + 1, c6, A6, _, by (have := HKK.out; omega), by (rw [← Nat.add_assoc, HKK.out]; go_num), HGR, HA3, HV3⟩
                case measure => simp [intOf]; omega
            · have hlt' : ¬ (k : Int) < (q.m : Int) := by omega
              have HVE := hide (show vsN rs ++ [nx] = (vsN q.qs).drop ((vsN q.qs).length - 60) ++ [af] from by
                have hl : (vsN q.qs).length = q.m := by rw [vsN_length, HA.out.m.past.1]
                have h1 := HKK.out
                have h2 := HFF.out
                rw [HV.out, HEQ.out, hl, ← h2, List.take_of_length_le (by rw [List.length_drop, hl]; omega)])
              obtain ⟨z0, z1⟩ := HA.out.cells0
              obtain ⟨⟨_, r1⟩, _, _⟩ := HG.out.cells
              obtain ⟨⟨_, r2⟩, _, _⟩ := (HG.out.alloc (.cells #[] 3)).cells
              have HI := hide ((HG.out.own.now.ints.alloc (Nat.le_refl _) (.cells #[] 3)).drewN 1)
              have HO0 := hide ((Own.lit0 wr wr.heap.size (Nat.le_refl _)).drewN 1)
              have hnm : 0 + q.n ≤ 17592186044416 := by omega
              have hbs : wr.heap.size ≤ ((wr.alloc (.cells #[] 3)).drewN 1).heap.size := by (simp only [heap_drewN_size]; simp)
              have hj1 : j + 1 ≤ 100000000000 := by omega
              simp only at HI r1 r2
              go_wp2_with fail
              go_region_law (first
                | (refine step_append_ints ?_ (.tmp 96) (.tmp 97) ?_ wr.heap.size 0 0 wr.heap.size q.n c2 (some ⟨wr.heap.size, 0, none⟩) A2 [] nx ?_ ?_ ?_ ?_ ?_ ?_ ?_; rfl; rfl; rfl; exact HO0.out; rfl; exact HI.out; exact hnm; exact hbs; intro A5 c5 w5 ho5 hg5 hat5
                   simp only [Nat.zero_add, List.nil_append] at ho5 ⊢
                   have HB5 := hide (below_app0 (Below.refl wr.heap.size wr) (Nat.le_refl _) (grown_undrew hg5))
                   have HO5 := hide ho5
                   have r5 := (HG.out.step HB5.out).cells.1.2
                   have r6 := ((HG.out.step HB5.out).alloc (.cells #[.slice A5 q.n c5] 23)).cells.1.2
                   have HNW := hide (HG.out.new ho5 HB5.out (Nat.le_refl _))
                   have hb6 : w1.heap.size ≤ (w5.alloc (.cells #[.slice A5 q.n c5] 23)).heap.size := by (have := HB5.out.size; simp; omega)
                   clear ho5 hg5 hat5)
                | (refine step_append_nts ?_ (.tmp 95) (.tmp 99) ?_ w1.heap.size j d 1 1 P (some ⟨w5.heap.size, 0, none⟩) rs [⟨nx, A5, c5⟩] ?_ ?_ ?_ ?_ ?_ ?_; rfl; rfl; rfl; rfl; exact HNW.out; exact hj1; exact hb6; intro A6 c6 w6 ho6 hg6 hat6
                   obtain ⟨⟨s1, s2⟩, hgr⟩ := HG.out.app HO5.out HB5.out (Nat.le_refl _) ho6 hg6
                   have HGR : Hid (GrS w (w6.setCell ⟨go, 1, none⟩ (.slice A6 (j + 1) c6)) w1.heap.size go [(G, 27, #[.slice none 0 0, .slice none 0 0])] ⟨A2, q.n, c2, A6, j + 1, c6, nx, rs ++ [⟨nx, A5, c5⟩]⟩) := hgr
                   have HBW := hide (HG.out.appb (B0 := w.heap.size + 2) HB5.out hg6 (by omega) hgo2 (.slice A6 (j + 1) c6))
                   clear hgr ho6 hg6 hat6))
              all_goals
                have HV3 := hide ((vsN_snoc rs nx A5 c5).trans HVE.out)
                clear s1 s2 HBW r5 r6 hb6 r1 r2 z0 z1
                obtain ⟨⟨t0, t1⟩, _, _⟩ := HGR.out.cells
                obtain ⟨⟨t2, t3⟩, t4, t5⟩ := HGR.out.kp.tl.cells2
                have HF2 := HGR.out.done
                have HF := hide HF2.1
                have HM := hide HF2.2
                clear HF2
                simp only at t0 t1
                generalize w6.setCell ⟨go, 1, none⟩ (.slice A6 (j + 1) c6) = W6 at t0 t1 t2 t3 t4 t5 HF HM ⊢
                go_wp2
                obtain ⟨⟨q0, q1⟩, _, _⟩ := HF.out.cells2
                exact bodyPost_ret (v := .tuple #[.agg #[.slice A2 q.n c2, .slice A6 (j + 1) c6], .bool true]) (by simp [results, Try.results17, go_sem, q0, q1]) rfl ⟨⟨A2, q.n, c2, A6, j + 1, c6, nx, rs ++ [⟨nx, A5, c5⟩]⟩, by rw [HE.out]; rfl, HM.out.mono (by omega), by rw [HE.out]; exact HEQ.out, by rw [HE.out]; exact HV3.out, HF.out.below⟩
end Go.Proofs.Ytiopbgenkalfaaa
