/-
  The program's ModelNew, ModelDo.
-/
import Derived.Test.YtiopbgenkalfaaaSpecR1
import Derived.Test.YtiopbgenkalfaaaImpR3
import Derived.Test.YtiopbgenkalfaaaImpR4
import Derived.Test.YtiopbgenkalfaaaImpR1
import Derived.Test.YtiopbgenkalfaaaClone
namespace Go.Proofs.Ytiopbgenkalfaaa
open Go.RowKit
set_option linter.unusedVariables false
set_option maxRecDepth 100000

set_option maxHeartbeats 1600000 in
theorem implNewM (A : Option Addr) (n c B : Nat) (xs : List Int) (w : World) (hr : Ints w B A n xs) (hB : B ≤ w.heap.size) (hn : n ≤ 1000000000) (hA : A = none → n = 0 ∧ c = 0) :
    Calls Try.prog 11 #[.slice A n c] w (MPost w (newR xs)) := by
  have HR := hide hr
  have HK0 := hide ((Kp.refl w).push 27 #[.slice none 0 0, .slice none 0 0])
  have HVA := hide fun (W : World) (h : Ints W B A n xs) => implFit A n c B xs W h (by unfold maxLen; omega)
  have HCL := hide fun (W : World) (h : Ints W B A n xs) (hB : B ≤ W.heap.size) => clone_any A n c B xs W h hB (by omega) hA
  clear hr hA
  go_enter Try.func11, Try.ntmps11
  go_upto_region 1 with (fail)
  obtain ⟨W1, hW1⟩ : ∃ W, w.alloc (.cells #[.slice none 0 0, .slice none 0 0] 27) = W := ⟨_, rfl⟩
  have hs1 : w.heap.size ≤ W1.heap.size := by rw [← hW1]; simp
  have HR1 := hide (show Ints W1 B A n xs by rw [← hW1]; exact HR.out.alloc hB _)
  rw [hW1] at HK0 ⊢
  clear hW1 HR
  go_wp2_with fail
  refine (HVA.out W1 HR1.out).mono ?_
  rintro e w' ⟨rfl, rfl⟩
  rcases hv : nowV xs with _ | _
  · have HE := hide (newR_no hv)
    clear hv
    obtain ⟨⟨z0, z1⟩, f0, f1⟩ := HK0.out.cells2
    have HK8 := hide (HK0.out.put2 (by simp) (.slice none 0 0) (.slice none 0 0))
    go_wp2
    obtain ⟨⟨q0, q1⟩, _, _⟩ := HK8.out.cells2
    exact bodyPost_ret (v := .tuple #[.agg #[.slice none 0 0, .slice none 0 0], .bool false]) (by simp [results, Try.results11, go_sem, q0, q1]) rfl (MPost.no w HK8.out.below HE.out)
  · have HE := hide (newR_yes hv)
    have hgl : w.heap.size < W1.heap.size := HK0.out.lt
    clear hv
    go_wp2_with fail
    refine (HCL.out W1 HR1.out (by omega)).mono ?_
    rintro e w5 ⟨A5, c5, rfl, ho5, hb5⟩
    have hs5 := hb5.size
    have HR5 := hide (HR1.out.below hb5 (by omega))
    have HK5 := hide (HK0.out.step hb5)
    have HO5 := hide ho5
    clear ho5 hb5 HR1 HK0
    go_wp2_with fail
    refine (HCL.out w5 HR5.out (by omega)).mono ?_
    rintro e w6 ⟨A6, c6, rfl, ho6, hb6⟩
    have hs6 := hb6.size
    have HK7 := hide ((HK5.out.step hb6).alloc (.cells #[.slice A6 n c6] 23))
    have HM0 := hide ((OwnM.single (HO5.out.below hb6) ho6 (fun g e => (HO5.out.block g e).2) hs5 hs6))
    clear ho6 hb6 HR5 HK5 HO5
    obtain ⟨⟨z0, z1⟩, f0, f1⟩ := HK7.out.cells2
    have HK8 := hide (HK7.out.put2 (by simp) (.slice A5 n c5) (.slice (some ⟨w6.heap.size, 0, none⟩) 1 1))
    have HM := hide (HM0.out.old (grown2 (w6.alloc (.cells #[.slice A6 n c6] 23)) w.heap.size (.slice A5 n c5) (.slice (some ⟨w6.heap.size, 0, none⟩) 1 1)) hgl)
    clear HM0 HK7
    go_wp2
    obtain ⟨⟨q0, q1⟩, _, _⟩ := HK8.out.cells2
    exact bodyPost_ret (v := .tuple #[.agg #[.slice A5 n c5, .slice (some ⟨w6.heap.size, 0, none⟩) 1 1], .bool true]) (by simp [results, Try.results11, go_sem, q0, q1]) rfl ⟨⟨A5, n, c5, _, 1, 1, xs, _⟩, by rw [HE.out]; rfl, HM.out.mono hs1, by rw [HE.out]; rfl, by rw [HE.out]; rfl, HK8.out.below⟩

theorem doV_allow {now after : List Int} {past : List (List Int)} {kd : Int} {pn : Nat} {ps : List Int} {dn : Bool} (h : (modV now past && nowV after) = true) :
    (allowB now past kd pn ps dn after = false → doV now past kd pn ps dn after = none) ∧
    (allowB now past kd pn ps dn after = true → dn = true ∧ (kd = 10 ∨ kd = 2) → doV now past kd pn ps dn after = some (after, [after])) ∧
    (allowB now past kd pn ps dn after = true → ¬ (dn = true ∧ (kd = 10 ∨ kd = 2)) → doV now past kd pn ps dn after = some (after, past.drop (past.length - 60) ++ [after])) := by
  by_cases hc : kd = 10 ∧ dn = true
  · obtain ⟨rfl, rfl⟩ := hc
    rw [doV_crash h]
    unfold allowB
    rw [if_pos ⟨rfl, rfl⟩]
    refine ⟨fun h1 => if_neg (of_decide_eq_false h1), fun h1 _ => if_pos (of_decide_eq_true h1), fun _ h2 => absurd ⟨rfl, .inl rfl⟩ h2⟩
  · rw [doV_else h hc]
    unfold allowB
    rw [if_neg hc]
    refine ⟨fun h1 => if_pos (of_decide_eq_false h1), fun h1 h2 => ?_, fun h1 h2 => ?_⟩
    · rw [if_neg (not_not_intro (of_decide_eq_true h1)), if_pos ⟨h2.2.elim (fun e => absurd ⟨e, h2.1⟩ hc) id, h2.1⟩]
    · rw [if_neg (not_not_intro (of_decide_eq_true h1)), if_neg (fun h3 => h2 ⟨h3.2, .inr h3.1⟩)]

/-- the arguments and the boxes -/
structure IoA (w W : World) (B : Nat) (q : Mq) (kd : Int) (PA LA : Option Addr) (pn pc ln lc : Nat) (ps : List Int) (A3 : Option Addr) (n3 : Nat) (af : List Int) : Prop where
  k0 : Blk W w.heap.size 27 #[.slice q.A q.n q.c, .slice q.P q.m q.d]
  k1 : Blk W (w.heap.size + 1) 35 #[.int .i64 kd, .slice PA pn pc, .slice LA ln lc]
  m : MdI W B q
  p : Ints W B PA (pn * 2) ps
  a : Ints W B A3 n3 af
  hB : B ≤ w.heap.size
section
variable {w W W' : World} {B pn pc ln lc n3 : Nat} {q : Mq} {kd : Int} {PA LA A3 : Option Addr} {ps af : List Int}
theorem IoA.step (h : IoA w W B q kd PA LA pn pc ln lc ps A3 n3 af) (hb : Below (w.heap.size + 2) W W') : IoA w W' B q kd PA LA pn pc ln lc ps A3 n3 af := by
  have := h.hB
  exact ⟨h.k0.below hb (by omega), h.k1.below hb (by omega), h.m.below hb (by omega), h.p.below hb (by omega), h.a.below hb (by omega), h.hB⟩
theorem IoA.cells0 (h : IoA w W B q kd PA LA pn pc ln lc ps A3 n3 af) : W.cell? ⟨w.heap.size, 0, none⟩ = some (.slice q.A q.n q.c) ∧ W.cell? ⟨w.heap.size, 1, none⟩ = some (.slice q.P q.m q.d) := ⟨by rw [h.k0.cell]; rfl, by rw [h.k0.cell]; rfl⟩
theorem IoA.cells1 (h : IoA w W B q kd PA LA pn pc ln lc ps A3 n3 af) : W.cell? ⟨w.heap.size + 1, 0, none⟩ = some (.int .i64 kd) ∧ W.cell? ⟨w.heap.size + 1, 1, none⟩ = some (.slice PA pn pc) ∧ W.cell? ⟨w.heap.size + 1, 2, none⟩ = some (.slice LA ln lc) := ⟨by rw [h.k1.cell]; rfl, by rw [h.k1.cell]; rfl, by rw [h.k1.cell]; rfl⟩
end
theorem stored_box {w W W' : World} {g base : Nat} {q : Mq} {u v : Value} (hk : Kp w W [(g, 27, #[u, v])]) (hb : Below W.heap.size W W') (hm : OwnM W' base q) (hg : g < base) :
    Kp w ((W'.setCell ⟨g, 0, none⟩ (.slice q.A q.n q.c)).setCell ⟨g, 1, none⟩ (.slice q.P q.m q.d)) [(g, 27, #[.slice q.A q.n q.c, .slice q.P q.m q.d])] ∧
    OwnM ((W'.setCell ⟨g, 0, none⟩ (.slice q.A q.n q.c)).setCell ⟨g, 1, none⟩ (.slice q.P q.m q.d)) base q :=
  ⟨(hk.step hb).put2 (by simp) _ _, hm.old (grown2 _ _ _ _) hg⟩

set_option maxHeartbeats 6400000 in
theorem implDo (q : Mq) (B : Nat) (w : World) (PA LA A3 : Option Addr) (pn pc ln lc n3 c3 : Nat) (ps af : List Int) (kd : Int) (dn : Bool) (h : MdI w B q) (hB : B ≤ w.heap.size) (hp : Ints w B PA (pn * 2) ps) (ha : Ints w B A3 n3 af)
    (hA3 : A3 = none → n3 = 0 ∧ c3 = 0) (hpn : pn ≤ 1000000000) (hn3 : n3 ≤ 1000000000) :
    Calls Try.prog 16 #[.agg #[.slice q.A q.n q.c, .slice q.P q.m q.d], .agg #[.int .i64 kd, .slice PA pn pc, .slice LA ln lc], .bool dn, .slice A3 n3 c3] w
      (MPost w (doV q.xs (vsN q.qs) kd pn ps dn af)) := by
  obtain ⟨W, hW⟩ : ∃ W, ((w.alloc (.cells #[.slice q.A q.n q.c, .slice q.P q.m q.d] 27)).alloc (.cells #[.int .i64 kd, .slice PA pn pc, .slice LA ln lc] 35)).alloc (.cells #[.slice none 0 0, .slice none 0 0] 27) = W := ⟨_, rfl⟩
  have hsz : W.heap.size = w.heap.size + 3 := by rw [← hW]; simp
  have HK := hide (show Kp w W [(w.heap.size + 1 + 1, 27, #[.slice none 0 0, .slice none 0 0]), (w.heap.size + 1, 35, #[.int .i64 kd, .slice PA pn pc, .slice LA ln lc]), (w.heap.size, 27, #[.slice q.A q.n q.c, .slice q.P q.m q.d])] by
    rw [← hW]
    exact (((Kp.refl w).push _ _).pushN _ (by simp) _ _).pushN _ (by simp) _ _)
  have HA := hide (show IoA w W B q kd PA LA pn pc ln lc ps A3 n3 af from
    have hb := HK.out.below
    ⟨(HK.out.blk (w.heap.size, 27, #[.slice q.A q.n q.c, .slice q.P q.m q.d]) (by simp)).1, (HK.out.blk (w.heap.size + 1, 35, #[.int .i64 kd, .slice PA pn pc, .slice LA ln lc]) (by simp)).1, h.below hb hB, hp.below hb hB, ha.below hb hB, hB⟩)
  have HR := hide (HK.out.sub (L' := [(w.heap.size + 1 + 1, 27, #[.slice none 0 0, .slice none 0 0])]) (by simp))
  have HVA := hide fun (W : World) (ha : Ints W B A3 n3 af) => implFit A3 n3 c3 B af W ha (by unfold maxLen; omega)
  have HVM := hide fun (W : World) (hm : MdI W B q) (hs : B ≤ W.heap.size) => implFits q B W hm hs
  have HAL := hide fun (W : World) (hm : MdI W B q) (hp : Ints W B PA (pn * 2) ps) (ha : Ints W B A3 n3 af) (hs : B ≤ W.heap.size) (h12 : q.n = 12) => implAllows q B W PA LA A3 pn pc ln lc n3 c3 ps af kd dn hm hs hp ha hpn h12 hn3
  have HMO := hide fun (W : World) (ha : Ints W B A3 n3 af) (hs : B ≤ W.heap.size) => implNewM A3 n3 c3 B af W ha hs hn3 hA3
  have HGW := hide fun (W : World) (hm : MdI W B q) (ha : Ints W B A3 n3 af) (hs : B ≤ W.heap.size) (hV : modV q.xs (vsN q.qs) = true) => implGrown q B W A3 n3 c3 af hm hs ha hA3 hn3 hV
  have HNL := hide h.now.1
  clear h hp ha HK hA3
  obtain ⟨G, hG⟩ : ∃ G, w.heap.size + 1 + 1 = G := ⟨_, rfl⟩
  rw [hG] at HR
  have HGE := hide hG
  go_enter Try.func16, Try.ntmps16
  go_upto_region 1 with (fail)
  have HSZ := hide hsz
  have hB3 : B ≤ W.heap.size := by have := HA.out.hB; omega
  have hw3 : w.heap.size + 2 < W.heap.size := by omega
  have hGW : G < W.heap.size := HR.out.lt
  have hGw : w.heap.size < G := by omega
  clear hsz hW hG
  obtain ⟨z0, z1⟩ := HA.out.cells0
  go_wp2_with fail
  refine (HVM.out W HA.out.m hB3).mono ?_
  rintro e w1 ⟨rfl, hb1⟩
  have HA1 := hide (HA.out.step (hb1.mono (by omega)))
  have HR1 := hide (HR.out.step hb1)
  have hs1 := hb1.size
  clear hb1 HA HR z0 z1 HVM
  obtain ⟨⟨r0, r1⟩, f0, f1⟩ := HR1.out.cells2
  have HVA1 := hide (HVA.out w1 HA1.out.a)
  have HF1 := hide (HR1.out.put2 (by simp) (.slice none 0 0) (.slice none 0 0))
  clear HVA
  rcases hmv : modV q.xs (vsN q.qs) with _ | _
  · have HE := hide (doV_bad (kd := kd) (pn := pn) (ps := ps) (dn := dn) (after := af) (show (modV q.xs (vsN q.qs) && nowV af) = false by rw [hmv]; rfl))
    clear hmv
    go_wp2
    obtain ⟨⟨q0, q1⟩, _, _⟩ := HF1.out.cells2
    exact bodyPost_ret (v := .tuple #[.agg #[.slice none 0 0, .slice none 0 0], .bool false]) (by simp [results, Try.results16, go_sem, q0, q1]) rfl (MPost.no w HF1.out.below HE.out)
  have HMV := hide hmv
  have H12 := hide (show q.n = 12 from HNL.out.symm.trans (nowV_len (modV_parts hmv).2.1))
  clear hmv
  rcases hav : nowV af with _ | _
  · have HE := hide (doV_bad (kd := kd) (pn := pn) (ps := ps) (dn := dn) (after := af) (show (modV q.xs (vsN q.qs) && nowV af) = false by rw [hav]; simp))
    rw [hav] at HVA1
    clear hav
    go_wp2_with fail
    refine HVA1.out.mono ?_
    rintro e w' ⟨rfl, rfl⟩
    go_wp2
    obtain ⟨⟨q0, q1⟩, _, _⟩ := HF1.out.cells2
    exact bodyPost_ret (v := .tuple #[.agg #[.slice none 0 0, .slice none 0 0], .bool false]) (by simp [results, Try.results16, go_sem, q0, q1]) rfl (MPost.no w HF1.out.below HE.out)
  rw [hav] at HVA1
  have HOK := hide (show (modV q.xs (vsN q.qs) && nowV af) = true by rw [HMV.out, hav]; rfl)
  have HAV := hide hav
  clear hav
  obtain ⟨z0, z1⟩ := HA1.out.cells0
  obtain ⟨e0, e1, e2⟩ := HA1.out.cells1
  go_wp2_with fail
  refine HVA1.out.mono ?_
  rintro e w' ⟨rfl, rfl⟩
  go_wp2_with fail
  refine (HAL.out w1 HA1.out.m HA1.out.p HA1.out.a (by omega) H12.out).mono ?_
  rintro e w2 ⟨rfl, hb2⟩
  have HA2 := hide (HA1.out.step (hb2.mono (by omega)))
  have HR2 := hide (HR1.out.step hb2)
  have hs2 := hb2.size
  have hs12 : w.heap.size + 2 < w2.heap.size := by omega
  have HDA := hide (doV_allow (kd := kd) (pn := pn) (ps := ps) (dn := dn) HOK.out)
  clear hb2 HA1 HR1 HF1 z0 z1 e0 e1 e2 r0 r1 f0 f1 HVA1 HAL
  obtain ⟨⟨r0, r1⟩, f0, f1⟩ := HR2.out.cells2
  have HF2 := hide (HR2.out.put2 (by simp) (.slice none 0 0) (.slice none 0 0))
  rcases hal : allowB q.xs (vsN q.qs) kd pn ps dn af with _ | _
  · have HE := hide (HDA.out.1 hal)
    clear hal
    go_wp2
    obtain ⟨⟨q0, q1⟩, _, _⟩ := HF2.out.cells2
    exact bodyPost_ret (v := .tuple #[.agg #[.slice none 0 0, .slice none 0 0], .bool false]) (by simp [results, Try.results16, go_sem, q0, q1]) rfl (MPost.no w HF2.out.below HE.out)
  have HY := hide (HDA.out.2.1 hal)
  have HZ := hide (HDA.out.2.2 hal)
  clear hal HDA HF2
  have HNW := hide (HMO.out w2 HA2.out.a (by omega))
  rw [newR_yes HAV.out] at HNW
  have HGR := hide (HGW.out w2 HA2.out.m HA2.out.a (by omega) HMV.out)
  clear HMO HGW
  obtain ⟨e0, e1, e2⟩ := HA2.out.cells1
  obtain ⟨z0, z1⟩ := HA2.out.cells0
  go_upto_region 3 with (fail)
  go_cut [37] from 27 to 37 (fun c wx => wx = w2 ∧ c = .bool (decide (dn = true ∧ (kd = 10 ∨ kd = 2))))
  case first =>
    rcases dn with _ | _
    · have HKD := hide (show decide ((false : Bool) = true ∧ (kd = 10 ∨ kd = 2)) = false by simp)
      go_wp2_with fail
      go_meet
      exact ⟨rfl, by rw [HKD.out]⟩
    · by_cases h10 : kd = 10
      · have h10' : (kd == 10) = true := by simpa using h10
        have HKD := hide (show decide ((true : Bool) = true ∧ (kd = 10 ∨ kd = 2)) = true by simp [h10])
        clear h10
        go_wp2_with fail
        go_meet
        exact ⟨rfl, by rw [HKD.out]⟩
      · have h10' : (kd == 10) = false := by simpa using h10
        by_cases h2 : kd = 2
        · have h2' : (kd == 2) = true := by simpa using h2
          have HKD := hide (show decide ((true : Bool) = true ∧ (kd = 10 ∨ kd = 2)) = true by simp [h2])
          clear h10 h2
          go_wp2_with fail
          go_meet
          exact ⟨rfl, by rw [HKD.out]⟩
        · have h2' : (kd == 2) = false := by simpa using h2
          have HKD := hide (show decide ((true : Bool) = true ∧ (kd = 10 ∨ kd = 2)) = false by simp [h2, h10])
          clear h10 h2
          go_wp2_with fail
          go_meet
          exact ⟨rfl, by rw [HKD.out]⟩
  case rest =>
    obtain ⟨hwx, hcc⟩ := hcut
    rw [hwx, hcc]
    clear hwx hcc
    by_cases hc : dn = true ∧ (kd = 10 ∨ kd = 2)
    · rw [decide_eq_true hc]
      have HE := hide (HY.out hc)
      clear hc HY HZ HGR
      go_wp2_with fail
      refine HNW.out.mono ?_
      rintro e w5 ⟨q5, rfl, hm5, hx5, hq5, hb5⟩
      have HF2 := hide (stored_box HR2.out hb5 hm5 (by omega))
      have HF := hide HF2.out.1
      have HM := hide HF2.out.2
      have HX5 := hide hx5
      have HQ5 := hide hq5
      obtain ⟨⟨t0, t1⟩, g0, g1⟩ := (HR2.out.step hb5).cells2
      clear hm5 hx5 hq5 hb5 HF2
      unfold Mq.val
      go_wp2
      obtain ⟨⟨q0, q1⟩, _, _⟩ := HF.out.cells2
      exact bodyPost_ret (v := .tuple #[.agg #[.slice q5.A q5.n q5.c, .slice q5.P q5.m q5.d], .bool true]) (by simp [results, Try.results16, go_sem, q0, q1]) rfl ⟨q5, by rw [HE.out]; rfl, HM.out.mono (by omega), by rw [HE.out]; exact HX5.out, by rw [HE.out]; exact HQ5.out, HF.out.below⟩
    · rw [decide_eq_false hc]
      have HE := hide (HZ.out hc)
      clear hc HY HZ HNW
      go_wp2_with fail
      refine HGR.out.mono ?_
      rintro e w5 ⟨q5, rfl, hm5, hx5, hq5, hb5⟩
      have HF2 := hide (stored_box HR2.out hb5 hm5 (by omega))
      have HF := hide HF2.out.1
      have HM := hide HF2.out.2
      have HX5 := hide hx5
      have HQ5 := hide hq5
      obtain ⟨⟨t0, t1⟩, g0, g1⟩ := (HR2.out.step hb5).cells2
      clear hm5 hx5 hq5 hb5 HF2
      unfold Mq.val
      go_wp2
      obtain ⟨⟨q0, q1⟩, _, _⟩ := HF.out.cells2
      exact bodyPost_ret (v := .tuple #[.agg #[.slice q5.A q5.n q5.c, .slice q5.P q5.m q5.d], .bool true]) (by simp [results, Try.results16, go_sem, q0, q1]) rfl ⟨q5, by rw [HE.out]; rfl, HM.out.mono (by omega), by rw [HE.out]; exact HX5.out, by rw [HE.out]; exact HQ5.out, HF.out.below⟩
end Go.Proofs.Ytiopbgenkalfaaa
