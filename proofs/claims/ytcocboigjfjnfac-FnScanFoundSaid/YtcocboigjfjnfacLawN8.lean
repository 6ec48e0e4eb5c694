/-
  The walk of FnScanFound.
-/
import Derived.Test.YtcocboigjfjnfacG5
import Derived.Test.YtcocboigjfjnfacG1
import Derived.Deep.Cut
import Derived.Deep.RegionHeld3
import Derived.StillTailTactics
namespace Go.Proofs.Ytcocboigjfjnfac
open Go.RowKit
set_option linter.unusedVariables false
set_option maxRecDepth 100000

theorem belA8 (w : World) (o : Obj) : Below w.heap.size w (w.alloc o).drew := by
  have h := (Below.refl w.heap.size w).alloc (Nat.le_refl _) o
  exact ⟨h.os, h.tape, h.output, h.size, h.block⟩
theorem set3_cell {w : World} {R : Nat} {v0 v1 v2 : Value} (p : Addr) {u : Value} (hp : p.block < R) (h : w.cell? p = some u) : (((w.setCell ⟨R, 0, none⟩ v0).setCell ⟨R, 1, none⟩ v1).setCell ⟨R, 2, none⟩ v2).cell? p = some u := by
  have hg := set3_grown w R v0 v1 v2
  exact hg.cell h (by intro e; injection e with e; omega)
theorem box3 {w : World} {R : Nat} {t : TypeId} {u0 u1 u2 : Value} (h : Blk w R t #[u0, u1, u2]) (v0 v1 v2 : Value) :
    w.cell? ⟨R, 0, none⟩ = some u0 ∧ (w.setCell ⟨R, 0, none⟩ v0).cell? ⟨R, 1, none⟩ = some u1 ∧ ((w.setCell ⟨R, 0, none⟩ v0).setCell ⟨R, 1, none⟩ v1).cell? ⟨R, 2, none⟩ = some u2 ∧
      w.frozen? ⟨R, 0, none⟩ = false ∧ (w.setCell ⟨R, 0, none⟩ v0).frozen? ⟨R, 1, none⟩ = false ∧ ((w.setCell ⟨R, 0, none⟩ v0).setCell ⟨R, 1, none⟩ v1).frozen? ⟨R, 2, none⟩ = false ∧
      Blk (((w.setCell ⟨R, 0, none⟩ v0).setCell ⟨R, 1, none⟩ v1).setCell ⟨R, 2, none⟩ v2) R t #[v0, v1, v2] ∧ w.grownBy (((w.setCell ⟨R, 0, none⟩ v0).setCell ⟨R, 1, none⟩ v1).setCell ⟨R, 2, none⟩ v2) (some R) := by
  have h1 := h.set_ 0 v0
  have h2 := h1.set_ 1 v1
  have h3 := h2.set_ 2 v2
  simp at h1 h2 h3
  exact ⟨h.cell 0, h1.cell 1, h2.cell 2, h.frozen 0, h1.frozen 1, h2.frozen 2, h3, set3_grown w R v0 v1 v2⟩
theorem below_some {H R : Nat} (h : H ≤ R) : ∀ g, some R = some g → H ≤ g := by intro g e; injection e with e; omega
theorem own_set3 {w w' : World} {B R n c : Nat} {A : Option Addr} {xs : List Int} (hR : R < B) (h : Own w B A n c xs) (hg : w.grownBy w' (some R)) : Own w' B A n c xs :=
  h.kept hg (by intro b hb e; injection hb with hb; subst hb; have := (h.block _ e).1; omega)
theorem found_at {rs : List Fq} {qs : List Zq} {i : Nat} {r : Fq} (hf : fns rs = devF (zns qs)) (h4 : (zns qs).length = 4) (hr : rs[i]? = some r) :
    ∃ k : Nat, k < 4 ∧ ∃ q : Zq, qs[k]? = some q ∧ ∃ a : Nat, r.zone = (k : Int) ∧ goodF q.words q.words.length (a : Int) ∧ r.fn = fnAt (k : Int) q.words a := by
  have h1 := List.mem_of_getElem? (fns_get hr)
  rw [hf] at h1
  unfold devF at h1
  obtain ⟨g, hg, hfg⟩ := (orderF_mem _ _).1 h1
  obtain ⟨k, hk⟩ := List.getElem?_of_mem hg
  obtain ⟨hk4, rfl⟩ := scansZ_at _ hk
  rw [h4] at hk4
  have hl : qs.length = 4 := by unfold zns at h4; rwa [List.length_map] at h4
  obtain ⟨q, hq⟩ : ∃ q, qs[k]? = some q := ⟨_, List.getElem?_eq_getElem (by omega)⟩
  have e : (zns qs).getD k ([], 0, false) = q.zn := by simp [zns, List.getD, hq]
  rw [e] at hfg
  obtain ⟨a, ha, e2⟩ := scan_mem _ _ _ _ hfg
  exact ⟨k, hk4, q, hq, a, congrArg Prod.fst e2, ha, e2⟩
set_option maxHeartbeats 12800000 in
theorem scanFound_walk (A : Option Addr) (n c : Nat) (bs : Nat → Int) (w : World) (hb : Bytes w w.heap.size A n bs) (hn : n ≤ c) (hc : c ≤ maxLen) :
    Calls Try.prog 4 #[.slice A n c] w fun e w' => e = .returned (.bool true) ∧ Below w.heap.size w w' := by
  by_cases hbig : 1048576 < n
  · go_enter Try.func4, Try.ntmps4
    go_wp2
    go_ret
    exact ⟨rfl, Below.refl _ _⟩
  go_enter Try.func4, Try.ntmps4
  go_wp2_with fail
  refine (drawScanDevice_any A n c bs _ hb hn hc).mono ?_
  rintro e w1 ⟨A1, m, c1, qs, rfl, hd⟩
  have HD := hide hd
  have HP1 := hide (implScanD A1 m c1 _ qs w1 hd.1 (Nat.le_refl _) (by have := hd.2.1; omega))
  have HP2 := hide fun (W : World) (h : Below w1.heap.size w1 W) => specScanD A1 m c1 _ qs W (hd.1.below h (Nat.le_refl _)) h.size (by have := hd.2.1; omega)
  clear hb hd
  go_wp2_with fail
  refine HP1.out.mono ?_
  rintro e w2 ⟨A2, c2, n2, rs, rfl, ho2, hf2, hb2⟩
  have HO2 := hide ho2
  have HF2 := hide hf2
  have HB2 := hide hb2
  clear ho2 hf2 hb2 HP1
  go_wp2_with fail
  refine (HP2.out w2 HB2.out).mono ?_
  rintro e w3 ⟨A3, c3, n3, rs', rfl, ho3, hf3, hb3⟩
  obtain ⟨rfl, hZ⟩ := DScn.of HD.out HO2.out HF2.out HB2.out ho3 hf3 hb3
  have HZ := hide hZ
  clear hZ ho3 hf3 hb3 HO2 HF2 HB2 HP2 HD
  have h4 := HZ.out.m4
  have hnum := HZ.out.num
  have HSM := hide fun (W : World) (h : Below w3.heap.size w3 W) => sameFnd_yes A2 A3 n3 c2 c3 _ _ rs rs' W (HZ.out.out W h) (HZ.out.want W h) (Nat.le_trans HZ.out.s3 h.size) h.size (by unfold maxLen; omega) HZ.out.f3
  have HDV := hide fun (W : World) (h : Below w3.heap.size w3 W) => specDV A1 m c1 _ qs W (HZ.out.zs W h) (by omega)
  rcases hv : devV (zns qs) with _ | _
  · rw [hv] at HDV
    clear hv
    go_wp2_with fail
    refine (HSM.out w3 (Below.refl _ _)).mono ?_
    rintro e w4 ⟨rfl, hb4⟩
    have HB4 := hide hb4
    clear hb4
    go_wp2_with fail
    refine (HDV.out w4 HB4.out).mono ?_
    rintro e w5 ⟨rfl, q5, rfl⟩
    have HB5 := hide (below_drewN HB4.out q5)
    go_wp2_with fail
    refine (HSM.out _ HB5.out).mono ?_
    rintro e w6 ⟨rfl, hb6⟩
    have HFIN := hide (HZ.out.fin w6 (HB5.out.trans (hb6.mono HB5.out.size)))
    clear hb6
    go_wp2
    go_ret
    exact ⟨rfl, HFIN.out⟩
  rw [hv] at HDV
  obtain rfl : m = 4 := devV_is4 hv (HZ.out.zs w3 (Below.refl _ _)).1
  have HVV := hide hv
  have HFD : Hid (fns rs = devF (zns qs)) := by show _ = _; rw [HZ.out.f2]; unfold scanD; rw [hv]; rfl
  have HL4 : Hid ((zns qs).length = 4) := by show _ = _; rw [zns, List.length_map]; exact (HZ.out.zs w3 (Below.refl _ _)).1
  clear hv
  go_wp2_with fail
  refine (HSM.out w3 (Below.refl _ _)).mono ?_
  rintro e w4 ⟨rfl, hb4⟩
  have HB4 := hide hb4
  clear hb4
  go_wp2_with fail
  refine (HDV.out w4 HB4.out).mono ?_
  rintro e w5 ⟨rfl, q5, rfl⟩
  have HB5 := hide (below_drewN HB4.out q5)
  generalize w4.drewN q5 = w5 at *
  clear HSM HDV HB4
  have hw35 : w3.heap.size ≤ w5.heap.size := HB5.out.size
  go_wp2
  go_loopw [6] (fun iv wr => ∃ (i : Nat), i ≤ n3 ∧ iv = .int .i64 i ∧ Hid (Below w5.heap.size w5 wr)) (fun iv _ => n3 - (intOf iv).toNat)
  case atStart => exact ⟨0, Nat.zero_le _, rfl, Below.refl _ _⟩
  case round =>
    obtain ⟨i, hi, rfl, HB⟩ := hrel
    have HBW := hide (HB5.out.trans (HB.out.mono hw35))
    have hs := HBW.out.size
    by_cases hlt : i < n3
    · have hR := HZ.out.out wr HBW.out
      have hz := HZ.out.zs wr HBW.out
      obtain ⟨r, hr⟩ : ∃ r, rs[i]? = some r := ⟨_, List.getElem?_eq_getElem (by rw [hR.1]; exact hlt)⟩
      obtain ⟨k, hk4, q, hq, a, hza, hg, hfn⟩ := found_at HFD.out HL4.out hr
      obtain ⟨ad, p, rfl, hp, hpb, c0, c1', c2', c3', c4⟩ := hR.at_ hr
      obtain ⟨hri, hrle, hrcm, hrnl⟩ := hR.words hr
      obtain ⟨zd, zp, rfl, hzp, hzpb, d0, d1, d2⟩ := hz.at_ hq
      obtain ⟨qi, qle, qcm⟩ := hz.words hq
      have hw12 := HZ.out.s2
      have hw23 := HZ.out.s3
      have hql := devV_words HVV.out hq
      obtain ⟨gl, gm, gv, gs⟩ := good_len hg
      have hbl := cutW_length q.words (a + 3) (lenAt q.words a) (by omega)
      have hfn2 : r.fn = ((k : Int), (a : Int), q.words.getD a 0, q.words.getD (a + 1) 0, cutW q.words (a + 3) (lenAt q.words a)) := hfn
      obtain ⟨rz, ra, rk, rq, rv, rad, rc⟩ := r
      unfold Fq.fn at hfn2
      injection hfn2 with e1 hfn2
      injection hfn2 with e2 hfn2
      injection hfn2 with e3 hfn2
      injection hfn2 with e4 e5
      simp only at e1 e2 e3 e4 e5
      simp only [Fq.sl] at c0 c1' c2' c3' c4 hri hrle hrcm
      unfold Zq.sl at d0
      subst e1
      subst e2
      unfold maxLen at qcm
      have HG := hide fun (W : World) (hW : Below wr.heap.size wr W) => implGet_yes0 q.addr q.words.length q.cap a (lenAt q.words a) (a : Int) q.words W rfl ((qi.below hW (by omega)).more (by have := hW.size; omega)) qle (by omega) (by omega) gm gl rk rq (q.words.getD (a + 3 + lenAt q.words a) 0) e3.symm e4.symm rfl (by rw [e3, e4]; exact gv) gs
      rw [← e5] at HG hbl
      have HRI := hide fun (W : World) (hW : Below wr.heap.size wr W) => hri.below hW (show w2.heap.size ≤ wr.heap.size by omega)
      generalize lenAt q.words a = l at *
      generalize q.words.length = ql at *
      have hl64 : l ≤ 64 := by omega
      clear gl gm gv gs e3 e4 e5 qi hri hg hfn hr hq hR hz
      rw [hbl] at c4 hrle HRI
      have hpb1 : p.block < wr.heap.size := by omega
      have hpb2 : zp.block < wr.heap.size := by omega
      have i0 : (0 : Int) ≤ (i : Int) := by omega
      have i1 : (i : Int) < (n3 : Int) := by omega
      have k0 : (0 : Int) ≤ (k : Int) := by omega
      have k1 : (k : Int) < ((4 : Nat) : Int) := by omega
      obtain ⟨W0, hW0⟩ : ∃ W0, (wr.alloc (.cells #[.int .i64 0, .int .i64 0, .slice none 0 0] 33)).drew = W0 := ⟨_, rfl⟩
      have HWB0 := hide (show Below wr.heap.size wr W0 by rw [← hW0]; exact belA8 wr _)
      have HWX0 := hide (show Blk W0 wr.heap.size 33 #[.int .i64 0, .int .i64 0, .slice none 0 0] by rw [← hW0]; exact Blk.new wr _ _)
      have HWL0 := hide HWX0.out.lt
      have HGW := hide (HG.out W0 HWB0.out)
      have z0 := (HWB0.out.cell (p := p) hpb1).trans c0
      have z1 := (HWB0.out.cell (p := ⟨p.block, p.off + 1, none⟩) hpb1).trans c1'
      have z2 := (HWB0.out.cell (p := zp) hpb2).trans d0
      have k2 : (k : Int) < 4 := by omega
      go_upto_region 11 with (fail)
      go_region_held3 (fun W => W.cell? p = some (.int .i64 (k : Int)) ∧ W.cell? ⟨p.block, p.off + 1, none⟩ = some (.int .i64 (a : Int)) ∧ W.cell? zp = some (.slice q.addr ql q.cap))
        (first
          | go_keep
          | (with_reducible exact ⟨z0, z1, z2⟩)
          | (with_reducible exact ⟨m0, m1, m2⟩)
          | (with_reducible exact ⟨y0, y1, y2⟩))
        ((first
          | (go_at_call 12; refine (HG.out (wr.drewN 1) ⟨rfl, rfl, rfl, Nat.le_refl _, fun _ _ => rfl⟩).mono ?_; rintro e w6 ⟨A6, c6, rfl, ho6, hb6'⟩; have hb6 := below_undrewF (i := 1) hb6'; have m0 := (hb6.cell (p := p) hpb1).trans c0; have m1 := (hb6.cell (p := ⟨p.block, p.off + 1, none⟩) hpb1).trans c1'; have m2 := (hb6.cell (p := zp) hpb2).trans d0; have y0 := cell_alloc' (o := .cells #[.int .i64 rk, .int .i64 rq, .slice A6 l c6] 33) m0; have y1 := cell_alloc' (o := .cells #[.int .i64 rk, .int .i64 rq, .slice A6 l c6] 33) m1; have y2 := cell_alloc' (o := .cells #[.int .i64 rk, .int .i64 rq, .slice A6 l c6] 33) m2; have HO6 := hide (ho6.below (w' := w6.alloc (.cells #[.int .i64 rk, .int .i64 rq, .slice A6 l c6] 33)) ((Below.refl _ w6).alloc (Nat.le_refl _) _)); have HBX := hide (Blk.new w6 33 #[.int .i64 rk, .int .i64 rq, .slice A6 l c6]); have HW7 := hide (hb6.alloc hb6.size (.cells #[.int .i64 rk, .int .i64 rq, .slice A6 l c6] 33)); clear hb6' ho6)
          | (go_at_call 12; refine (HGW.out).mono ?_; rintro e w6 ⟨A6, c6, rfl, ho6, hb6'⟩; have hb6 := HWB0.out.trans (hb6'.mono HWB0.out.size); have m0 := (hb6.cell (p := p) hpb1).trans c0; have m1 := (hb6.cell (p := ⟨p.block, p.off + 1, none⟩) hpb1).trans c1'; have m2 := (hb6.cell (p := zp) hpb2).trans d0; have y0 := set3_cell (v0 := .int .i64 rk) (v1 := .int .i64 rq) (v2 := .slice A6 l c6) _ hpb1 m0; have y1 := set3_cell (v0 := .int .i64 rk) (v1 := .int .i64 rq) (v2 := .slice A6 l c6) _ (show (⟨p.block, p.off + 1, none⟩ : Addr).block < _ from hpb1) m1; have y2 := set3_cell (v0 := .int .i64 rk) (v1 := .int .i64 rq) (v2 := .slice A6 l c6) _ hpb2 m2; have hbx := HWX0.out.below hb6' HWL0.out; obtain ⟨g0, g1, g2, f0, f1, f2, HBX', HG3⟩ := box3 hbx (.int .i64 rk) (.int .i64 rq) (.slice A6 l c6); have HBX := hide HBX'; have HO6 := hide (own_set3 HWL0.out ho6 HG3); have HW7 := hide (hb6.grown HG3 hb6.size (below_some (Nat.le_refl _))); clear hb6' ho6 hbx HBX' HG3)))
      · have f0' := HBX.out.cell 0
        have f1' := HBX.out.cell 1
        have f2' := HBX.out.cell 2
        simp only [List.getElem?_toArray, List.getElem?_cons_zero, List.getElem?_cons_succ] at f0' f1' f2'
        have g2' := (HW7.out.cell (p := ⟨p.block, p.off + 2, none⟩) hpb1).trans c2'
        have g3' := (HW7.out.cell (p := ⟨p.block, p.off + 3, none⟩) hpb1).trans c3'
        have g4' := (HW7.out.cell (p := ⟨p.block, p.off + 4, none⟩) hpb1).trans c4
        have HSF := hide (sameFrame_yes rk rq A6 rad l c6 rc _ _ rv _ (HO6.out.drewN 1).ints (Nat.le_refl _) ((HRI.out _ HW7.out).drewN 1) (by have := HW7.out.size; show w2.heap.size ≤ _; exact Nat.le_trans (by omega) this) (by unfold maxLen; omega))
        have HW8 := hide (HB.out.trans (HW7.out.mono HB.out.size))
        clear m0 m1 m2 y0 y1 y2 c0 c1' c2' c3' c4 d0 z0 z1 z2
        have hFl := HBX.out.lt
        have hpb3 := Nat.lt_of_lt_of_le hpb1 HW7.out.size
        go_wp2_with fail
        go_region_held3 (fun W => W.cell? ⟨p.block, p.off + 2, none⟩ = some (.int .i64 rk) ∧ W.cell? ⟨p.block, p.off + 3, none⟩ = some (.int .i64 rq) ∧ W.cell? ⟨p.block, p.off + 4, none⟩ = some (.slice rad l rc) ∧
            W.cell? ⟨w6.heap.size, 0, none⟩ = some (.int .i64 rk) ∧ W.cell? ⟨w6.heap.size, 1, none⟩ = some (.int .i64 rq) ∧ W.cell? ⟨w6.heap.size, 2, none⟩ = some (.slice A6 l c6))
          (first
            | go_keep
            | (with_reducible exact ⟨s2, s3, s4, t0, t1, t2⟩))
          ((first
            | (go_at_call 13; refine HSF.out.mono ?_; rintro e w8 ⟨rfl, hb8'⟩; have hb8 := below_undrewF (i := 1) hb8'; have s2 := (hb8.cell (p := ⟨p.block, p.off + 2, none⟩) hpb3).trans g2'; have s3 := (hb8.cell (p := ⟨p.block, p.off + 3, none⟩) hpb3).trans g3'; have s4 := (hb8.cell (p := ⟨p.block, p.off + 4, none⟩) hpb3).trans g4'; have t0 := (hb8.cell hFl).trans f0'; have t1 := (hb8.cell hFl).trans f1'; have t2 := (hb8.cell hFl).trans f2'; clear hb8')))
        have HW9 := hide (HW8.out.trans (hb8.mono HW8.out.size))
        clear hb8 s2 s3 s4 t0 t1 t2
        go_wp2
        go_roundw
        case rel => exact ⟨i + 1, by omega, by go_num, HW9.out⟩
        case measure => simp [intOf]; omega
      · have f0' := HBX.out.cell 0
        have f1' := HBX.out.cell 1
        have f2' := HBX.out.cell 2
        simp only [List.getElem?_toArray, List.getElem?_cons_zero, List.getElem?_cons_succ] at f0' f1' f2'
        have g2' := (HW7.out.cell (p := ⟨p.block, p.off + 2, none⟩) hpb1).trans c2'
        have g3' := (HW7.out.cell (p := ⟨p.block, p.off + 3, none⟩) hpb1).trans c3'
        have g4' := (HW7.out.cell (p := ⟨p.block, p.off + 4, none⟩) hpb1).trans c4
        have HSF := hide (sameFrame_yes rk rq A6 rad l c6 rc _ _ rv _ (HO6.out.drewN 1).ints (Nat.le_refl _) ((HRI.out _ HW7.out).drewN 1) (by have := HW7.out.size; show w2.heap.size ≤ _; exact Nat.le_trans (by omega) this) (by unfold maxLen; omega))
        have HW8 := hide (HB.out.trans (HW7.out.mono HB.out.size))
        clear m0 m1 m2 y0 y1 y2 c0 c1' c2' c3' c4 d0 z0 z1 z2
        have hFl := HBX.out.lt
        have hpb3 := Nat.lt_of_lt_of_le hpb1 HW7.out.size
        go_wp2_with fail
        go_region_held3 (fun W => W.cell? ⟨p.block, p.off + 2, none⟩ = some (.int .i64 rk) ∧ W.cell? ⟨p.block, p.off + 3, none⟩ = some (.int .i64 rq) ∧ W.cell? ⟨p.block, p.off + 4, none⟩ = some (.slice rad l rc) ∧
            W.cell? ⟨wr.heap.size, 0, none⟩ = some (.int .i64 rk) ∧ W.cell? ⟨wr.heap.size, 1, none⟩ = some (.int .i64 rq) ∧ W.cell? ⟨wr.heap.size, 2, none⟩ = some (.slice A6 l c6))
          (first
            | go_keep
            | (with_reducible exact ⟨s2, s3, s4, t0, t1, t2⟩))
          ((first
            | (go_at_call 13; refine HSF.out.mono ?_; rintro e w8 ⟨rfl, hb8'⟩; have hb8 := below_undrewF (i := 1) hb8'; have s2 := (hb8.cell (p := ⟨p.block, p.off + 2, none⟩) hpb3).trans g2'; have s3 := (hb8.cell (p := ⟨p.block, p.off + 3, none⟩) hpb3).trans g3'; have s4 := (hb8.cell (p := ⟨p.block, p.off + 4, none⟩) hpb3).trans g4'; have t0 := (hb8.cell hFl).trans f0'; have t1 := (hb8.cell hFl).trans f1'; have t2 := (hb8.cell hFl).trans f2'; clear hb8')))
        have HW9 := hide (HW8.out.trans (hb8.mono HW8.out.size))
        clear hb8 s2 s3 s4 t0 t1 t2
        go_wp2
        go_roundw
        case rel => exact ⟨i + 1, by omega, by go_num, HW9.out⟩
        case measure => simp [intOf]; omega
    · obtain rfl : i = n3 := by omega
      have HFIN := hide (HZ.out.fin wr HBW.out)
      go_wp2
      go_ret
      exact ⟨rfl, HFIN.out⟩
end Go.Proofs.Ytcocboigjfjnfac
