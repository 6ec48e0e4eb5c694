/-
  The model's l21New and VolumeFormat.
-/
import Derived.Test.YtfianpjoifcphaaExVm
import Derived.Test.YtfianpjoifcphaaBoxV
import Derived.Test.YtfianpjoifcphaaNewM
import Derived.Test.YtfianpjoifcphaaNewH
import Derived.Test.YtfianpjoifcphaaSpecZ2
namespace Go.Proofs.Ytfianpjoifcphaa
open Go.RowKit
set_option linter.unusedVariables false
set_option maxRecDepth 100000

set_option maxHeartbeats 3200000 in
theorem specNewV (w : World) : Calls Try.prog 15 #[] w (VPost1 w newV) := by
  have HB0 := hide (below_box w (.cells (boxV vq0) 29))
  have HX := hide (Blk.new w 29 (boxV vq0))
  have HN := hide (specNew (w.alloc (.cells (boxV vq0) 29)))
  unfold boxV vq0 at HN
  go_enter Try.func15, Try.ntmps15
  go_wp2_with fail
  refine HN.out.mono ?_
  rintro e w1 ⟨A1, c1, qs, rfl, ho1, hz1, hb1⟩
  have HO1 := hide ho1
  have HZ1 := hide hz1
  have HB1 := hide (HB0.out.trans (hb1.mono (by simp)))
  have HX1 := hide (HX.out.below hb1 HX.out.lt)
  have HBX1 := hide (show w.heap.size < w1.heap.size by have := hb1.size; simp at this; omega)
  have HS := hide (OwnO.lit0 w1 w1.heap.size (Nat.le_refl _))
  have HM := hide (l11New_any (w1.alloc (.cells #[] 69)))
  clear ho1 hz1 hb1 HN HB0 HX
  go_wp2_with fail
  refine HM.out.mono ?_
  rintro e w2 ⟨rfl, ho2, hb2⟩
  have HSZ := hide (show w1.heap.size + 1 ≤ w2.heap.size by have := hb2.size; simpa using this)
  have HBL2 := hide ((below_box w1 (.cells #[] 69)).trans (hb2.mono (by simp)))
  have HO2 := hide (HO1.out.below HBL2.out)
  have HS2 := hide (HS.out.below hb2)
  have HM2 := hide ho2
  have HB2 := hide (HB1.out.trans (HBL2.out.mono HB1.out.size))
  have HX2 := hide (HX1.out.below HBL2.out HX1.out.lt)
  have HH := hide (new13_any w2)
  clear ho2 hb2 HO1 HS HM HB1 HX1 HBL2
  go_wp2_with fail
  refine HH.out.mono ?_
  rintro e w3 ⟨rfl, ho3, hb3⟩
  have hx1 : w.heap.size < w1.heap.size := by exact HBX1.out
  have hs2 : w1.heap.size + 1 ≤ w2.heap.size := HSZ.out
  obtain ⟨p, hp⟩ : ∃ p : Vq, (⟨qs, A1, 4, c1, [], some ⟨w1.heap.size, 0, none⟩, 0, 0, new12, some ⟨w1.heap.size + 1, 0, none⟩, 12, 12, List.replicate 12 0, some ⟨w2.heap.size, 0, none⟩, 12, 12, 1, 0⟩ : Vq) = p := ⟨_, rfl⟩
  have ho : OwnV w3 (w.heap.size + 1) p := by
    rw [← hp]
    have h1 := (HO2.out.below hb3).mono (b' := w.heap.size + 1) (by simp)
    have h2 := (HS2.out.below hb3).mono (b' := w.heap.size + 1) (by omega)
    have h3 := (HM2.out.below hb3).mono (b' := w.heap.size + 1) (by simp; omega)
    have h4 := ho3.mono (b' := w.heap.size + 1) (by omega)
    rw [show (w1.alloc (.cells #[] 69)).heap.size = w1.heap.size + 1 by simp] at h3
    exact ⟨h1, h2, h3, h4⟩
  have hvol : p.vol = newV := by rw [← hp]; show (⟨zns qs, _, _, _, _, _⟩ : Vol) = _; rw [HZ1.out]; rfl
  have HX3 := HX2.out.below hb3 HX2.out.lt
  have fz := HX3.frozen
  obtain ⟨y0, y1, y2, y3, y4, y5⟩ := box_cells HX3
  simp only [vq0] at y0 y1 y2 y3 y4 y5
  have hblk := blk6 HX3 p
  have HOW := hide ((ho.put6 (p2 := p) (g := w.heap.size) (by omega)).mono (b' := w.heap.size) (by omega))
  have HBE := hide ((HB2.out.trans (hb3.mono HB2.out.size)).grown (grown6 w3 w.heap.size p) (HB2.out.trans (hb3.mono HB2.out.size)).size (fun k hk => by injection hk with hk; omega))
  have HVO := hide hvol
  unfold put6 at HOW HBE hblk
  obtain ⟨q0, q1, q2, q3, q4, q5⟩ := box_cells hblk
  clear hblk hb3 ho3 ho HO2 HS2 HM2 HX2 HX3 HB2 HSZ HBX1 hvol
  subst hp
  simp only at HOW HBE q0 q1 q2 q3 q4 q5
  go_wp2
  generalize (((((w3.setCell ⟨w.heap.size, 0, none⟩ (.slice A1 4 c1)).setCell ⟨w.heap.size, 1, none⟩ (.slice (some ⟨w1.heap.size, 0, none⟩) 0 0)).setCell ⟨w.heap.size, 2, none⟩ (.slice (some ⟨w1.heap.size + 1, 0, none⟩) 12 12)).setCell ⟨w.heap.size, 3, none⟩ (.slice (some ⟨w2.heap.size, 0, none⟩) 12 12)).setCell ⟨w.heap.size, 4, none⟩ (.int .i64 1)).setCell ⟨w.heap.size, 5, none⟩ (.int .i64 0) = W9 at HOW HBE q0 q1 q2 q3 q4 q5 ⊢
  refine bodyPost_ret (v := .agg #[.slice A1 4 c1, .slice (some ⟨w1.heap.size, 0, none⟩) 0 0, .slice (some ⟨w1.heap.size + 1, 0, none⟩) 12 12, .slice (some ⟨w2.heap.size, 0, none⟩) 12 12, .int .i64 1, .int .i64 0]) (by simp [results, Try.results15, go_sem, q0, q1, q2, q3, q4, q5]) rfl ?_
  exact ⟨_, rfl, HOW.out, HVO.out, HBE.out⟩

set_option maxHeartbeats 3200000 in
theorem specVFormat (A : Option Addr) (n c B : Nat) (qs : List Zq) (w : World) (hr : Zns w B A n qs) (hB : B ≤ w.heap.size) (hn : n ≤ 1000000000000) :
    Calls Try.prog 5 #[.slice A n c] w (VPost w (fmtV (devV (zns qs))) (fmtC (devV (zns qs)))) := by
  have HD := hide (specDV A n c B qs (w.alloc (.cells (boxV vq0) 29)) (hr.alloc hB _) (by simpa using hn))
  have HB0 := hide (below_box w (.cells (boxV vq0) 29))
  have HX := hide (Blk.new w 29 (boxV vq0))
  clear hr
  unfold boxV vq0 at HD
  rcases hv : devV (zns qs) with _ | _
  · rw [hv] at HD
    clear hv
    go_enter Try.func5, Try.ntmps5
    go_wp2_with fail
    refine HD.out.mono ?_
    rintro e w1 ⟨rfl, z, hw1⟩
    have HB1 := hide (show Below w.heap.size w w1 by rw [hw1]; exact below_drewN HB0.out z)
    have HX1 := (show Blk w1 w.heap.size 29 (boxV vq0) by rw [hw1]; exact HX.out)
    have fz := HX1.frozen
    obtain ⟨y0, y1, y2, y3, y4, y5⟩ := box_cells HX1
    have hblk := blk6 HX1 vq0
    have HOW := hide (OwnV.nil_ (put6 w1 w.heap.size vq0) w.heap.size)
    have HBE := hide (HB1.out.grown (grown6 w1 w.heap.size vq0) HB1.out.size (fun k hk => by injection hk with hk; omega))
    unfold put6 at HOW HBE hblk
    obtain ⟨q0, q1, q2, q3, q4, q5⟩ := box_cells hblk
    clear hblk HX1 HX HB0 HD hw1
    simp only [vq0] at y0 y1 y2 y3 y4 y5 q0 q1 q2 q3 q4 q5 HOW HBE
    go_wp2
    generalize (((((w1.setCell ⟨w.heap.size, 0, none⟩ (.slice none 0 0)).setCell ⟨w.heap.size, 1, none⟩ (.slice none 0 0)).setCell ⟨w.heap.size, 2, none⟩ (.slice none 0 0)).setCell ⟨w.heap.size, 3, none⟩ (.slice none 0 0)).setCell ⟨w.heap.size, 4, none⟩ (.int .i64 0)).setCell ⟨w.heap.size, 5, none⟩ (.int .i64 0) = W9 at HOW HBE q0 q1 q2 q3 q4 q5 ⊢
    refine bodyPost_ret (v := .tuple #[.agg #[.slice none 0 0, .slice none 0 0, .slice none 0 0, .slice none 0 0, .int .i64 0, .int .i64 0], .int .i64 3]) (by simp [results, Try.results5, go_sem, q0, q1, q2, q3, q4, q5]) rfl ?_
    exact ⟨_, rfl, HOW.out, vq0_vol, HBE.out⟩
  · rw [hv] at HD
    clear hv
    have HN := hide fun (W : World) => specNewV W
    go_enter Try.func5, Try.ntmps5
    go_wp2_with fail
    refine HD.out.mono ?_
    rintro e w1 ⟨rfl, z, hw1⟩
    have HB1 := hide (show Below w.heap.size w w1 by rw [hw1]; exact below_drewN HB0.out z)
    have HX1 := hide (show Blk w1 w.heap.size 29 (boxV vq0) by rw [hw1]; exact HX.out)
    clear HX HB0 HD hw1
    go_wp2_with fail
    refine (HN.out w1).mono ?_
    rintro e w2 ⟨p, rfl, ho2, hv2, hb2⟩
    have HVO := hide hv2
    have hx1 := HX1.out.lt
    have HX2 := HX1.out.below hb2 hx1
    have fz := HX2.frozen
    obtain ⟨y0, y1, y2, y3, y4, y5⟩ := box_cells HX2
    simp only [vq0] at y0 y1 y2 y3 y4 y5
    have hblk := blk6 HX2 p
    have hbb := HB1.out.trans (hb2.mono HB1.out.size)
    have HOW := hide ((ho2.put6 (p2 := p) (g := w.heap.size) hx1).mono (b' := w.heap.size) (by omega))
    have HBE := hide (hbb.grown (grown6 w2 w.heap.size p) hbb.size (fun k hk => by injection hk with hk; omega))
    unfold put6 at HOW HBE hblk
    obtain ⟨q0, q1, q2, q3, q4, q5⟩ := box_cells hblk
    clear hblk HX1 HX2 HB1 hb2 hbb ho2 hv2 HN
    obtain ⟨dev, dA, dn, dc, sto, sA, sn, sc, map, mA, mn, mc, heat, hA, hn, hc, seq, zone⟩ := p
    simp only at HOW HBE q0 q1 q2 q3 q4 q5
    unfold Vq.val
    simp only
    go_wp2
    generalize (((((w2.setCell ⟨w.heap.size, 0, none⟩ (.slice dA dn dc)).setCell ⟨w.heap.size, 1, none⟩ (.slice sA sn sc)).setCell ⟨w.heap.size, 2, none⟩ (.slice mA mn mc)).setCell ⟨w.heap.size, 3, none⟩ (.slice hA hn hc)).setCell ⟨w.heap.size, 4, none⟩ (.int .i64 seq)).setCell ⟨w.heap.size, 5, none⟩ (.int .i64 zone) = W9 at HOW HBE q0 q1 q2 q3 q4 q5 ⊢
    refine bodyPost_ret (v := .tuple #[.agg #[.slice dA dn dc, .slice sA sn sc, .slice mA mn mc, .slice hA hn hc, .int .i64 seq, .int .i64 zone], .int .i64 0]) (by simp [results, Try.results5, go_sem, q0, q1, q2, q3, q4, q5]) rfl ?_
    exact ⟨_, rfl, HOW.out, HVO.out, HBE.out⟩
end Go.Proofs.Ytfianpjoifcphaa
