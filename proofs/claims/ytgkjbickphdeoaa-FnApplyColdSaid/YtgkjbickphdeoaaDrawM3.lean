/-
  DrawMapApply.
-/
import Derived.Test.YtgkjbickphdeoaaDrawM2
import Derived.Deep.Cut
namespace Go.Proofs.Ytgkjbickphdeoaa
open Go.RowKit
set_option linter.unusedVariables false
set_option maxRecDepth 100000

theorem below_undrewA {B : Nat} {a w : World} {i : Nat} (h : Below B (a.drewN i) w) : Below B a w := ⟨h.os, h.tape, h.output, h.size, h.block⟩
theorem grown_undrewA {a w : World} {row : Option Nat} {i : Nat} (h : (a.drewN i).grownBy w row) : a.grownBy w row := ⟨h.os, h.tape, h.output, h.size, h.block⟩
section
variable {w0 w w' : World} {R T C n c fn fc : Nat} {p p' kd sq : Int} {A F : Option Addr} {ms : List Wh} {xs : List Int}
theorem KM.alloc (h : KM w0 w R p A n c ms) (o : Obj) : KM w0 (w.alloc o) R p A n c ms :=
  { rd := h.rd.alloc o, rlt := h.rlt, num := h.num, grown := grown_alloc h.grown o, own := h.own.alloc o }
theorem KA.store (h : KA w0 w R T C p A n c ms kd sq F fn fc xs) (hT : w0.heap.size ≤ T) (hF : (Value.slice F fn fc).ownBlock ≠ some T) {kd' sq' : Int} {F' : Option Addr} {fn' fc' : Nat} {xs' : List Int} {p' : Int}
    {w1 : World} (hk : KM w0 w1 R p' A n c ms) (hbox : Blk w1 T 26 #[.int .i64 kd, .int .i64 sq, .slice F fn fc]) (hres : Blk w1 C 26 #[.int .i64 0, .int .i64 0, .slice none 0 0])
    (ho : Own w1 w0.heap.size F' fn' fc' xs') (hfn : fn' ≤ 100) (hmap : (Value.slice A n c).ownBlock ≠ some T) (hnew : (Value.slice F' fn' fc').ownBlock ≠ some T) (hCT : C ≠ T) :
    KA w0 (((w1.setCell ⟨T, 0, none⟩ (.int .i64 kd')).setCell ⟨T, 1, none⟩ (.int .i64 sq')).setCell ⟨T, 2, none⟩ (.slice F' fn' fc')) R T C p' A n c ms kd' sq' F' fn' fc' xs' := by
  have hg := set3_grown w1 T (.int .i64 kd') (.int .i64 sq') (.slice F' fn' fc')
  exact { km := { rd := hk.rd.grown hg (by intro q hq; injection hq with hq; have := hk.rlt; omega), rlt := hk.rlt, num := hk.num, grown := grown_own hk.grown hg (by intro q hq; injection hq with hq; omega),
                  own := hk.own.kept hg (by intro q hq; injection hq with hq; subst hq; exact hmap) }
          bod := ho.kept hg (by intro q hq; injection hq with hq; subst hq; exact hnew)
          fnum := hfn
          box := frame_new T _ _ _ hbox _ _ _
          res := hres.grown hg (by intro e; injection e with e; exact hCT e)
          tr := h.tr, cr := h.cr }
theorem DA.of {wb : World} {z a : Int} (hb : Below wb.heap.size wb w0) (hC : wb.heap.size ≤ C) (h : KA w0 w R T C p A n c ms kd sq F fn fc xs) (hCR : C < w0.heap.size)
    (hw : w.grownBy w' (some C)) (hz : -1 ≤ z ∧ z ≤ 5) (ha : 0 ≤ a ∧ a ≤ 70) : DA wb w' A n c ms kd sq F fn fc xs z a := by
  have hcap := h.bod.cap
  have hmap := h.km.own.kept hw (by intro q hq; injection hq with hq; subst hq; intro e; have := (h.km.own.2.block _ e).1; omega)
  have hbod := h.bod.kept hw (by intro q hq; injection hq with hq; subst hq; intro e; have := (h.bod.block _ e).1; omega)
  have hbel : Below wb.heap.size wb w' := (hb.grown h.km.grown hb.size (by intro q hq; injection hq with hq; have := h.cr; omega)).grown hw (Nat.le_trans hb.size h.km.grown.size) (by intro q hq; injection hq with hq; omega)
  exact { dm := { mpi := hmap.mpi, num := h.km.num, nc := h.km.own.cap.1, cm := h.km.own.cap.2, below := hbel }, bod := hbod.ints, fnum := h.fnum, fnc := hcap.1, fcm := hcap.2, z0 := hz, a0 := ha }
end

set_option maxHeartbeats 12800000 in
theorem drawMA_any (A : Option Addr) (n c : Nat) (bs : Nat → Int) (w : World) (hb : Bytes w w.heap.size A n bs) (hn : n ≤ c) (hc : c ≤ maxLen) :
    Calls Try.prog 13 #[.slice A n c] w fun e w' => ∃ A1 m c1 ms kd sq F fn fc xs z a, e = .returned (.tuple #[.slice A1 m c1, .agg #[.int .i64 kd, .int .i64 sq, .slice F fn fc], .int .i64 z, .int .i64 a]) ∧ DA w w' A1 m c1 ms kd sq F fn fc xs z a := by
  obtain ⟨W0, hW0⟩ : ∃ W0, w.alloc (.cells #[.int .i64 0, .int .i64 0, .slice none 0 0] 26) = W0 := ⟨_, rfl⟩
  have HSW := hide (show W0.heap.size = w.heap.size + 1 by rw [← hW0]; simp)
  have HW0 := hide (show Below w.heap.size w W0 by rw [← hW0]; exact below_new w _)
  have HC0 := hide (show Blk W0 w.heap.size 26 #[.int .i64 0, .int .i64 0, .slice none 0 0] by rw [← hW0]; exact Blk.new w _ _)
  have HBY : Hid (Bytes W0 W0.heap.size A n bs) := by
    have h1 : Bytes W0 w.heap.size A n bs := hb.keep (fun p hp => HW0.out.cell hp)
    intro hn0
    obtain ⟨ad, e, hl, hcl⟩ := h1 hn0
    exact ⟨ad, e, by have := HSW.out; omega, hcl⟩
  clear hb
  go_enter Try.func13, Try.ntmps13
  go_wp2_with fail
  refine (open_any A n c bs W0 HBY.out hn hc).mono ?_
  rintro e w1 ⟨rfl, hr1, hb1⟩
  obtain ⟨R, hR⟩ : ∃ R, W0.heap.size = R := ⟨_, rfl⟩
  rw [hR] at hr1
  have HR1 := hide hR
  have HR := hide hr1
  have HB := hide (HW0.out.trans (hb1.mono HW0.out.size))
  have HC1 := hide (HC0.out.below hb1 (by have := HSW.out; omega))
  have HWR := hide (show w.heap.size < R by rw [← hR]; have := HSW.out; omega)
  have HRW1 := hide hr1.lt
  rw [hR]
  clear hr1 hb1 HBY hR HC0 HW0 HSW hW0
  go_wp2_with fail
  refine (map91_any R 0 w1 HR.out (by omega)).mono ?_
  rintro e w2 ⟨A2, m, c2, ms, p2, rfl, h20, h21, hk⟩
  have HK := hide hk
  have HC2 := hide (HC1.out.grown hk.grown (by intro e; injection e with e; have := HWR.out; omega))
  have HS2 := hide hk.grown.size
  clear hk HC1
  go_wp2_with fail
  refine (body91_any R p2 _ HK.out.rd (by omega)).mono ?_
  rintro e w3 ⟨kd, F, fn, fc, xs, p3, rfl, ho3, hfn, hp30, hp31, hr3, hg3⟩
  have HK3 := hide (HK.out.pick hr3 hg3)
  have HO3 := hide (ho3.mono HS2.out)
  have HC3 := hide (HC2.out.grown hg3 (by intro e; injection e with e; have := HWR.out; omega))
  clear ho3 hr3 hg3 HC2 HK
  go_wp2_with fail
  refine (pick_any R _ 50 _ HK3.out.rd (by omega) (by omega)).mono ?_
  rintro e w4 ⟨v4, rfl, hv40, hv41, hr4, hg4⟩
  have HK4 := hide (HK3.out.pick hr4 hg4)
  have HO4 := hide (HO3.out.kept hg4 (by intro q hq; injection hq with hq; subst hq; intro e; have := (HO3.out.block _ e).1; have := HRW1.out; omega))
  have HC4 := hide (HC3.out.grown hg4 (by intro e; injection e with e; have := HWR.out; omega))
  clear hr4 hg4 HC3 HK3 HO3
  have HKA : Hid (KA w1 (w4.alloc (.cells #[.int .i64 kd, .int .i64 (1 + v4), .slice F fn fc] 26)) R w4.heap.size w.heap.size (p3 + 1) A2 m c2 ms kd (1 + v4) F fn fc xs) :=
    { km := HK4.out.alloc _, bod := HO4.out.alloc _, fnum := hfn, box := Blk.new w4 _ _, res := HC4.out.alloc _, tr := by have := HK4.out.rd.lt; omega, cr := HWR.out }
  have HMT := hide (show (Value.slice A2 m c2).ownBlock ≠ some w4.heap.size by intro e; have := (HK4.out.own.2.block _ e).2; omega)
  have HFT := hide (show (Value.slice F fn fc).ownBlock ≠ some w4.heap.size by intro e; have := (HO4.out.block _ e).2; omega)
  have HS4 := hide HK4.out.grown.size
  have HCT := hide (show w.heap.size ≠ w4.heap.size by have := HS4.out; have := HRW1.out; have := HWR.out; omega)
  obtain ⟨W5, hW5⟩ : ∃ W5, w4.alloc (.cells #[.int .i64 kd, .int .i64 (1 + v4), .slice F fn fc] 26) = W5 := ⟨_, rfl⟩
  rw [hW5] at HKA
  have HT5 := hide (show w4.heap.size < W5.heap.size by rw [← hW5]; simp)
  clear HK4 HO4 HC4
  obtain ⟨T, hT⟩ : ∃ T, w4.heap.size = T := ⟨_, rfl⟩
  rw [hT] at HKA HMT HFT HS4 HCT HT5
  obtain ⟨C, hC⟩ : ∃ C, w.heap.size = C := ⟨_, rfl⟩
  have HCC := hide hC
  rw [hC] at HKA HCT
  have HWC := hide (show C < R by rw [← hC]; exact HWR.out)
  go_wp2_with fail
  try rw [hW5]
  try rw [hT]
  try rw [hC]
  refine (pick_any R _ 12 _ HKA.out.km.rd (by omega) (by omega)).mono ?_
  rintro e w6 ⟨v6, rfl, hv60, hv61, hr6, hg6⟩
  have HK6 := hide (HKA.out.pick hr6 hg6)
  have HT6 := hide (Nat.lt_of_lt_of_le HT5.out hg6.size)
  clear hr6 hg6 HKA hW5 hT hC HT5
  by_cases h60 : v6 = 0
  · subst h60
    go_wp2_with fail
    refine (frame_any R _ _ HK6.out.km.rd (by omega)).mono ?_
    rintro e w7 ⟨kd', sq', F', fn', fc', xs', p7, rfl, ho7, hfn7, hr7, hk0, hk1, hs0, hs1, hp70, hp71, hrd7, hg7⟩
    have HK7 := hide (HK6.out.pick hrd7 hg7)
    have HST := hide (HK7.out.store (kd' := kd') (sq' := sq') HS4.out HFT.out HK7.out.km HK7.out.box HK7.out.res (ho7.mono HK6.out.km.grown.size) (by omega) HMT.out (by intro e; have := (ho7.block _ e).1; have := HT6.out; omega) HCT.out)
    obtain ⟨⟨b0, b1, b2⟩, _, _, ⟨g0, g1, g2⟩⟩ := HK7.out.cells
    have hne1 : (w7.setCell ⟨T, 0, none⟩ (.int .i64 kd')).cell? ⟨T, 1, none⟩ = some (.int .i64 (1 + v4)) := by rw [(HK7.out.box.set_ 0 (.int .i64 kd')).cell]; rfl
    have hne2 : ((w7.setCell ⟨T, 0, none⟩ (.int .i64 kd')).setCell ⟨T, 1, none⟩ (.int .i64 sq')).cell? ⟨T, 2, none⟩ = some (.slice F fn fc) := by rw [((HK7.out.box.set_ 0 (.int .i64 kd')).set_ 1 (.int .i64 sq')).cell]; rfl
    obtain ⟨W7, hW7⟩ : ∃ W7, ((w7.setCell ⟨T, 0, none⟩ (.int .i64 kd')).setCell ⟨T, 1, none⟩ (.int .i64 sq')).setCell ⟨T, 2, none⟩ (.slice F' fn' fc') = W7 := ⟨_, rfl⟩
    rw [hW7] at HST
    clear ho7 hrd7 hg7 HK6 HK7 HMT HFT hfn hfn7 hr7
    go_wp2_with fail
    try rw [hW7]
    refine (zone91_any R _ _ HST.out.km.rd (by omega)).mono ?_
    rintro e w8 ⟨z, p8, rfl, hz0, hz1, hp80, hp81, hr8, hg8⟩
    have HK8 := hide (HST.out.pick hr8 hg8)
    clear hr8 hg8 HST
    try clear b0 b1 b2 g0 g1 g2 hne1 hne2 hW7
    go_wp2_with fail
    refine (pick_any R _ 10 _ HK8.out.km.rd (by omega) (by omega)).mono ?_
    rintro e w9 ⟨v9, rfl, hv90, hv91, hr9, hg9⟩
    have HK9 := hide (HK8.out.pick hr9 hg9)
    obtain ⟨⟨b0, b1, b2⟩, ⟨d0, d1, d2⟩, ⟨e0, e1, e2⟩, _⟩ := HK9.out.cells
    clear hr9 hg9 HK8
    by_cases h90 : v9 = 0
    · subst h90
      go_upto_region 9 with (fail)
      go_region_with ((first
          | (go_at_call 38; refine (pick_any R _ 22 _ (HK9.out.km.rd.drewN 1) (by omega) (by omega)).mono ?_; rintro e w10 ⟨v10, rfl, hv100, hv101, hr10, hg10'⟩; have hg10 := grown_undrewA (i := 1) hg10'; clear hg10'; have HK10 := hide (HK9.out.pick hr10 hg10); have hv10w : IntKind.i64.wrap (44 + v10) = 44 + v10 := IntWalk.i64_in _ (by omega); obtain ⟨⟨k0, k1, k2⟩, ⟨l0, l1, l2⟩, ⟨m0, m1, m2⟩, _⟩ := HK10.out.cells; clear hr10 hg10)))
      all_goals
        try clear b0 b1 b2 d0 d1 d2 e0 e1 e2 l0 l1 l2 m0 m1 m2 k0 k1 k2
        have b0 := HK10.out.res.set_ 0 (.int .i64 kd')
        have b1 := b0.set_ 1 (.int .i64 sq')
        have b2 := b1.set_ 2 (.slice F' fn' fc')
        have hD := hide (DA.of (z := z) (a := (44 + v10)) HB.out (Nat.le_of_eq HCC.out) HK10.out (Nat.lt_trans HWC.out HRW1.out) (set3_grown w10 C (.int .i64 kd') (.int .i64 sq') (.slice F' fn' fc')) ⟨hz0, hz1⟩ (by omega))
        have r0 : (w10.setCell ⟨C, 0, none⟩ (.int .i64 kd')).cell? ⟨C, 0, none⟩ = some (.int .i64 kd') := by rw [b0.cell]; rfl
        have r1 : ((w10.setCell ⟨C, 0, none⟩ (.int .i64 kd')).setCell ⟨C, 1, none⟩ (.int .i64 sq')).cell? ⟨C, 1, none⟩ = some (.int .i64 sq') := by rw [b1.cell]; rfl
        have r2 : (((w10.setCell ⟨C, 0, none⟩ (.int .i64 kd')).setCell ⟨C, 1, none⟩ (.int .i64 sq')).setCell ⟨C, 2, none⟩ (.slice F' fn' fc')).cell? ⟨C, 2, none⟩ = some (.slice F' fn' fc') := by rw [b2.cell]; rfl
        clear b0 b1 b2 HK9 HK10
        go_wp2
        refine bodyPost_ret (v := .tuple #[.slice A2 m c2, .agg #[.int .i64 kd', .int .i64 sq', .slice F' fn' fc'], .int .i64 z, .int .i64 (44 + v10)]) (by simp [results, Try.results13, go_sem, r0, r1, r2]) rfl ?_
        exact ⟨_, _, _, _, _, _, _, _, _, _, _, _, rfl, hD.out⟩

    · have h90' : (v9 == 0) = false := by simpa using h90
      go_upto_region 10 with (fail)
      go_region_with ((first
          | (go_at_call 38; refine (pick_any R _ 40 _ (HK9.out.km.rd.drewN 1) (by omega) (by omega)).mono ?_; rintro e w10 ⟨v10, rfl, hv100, hv101, hr10, hg10'⟩; have hg10 := grown_undrewA (i := 1) hg10'; clear hg10'; have HK10 := hide (HK9.out.pick hr10 hg10); have hv10w : IntKind.i64.wrap (44 + v10) = 44 + v10 := IntWalk.i64_in _ (by omega); obtain ⟨⟨k0, k1, k2⟩, ⟨l0, l1, l2⟩, ⟨m0, m1, m2⟩, _⟩ := HK10.out.cells; clear hr10 hg10)))
      all_goals
        try clear b0 b1 b2 d0 d1 d2 e0 e1 e2 l0 l1 l2 m0 m1 m2 k0 k1 k2
        have b0 := HK10.out.res.set_ 0 (.int .i64 kd')
        have b1 := b0.set_ 1 (.int .i64 sq')
        have b2 := b1.set_ 2 (.slice F' fn' fc')
        have hD := hide (DA.of (z := z) (a := v10) HB.out (Nat.le_of_eq HCC.out) HK10.out (Nat.lt_trans HWC.out HRW1.out) (set3_grown w10 C (.int .i64 kd') (.int .i64 sq') (.slice F' fn' fc')) ⟨hz0, hz1⟩ (by omega))
        have r0 : (w10.setCell ⟨C, 0, none⟩ (.int .i64 kd')).cell? ⟨C, 0, none⟩ = some (.int .i64 kd') := by rw [b0.cell]; rfl
        have r1 : ((w10.setCell ⟨C, 0, none⟩ (.int .i64 kd')).setCell ⟨C, 1, none⟩ (.int .i64 sq')).cell? ⟨C, 1, none⟩ = some (.int .i64 sq') := by rw [b1.cell]; rfl
        have r2 : (((w10.setCell ⟨C, 0, none⟩ (.int .i64 kd')).setCell ⟨C, 1, none⟩ (.int .i64 sq')).setCell ⟨C, 2, none⟩ (.slice F' fn' fc')).cell? ⟨C, 2, none⟩ = some (.slice F' fn' fc') := by rw [b2.cell]; rfl
        clear b0 b1 b2 HK9 HK10
        go_wp2
        refine bodyPost_ret (v := .tuple #[.slice A2 m c2, .agg #[.int .i64 kd', .int .i64 sq', .slice F' fn' fc'], .int .i64 z, .int .i64 v10]) (by simp [results, Try.results13, go_sem, r0, r1, r2]) rfl ?_
        exact ⟨_, _, _, _, _, _, _, _, _, _, _, _, rfl, hD.out⟩

  · have h60' : (v6 == 0) = false := by simpa using h60
    clear HMT HFT
    go_wp2_with fail
    try rw [hW7]
    refine (zone91_any R _ _ HK6.out.km.rd (by omega)).mono ?_
    rintro e w8 ⟨z, p8, rfl, hz0, hz1, hp80, hp81, hr8, hg8⟩
    have HK8 := hide (HK6.out.pick hr8 hg8)
    clear hr8 hg8 HK6
    try clear b0 b1 b2 g0 g1 g2 hne1 hne2 hW7
    go_wp2_with fail
    refine (pick_any R _ 10 _ HK8.out.km.rd (by omega) (by omega)).mono ?_
    rintro e w9 ⟨v9, rfl, hv90, hv91, hr9, hg9⟩
    have HK9 := hide (HK8.out.pick hr9 hg9)
    obtain ⟨⟨b0, b1, b2⟩, ⟨d0, d1, d2⟩, ⟨e0, e1, e2⟩, _⟩ := HK9.out.cells
    clear hr9 hg9 HK8
    by_cases h90 : v9 = 0
    · subst h90
      go_upto_region 9 with (fail)
      go_region_with ((first
          | (go_at_call 38; refine (pick_any R _ 22 _ (HK9.out.km.rd.drewN 1) (by omega) (by omega)).mono ?_; rintro e w10 ⟨v10, rfl, hv100, hv101, hr10, hg10'⟩; have hg10 := grown_undrewA (i := 1) hg10'; clear hg10'; have HK10 := hide (HK9.out.pick hr10 hg10); have hv10w : IntKind.i64.wrap (44 + v10) = 44 + v10 := IntWalk.i64_in _ (by omega); obtain ⟨⟨k0, k1, k2⟩, ⟨l0, l1, l2⟩, ⟨m0, m1, m2⟩, _⟩ := HK10.out.cells; clear hr10 hg10)))
      all_goals
        try clear b0 b1 b2 d0 d1 d2 e0 e1 e2 l0 l1 l2 m0 m1 m2 k0 k1 k2
        have b0 := HK10.out.res.set_ 0 (.int .i64 kd)
        have b1 := b0.set_ 1 (.int .i64 (1 + v4))
        have b2 := b1.set_ 2 (.slice F fn fc)
        have hD := hide (DA.of (z := z) (a := (44 + v10)) HB.out (Nat.le_of_eq HCC.out) HK10.out (Nat.lt_trans HWC.out HRW1.out) (set3_grown w10 C (.int .i64 kd) (.int .i64 (1 + v4)) (.slice F fn fc)) ⟨hz0, hz1⟩ (by omega))
        have r0 : (w10.setCell ⟨C, 0, none⟩ (.int .i64 kd)).cell? ⟨C, 0, none⟩ = some (.int .i64 kd) := by rw [b0.cell]; rfl
        have r1 : ((w10.setCell ⟨C, 0, none⟩ (.int .i64 kd)).setCell ⟨C, 1, none⟩ (.int .i64 (1 + v4))).cell? ⟨C, 1, none⟩ = some (.int .i64 (1 + v4)) := by rw [b1.cell]; rfl
        have r2 : (((w10.setCell ⟨C, 0, none⟩ (.int .i64 kd)).setCell ⟨C, 1, none⟩ (.int .i64 (1 + v4))).setCell ⟨C, 2, none⟩ (.slice F fn fc)).cell? ⟨C, 2, none⟩ = some (.slice F fn fc) := by rw [b2.cell]; rfl
        clear b0 b1 b2 HK9 HK10
        go_wp2
        refine bodyPost_ret (v := .tuple #[.slice A2 m c2, .agg #[.int .i64 kd, .int .i64 (1 + v4), .slice F fn fc], .int .i64 z, .int .i64 (44 + v10)]) (by simp [results, Try.results13, go_sem, r0, r1, r2]) rfl ?_
        exact ⟨_, _, _, _, _, _, _, _, _, _, _, _, rfl, hD.out⟩

    · have h90' : (v9 == 0) = false := by simpa using h90
      go_upto_region 10 with (fail)
      go_region_with ((first
          | (go_at_call 38; refine (pick_any R _ 40 _ (HK9.out.km.rd.drewN 1) (by omega) (by omega)).mono ?_; rintro e w10 ⟨v10, rfl, hv100, hv101, hr10, hg10'⟩; have hg10 := grown_undrewA (i := 1) hg10'; clear hg10'; have HK10 := hide (HK9.out.pick hr10 hg10); have hv10w : IntKind.i64.wrap (44 + v10) = 44 + v10 := IntWalk.i64_in _ (by omega); obtain ⟨⟨k0, k1, k2⟩, ⟨l0, l1, l2⟩, ⟨m0, m1, m2⟩, _⟩ := HK10.out.cells; clear hr10 hg10)))
      all_goals
        try clear b0 b1 b2 d0 d1 d2 e0 e1 e2 l0 l1 l2 m0 m1 m2 k0 k1 k2
        have b0 := HK10.out.res.set_ 0 (.int .i64 kd)
        have b1 := b0.set_ 1 (.int .i64 (1 + v4))
        have b2 := b1.set_ 2 (.slice F fn fc)
        have hD := hide (DA.of (z := z) (a := v10) HB.out (Nat.le_of_eq HCC.out) HK10.out (Nat.lt_trans HWC.out HRW1.out) (set3_grown w10 C (.int .i64 kd) (.int .i64 (1 + v4)) (.slice F fn fc)) ⟨hz0, hz1⟩ (by omega))
        have r0 : (w10.setCell ⟨C, 0, none⟩ (.int .i64 kd)).cell? ⟨C, 0, none⟩ = some (.int .i64 kd) := by rw [b0.cell]; rfl
        have r1 : ((w10.setCell ⟨C, 0, none⟩ (.int .i64 kd)).setCell ⟨C, 1, none⟩ (.int .i64 (1 + v4))).cell? ⟨C, 1, none⟩ = some (.int .i64 (1 + v4)) := by rw [b1.cell]; rfl
        have r2 : (((w10.setCell ⟨C, 0, none⟩ (.int .i64 kd)).setCell ⟨C, 1, none⟩ (.int .i64 (1 + v4))).setCell ⟨C, 2, none⟩ (.slice F fn fc)).cell? ⟨C, 2, none⟩ = some (.slice F fn fc) := by rw [b2.cell]; rfl
        clear b0 b1 b2 HK9 HK10
        go_wp2
        refine bodyPost_ret (v := .tuple #[.slice A2 m c2, .agg #[.int .i64 kd, .int .i64 (1 + v4), .slice F fn fc], .int .i64 z, .int .i64 v10]) (by simp [results, Try.results13, go_sem, r0, r1, r2]) rfl ?_
        exact ⟨_, _, _, _, _, _, _, _, _, _, _, _, rfl, hD.out⟩

end Go.Proofs.Ytgkjbickphdeoaa
