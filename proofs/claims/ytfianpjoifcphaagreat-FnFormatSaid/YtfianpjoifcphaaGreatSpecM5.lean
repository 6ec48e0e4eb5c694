/-
  The model's l11Apply, MapApply.
-/
import Derived.Test.YtfianpjoifcphaaGreatG3
import Derived.Test.YtfianpjoifcphaaGreatSpecP
import Derived.Test.YtfianpjoifcphaaGreatSpecC
import Derived.Test.YtfianpjoifcphaaGreatG1
import Derived.BigRegion
namespace Go.Proofs.YtfianpjoifcphaaGreat
open Go.RowKit
set_option linter.unusedVariables false
set_option maxRecDepth 100000

/-- a map of one's own that is turned, and the records that turn it -/
structure AK (w : World) (b1 : Nat) (wr : World) (g c2 : Nat) (t : TypeId) (s : Nat) (A5 : Option Addr) (N c5 : Nat) (xs : List Int) (out : List Wh) : Prop where
  own : MpR wr w.heap.size (some ⟨g, 0, none⟩) 12 c2 out
  rcs : OwnR wr b1 t s A5 N c5 xs
  gl : g < b1
  gg : w.heap.size ≤ g
  bel : Below w.heap.size w wr
section
variable {w wr : World} {b1 g c2 s N c5 J : Nat} {t : TypeId} {A5 : Option Addr} {xs : List Int} {out : List Wh}
theorem AK.put (h : AK w b1 wr g c2 t s A5 N c5 xs out) (hJ : J < 12) (x0 x1 x2 x3 x4 : Int) : AK w b1 (set5 wr g J x0 x1 x2 x3 x4) g c2 t s A5 N c5 xs (out.set J (x0, x1, x2, x3, x4)) ∧ Five wr g J x0 x1 x2 x3 x4 := by
  obtain ⟨h1, h2, h3⟩ := h.own.put hJ x0 x1 x2 x3 x4
  exact ⟨{ own := h1, rcs := h.rcs.kept h2 (by intro q hq; injection hq with hq; subst hq; intro e; have := (h.rcs.block _ e).1; have := h.gl; omega), gl := h.gl, gg := h.gg,
           bel := h.bel.grown h2 h.bel.size (by intro q hq; injection hq with hq; have := h.gg; omega) }, h3⟩
theorem AK.drewN (h : AK w b1 wr g c2 t s A5 N c5 xs out) (q : Nat) : AK w b1 (wr.drewN q) g c2 t s A5 N c5 xs out := { h with own := h.own.drewN q, rcs := h.rcs.drewN q, bel := below_drewN h.bel q }
theorem AK.drew (h : AK w b1 wr g c2 t s A5 N c5 xs out) : AK w b1 wr.drew g c2 t s A5 N c5 xs out := h.drewN 1
end
theorem hot_set {z a : Int} {xs : List Int} {k J : Nat} {ms : List Wh} (hJ : blkAt 2 xs k = J) {v : Int} (hv : xs.getD (k * 2 + 1) 0 = v) :
    (0 < v → ((puts (blkAt 2 xs) (hotE z a xs) k ms).set J (0, 0, 0, 0, 0)).set J (1, z, a + 4 + 2 * k, 0, 0) = puts (blkAt 2 xs) (hotE z a xs) (k + 1) ms) ∧
    (¬ 0 < v → (puts (blkAt 2 xs) (hotE z a xs) k ms).set J (0, 0, 0, 0, 0) = puts (blkAt 2 xs) (hotE z a xs) (k + 1) ms) := by
  refine ⟨fun h => ?_, fun h => ?_⟩
  · rw [puts_succ, hJ, List.set_set]
    congr 1
    unfold hotE
    rw [hv, if_pos h]
  · rw [puts_succ, hJ]
    congr 1
    unfold hotE
    rw [hv, if_neg h]
    rfl
theorem cold_set {z a : Int} {xs : List Int} {k J : Nat} {ms : List Wh} (hJ : blkAt 3 xs k = J) {u v : Int} (hu : xs.getD (k * 3 + 1) 0 = u) (hv : xs.getD (k * 3 + 2) 0 = v) :
    (puts (blkAt 3 xs) (coldE z a xs) k ms).set J (2, z, a + 3 + 3 * k, u, v) = puts (blkAt 3 xs) (coldE z a xs) (k + 1) ms := by
  rw [puts_succ, hJ]
  congr 1
  unfold coldE
  rw [hu, hv]

theorem apply_start {w W0 w1 : World} {A2 F : Option Addr} {c2 fn fc : Nat} {kd sq : Int} {ms : List Wh} (hl : ms.length = 12) (hbx : Blk W0 w.heap.size 128 #[.int .i64 kd, .int .i64 sq, .slice F fn fc]) (hs : W0.heap.size = w.heap.size + 1)
    (hw : Below w.heap.size w W0) (ho : OwnR w1 w.heap.size 141 5 A2 (0 + 12) c2 ([] ++ fl5 ms)) (hg : (W0.alloc (.cells #[] 141)).grownBy w1 (Value.slice (some ⟨W0.heap.size, 0, none⟩) 0 0).ownBlock) :
    Hid (MpR w1 w.heap.size A2 12 c2 ms) ∧ Hid (Below w.heap.size w w1) ∧ w1.cell? ⟨w.heap.size, 0, none⟩ = some (.int .i64 kd) ∧ w1.cell? ⟨w.heap.size, 2, none⟩ = some (.slice F fn fc) := by
  have hbk := (hbx.alloc (.cells #[] 141)).grown hg (by intro e; have e2 : w.heap.size = W0.heap.size := Option.some.inj e; omega)
  exact ⟨⟨hl, by simpa using ho⟩, below_app0 hw hw.size hg, by rw [hbk.cell]; rfl, by rw [hbk.cell]; rfl⟩

set_option maxHeartbeats 6400000 in
theorem l11Apply_any (A F : Option Addr) (c fn fc B BF : Nat) (ms : List Wh) (kd sq z a : Int) (xs : List Int) (w : World) (hr : MpI w B A 12 ms) (hf : Ints w BF F fn xs) (hB : B ≤ w.heap.size) (hBF : BF ≤ w.heap.size) (hx : xs.length ≤ 18) (ha : 0 ≤ a ∧ a ≤ 60) :
    Calls Tryz.prog 216 #[.slice A 12 c, .agg #[.int .i64 kd, .int .i64 sq, .slice F fn fc], .int .i64 z, .int .i64 a] w fun e w' => ∃ A2 c2, e = .returned (.tuple #[.slice A2 12 c2, .bool (bodyOk kd xs)]) ∧ (bodyOk kd xs = true → MpR w' w.heap.size A2 12 c2 (apK kd z a xs (recN kd xs) ms)) ∧ Below w.heap.size w w' := by
  have HR := hide hr
  have HF := hide hf
  have HL := hide hf.1
  have hfn : fn ≤ 18 := by rw [← hf.1]; exact hx
  obtain ⟨a0, a1⟩ := ha
  clear hr hf hx
  obtain ⟨W0, hW0⟩ : ∃ W0, w.alloc (.cells #[.int .i64 kd, .int .i64 sq, .slice F fn fc] 128) = W0 := ⟨_, rfl⟩
  have HBX := hide (show Blk W0 w.heap.size 128 #[.int .i64 kd, .int .i64 sq, .slice F fn fc] by rw [← hW0]; exact Blk.new w _ _)
  have HW0 := hide (show Below w.heap.size w W0 by rw [← hW0]; exact below_new w _)
  have HSW := hide (show W0.heap.size = w.heap.size + 1 by rw [← hW0]; simp)
  by_cases hk : kd = 1
  · subst hk
    go_enter Tryz.func216, Tryz.ntmps216
    go_wp2_with (at_builtin; refine wpList_append_recs whT rfl (.tmp 17) (.tmp 18) rfl w.heap.size 0 0 B 12 c (some ⟨W0.heap.size, 0, none⟩) A [] (fl5 ms) rfl (OwnR.lit0 W0 _ HW0.out.size _ _) rfl ((HR.out.below HW0.out hB).alloc (Nat.le_trans hB HW0.out.size) _).2 (by omega) (by have := HSW.out; simp; omega) ?_; intro A2 c2 w1 ho1 hg1 hat1; obtain ⟨HO1, HB1, hq0, hq2⟩ := apply_start HR.out.1 HBX.out HSW.out HW0.out ho1 hg1; clear ho1 hg1 hat1)
    refine (specGetP F fn fc BF xs w1 (HF.out.below HB1.out hBF) (Nat.le_trans hBF HB1.out.size) (by omega)).mono ?_
    rintro e w2 ⟨A5, N, c5, rfl, ho5, hb5⟩
    obtain ⟨g, rfl, hg0, hgl⟩ := HO1.out.2.shape (by omega)
    have HB2 := hide (HB1.out.trans (hb5.mono HB1.out.size))
    have HO2 := hide (HO1.out.below hb5)
    have HW12 := hide hb5.size
    obtain ⟨v, hv⟩ : ∃ v, okG 2 9 fldP xs fn = v := ⟨_, rfl⟩
    rw [hv] at ho5
    have HBO : Hid (bodyOk 1 xs = v) := by show _ = _; unfold bodyOk; rw [if_pos rfl, HL.out]; exact hv
    have HBK : Hid (okG 2 9 fldP xs fn = bodyOk 1 xs) := HBO.out ▸ hv
    rcases v with _ | _
    · have hN : N = 0 := by have := ho5.1; simp at this; omega
      subst hN
      clear ho5 hb5 hv
      go_wp2
      go_loopw [13] (fun i wr => i = .int .i64 0 ∧ w2 = wr) (fun _ _ => 0)
      case atStart => exact ⟨rfl, rfl⟩
      case round =>
        obtain ⟨rfl, rfl⟩ := hrel
        go_wp2
        go_ret2
        exact ⟨some ⟨g, 0, none⟩, c2, by rw [← HBK.out] <;> rfl, (fun h => by rw [HBO.out] at h; cases h), HB2.out⟩
    · have HRI := hide (recs_of (show okG 2 9 fldP xs xs.length = true by rw [HL.out]; exact hv))
      have HNN : Hid (xs.length / 2 = N) := by show _ = _; rw [show xs.length = N * 2 from ho5.1]; omega
      have hN9 : N ≤ 18 := by have := ho5.1; have := HL.out; simp at *; omega
      have HK0 : Hid (AK w w1.heap.size w2 g c2 221 2 A5 N c5 xs (puts (blkAt 2 xs) (hotE z a xs) 0 ms)) := { own := HO2.out, rcs := ho5, gl := hgl, gg := hg0, bel := HB2.out }
      have HFIN : Hid (apK 1 z a xs (recN 1 xs) ms = puts (blkAt 2 xs) (hotE z a xs) N ms) := by show _ = _; unfold apK recN; rw [if_pos rfl, if_pos rfl, HNN.out]
      clear ho5 hb5 hv HB2 HO2 HO1 HB1 hq0 hq2
      go_wp2
      go_loopw [13] (fun i wr => ∃ k : Nat, k ≤ N ∧ i = .int .i64 k ∧ Hid (AK w w1.heap.size wr g c2 221 2 A5 N c5 xs (puts (blkAt 2 xs) (hotE z a xs) k ms))) (fun i _ => N - (intOf i).toNat)
      case atStart => exact ⟨0, Nat.zero_le _, rfl, HK0.out⟩
      case round =>
        clear HK0
        obtain ⟨k, hk, rfl, HK⟩ := hrel
        by_cases hlt : k < N
        · have k0 : (0 : Int) ≤ (k : Int) := by omega
          have k1 : (k : Int) < (N : Int) := by omega
          have hb := HRI.out.blk k (by rw [HNN.out]; exact hlt)
          have hlo := HRI.out.low k (by rw [HNN.out]; exact hlt)
          obtain ⟨ad, p, rfl, hp, hpb, hc0, hc1⟩ := ints_at2 HK.out.rcs.ints hlt
          obtain ⟨J, hJ⟩ : ∃ J, blkAt 2 xs k = J := ⟨_, rfl⟩
          have HJX := hide hJ
          have hJ12 : J < 12 := by rw [← hJ]; exact hlo
          have hx0 : xs.getD (k * 2) 0 = (J : Int) := by rw [← hJ]; unfold blkAt; omega
          obtain ⟨v, hv⟩ : ∃ v, xs.getD (k * 2 + 1) 0 = v := ⟨_, rfl⟩
          rw [hx0] at hc0
          rw [hv] at hc1
          have HST := hide (hot_set (z := z) (a := a) (ms := ms) hJ hv)
          have HV := hide hv
          have HX0 := hide hx0
          obtain ⟨hk1, y0, y1, y2, y3, y4, f0, z0, f1, z1, f2, z2, f3, z3, f4, z4⟩ := HK.out.put hJ12 0 0 0 0 0
          obtain ⟨W1, hW1⟩ : ∃ W1, set5 wr g J 0 0 0 0 0 = W1 := ⟨_, rfl⟩
          rw [hW1] at hk1
          unfold set5 at hW1
          have HK1 := hide hk1
          obtain ⟨ad', p', e1, hp', hpb', hd0, hd1⟩ := ints_at2 hk1.rcs.ints hlt
          cases e1
          obtain rfl := hp.symm.trans hp'
          rw [HX0.out] at hd0
          rw [HV.out] at hd1
          have j0 : (0 : Int) ≤ (J : Int) := by omega
          have j1 : (J : Int) < 12 := by omega
          clear hk1 hp' hpb' hb hlo hJ hx0 hv HK
          by_cases hpos : 0 < v
          · have hpos' : decide (0 < v) = true := by simpa using hpos
            have wa : IntKind.i64.wrap (a + 4) = a + 4 := IntWalk.i64_in _ (by omega)
            have wk : IntKind.i64.wrap (2 * (k : Int)) = 2 * (k : Int) := IntWalk.i64_in _ (by omega)
            have ws : IntKind.i64.wrap (a + 4 + 2 * (k : Int)) = a + 4 + 2 * (k : Int) := IntWalk.i64_in _ (by omega)
            obtain ⟨hk2, y10, y11, y12, y13, y14, f10, z10, f11, z11, f12, z12, f13, z13, f14, z14⟩ := HK1.out.put hJ12 1 z (a + 4 + 2 * (k : Int)) 0 0
            rw [HST.out.1 hpos] at hk2
            have HK2 := hide hk2
            clear hk2 HK1 HST
            go_wp2
            go_roundw
            case rel => exact ⟨k + 1, by omega, by go_num, HK2.out⟩
            case measure => simp [intOf]; omega
          · have hpos' : decide (0 < v) = false := by simpa using hpos
            have HK2 := hide HK1.out
            rw [HST.out.2 hpos] at HK2
            clear HK1 HST
            go_wp2
            go_roundw
            case rel => exact ⟨k + 1, by omega, by go_num, HK2.out⟩
            case measure => simp [intOf]; omega
        · obtain rfl : k = N := by omega
          go_wp2
          go_ret2
          exact ⟨some ⟨g, 0, none⟩, c2, by rw [← HBK.out] <;> rfl, fun _ => by rw [HFIN.out]; exact HK.out.own, HK.out.bel⟩
  · have hk' : (kd == 1) = false := by simpa using hk
    go_enter Tryz.func216, Tryz.ntmps216
    go_wp2_with (at_builtin; refine wpList_append_recs whT rfl (.tmp 17) (.tmp 18) rfl w.heap.size 0 0 B 12 c (some ⟨W0.heap.size, 0, none⟩) A [] (fl5 ms) rfl (OwnR.lit0 W0 _ HW0.out.size _ _) rfl ((HR.out.below HW0.out hB).alloc (Nat.le_trans hB HW0.out.size) _).2 (by omega) (by have := HSW.out; simp; omega) ?_; intro A2 c2 w1 ho1 hg1 hat1; obtain ⟨HO1, HB1, hq0, hq2⟩ := apply_start HR.out.1 HBX.out HSW.out HW0.out ho1 hg1; clear ho1 hg1 hat1)
    refine (specGetC F fn fc BF xs w1 (HF.out.below HB1.out hBF) (Nat.le_trans hBF HB1.out.size) (by omega)).mono ?_
    rintro e w2 ⟨A5, N, c5, rfl, ho5, hb5⟩
    obtain ⟨g, rfl, hg0, hgl⟩ := HO1.out.2.shape (by omega)
    have HB2 := hide (HB1.out.trans (hb5.mono HB1.out.size))
    have HO2 := hide (HO1.out.below hb5)
    have HW12 := hide hb5.size
    obtain ⟨v, hv⟩ : ∃ v, okG 3 6 fldC xs fn = v := ⟨_, rfl⟩
    rw [hv] at ho5
    have HBO : Hid (bodyOk kd xs = v) := by show _ = _; unfold bodyOk; rw [if_neg hk, HL.out]; exact hv
    have HBK : Hid (okG 3 6 fldC xs fn = bodyOk kd xs) := HBO.out ▸ hv
    rcases v with _ | _
    · have hN : N = 0 := by have := ho5.1; simp at this; omega
      subst hN
      clear ho5 hb5 hv
      go_wp2
      go_loopw [16] (fun i wr => i = .int .i64 0 ∧ w2 = wr) (fun _ _ => 0)
      case atStart => exact ⟨rfl, rfl⟩
      case round =>
        obtain ⟨rfl, rfl⟩ := hrel
        go_wp2
        go_ret2
        exact ⟨some ⟨g, 0, none⟩, c2, by rw [← HBK.out] <;> rfl, (fun h => by rw [HBO.out] at h; cases h), HB2.out⟩
    · have HRI := hide (recs_of (show okG 3 6 fldC xs xs.length = true by rw [HL.out]; exact hv))
      have HNN : Hid (xs.length / 3 = N) := by show _ = _; rw [show xs.length = N * 3 from ho5.1]; omega
      have hN9 : N ≤ 18 := by have := ho5.1; have := HL.out; simp at *; omega
      have HK0 : Hid (AK w w1.heap.size w2 g c2 228 3 A5 N c5 xs (puts (blkAt 3 xs) (coldE z a xs) 0 ms)) := { own := HO2.out, rcs := ho5, gl := hgl, gg := hg0, bel := HB2.out }
      have HFIN : Hid (apK kd z a xs (recN kd xs) ms = puts (blkAt 3 xs) (coldE z a xs) N ms) := by show _ = _; unfold apK recN; rw [if_neg hk, if_neg hk, HNN.out]
      clear ho5 hb5 hv HB2 HO2 HO1 HB1 hq0 hq2
      go_wp2
      go_loopw [16] (fun i wr => ∃ k : Nat, k ≤ N ∧ i = .int .i64 k ∧ Hid (AK w w1.heap.size wr g c2 228 3 A5 N c5 xs (puts (blkAt 3 xs) (coldE z a xs) k ms))) (fun i _ => N - (intOf i).toNat)
      case atStart => exact ⟨0, Nat.zero_le _, rfl, HK0.out⟩
      case round =>
        clear HK0
        obtain ⟨k, hk, rfl, HK⟩ := hrel
        by_cases hlt : k < N
        · have k0 : (0 : Int) ≤ (k : Int) := by omega
          have k1 : (k : Int) < (N : Int) := by omega
          have hb := HRI.out.blk k (by rw [HNN.out]; exact hlt)
          have hlo := HRI.out.low k (by rw [HNN.out]; exact hlt)
          obtain ⟨ad, p, rfl, hp, hpb, hc0, hc1, hc2⟩ := ints_at3 HK.out.rcs.ints hlt
          obtain ⟨J, hJ⟩ : ∃ J, blkAt 3 xs k = J := ⟨_, rfl⟩
          have hJ12 : J < 12 := by rw [← hJ]; exact hlo
          have hx0 : xs.getD (k * 3) 0 = (J : Int) := by rw [← hJ]; unfold blkAt; omega
          obtain ⟨u, hu⟩ : ∃ u, xs.getD (k * 3 + 1) 0 = u := ⟨_, rfl⟩
          obtain ⟨v, hv⟩ : ∃ v, xs.getD (k * 3 + 2) 0 = v := ⟨_, rfl⟩
          rw [hx0] at hc0
          rw [hu] at hc1
          rw [hv] at hc2
          have HST := hide (cold_set (z := z) (a := a) (ms := ms) hJ hu hv)
          have j0 : (0 : Int) ≤ (J : Int) := by omega
          have j1 : (J : Int) < 12 := by omega
          have wa : IntKind.i64.wrap (a + 3) = a + 3 := IntWalk.i64_in _ (by omega)
          have wk : IntKind.i64.wrap (3 * (k : Int)) = 3 * (k : Int) := IntWalk.i64_in _ (by omega)
          have ws : IntKind.i64.wrap (a + 3 + 3 * (k : Int)) = a + 3 + 3 * (k : Int) := IntWalk.i64_in _ (by omega)
          obtain ⟨hk1, _⟩ := HK.out.put hJ12 2 z (a + 3 + 3 * (k : Int)) u v
          rw [HST.out] at hk1
          have HK1 := hide hk1.drew
          obtain ⟨y0, y1, y2, y3, y4, ⟨f0, f1, f2, f3, f4⟩, z0, z1, z2, z3, z4⟩ := HK.out.own.five hJ12
          clear hk1 hb hlo hJ hx0 hv hu HK HST
          go_wp2_with fail
          go_region
          all_goals
            go_wp2
            go_roundw
            case rel => exact ⟨k + 1, by omega, by go_num, HK1.out⟩
            case measure => simp [intOf]; omega
        · obtain rfl : k = N := by omega
          go_wp2
          go_ret2
          exact ⟨some ⟨g, 0, none⟩, c2, by rw [← HBK.out] <;> rfl, fun _ => by rw [HFIN.out]; exact HK.out.own, HK.out.bel⟩
end Go.Proofs.YtfianpjoifcphaaGreat
