/-
  The walk of FnExactVolumeFormat.
-/
import Derived.Test.YtfianpjoifcphaaExZ0
import Derived.Test.YtfianpjoifcphaaExVm
import Derived.Test.YtfianpjoifcphaaBoxV
import Derived.Test.YtfianpjoifcphaaSpecVF
import Derived.Test.YtfianpjoifcphaaImpVF
namespace Go.Proofs.Ytfianpjoifcphaa
open Go.RowKit
set_option linter.unusedVariables false
set_option maxRecDepth 100000

/-- what the walk keeps: the argument, the model's result and its block, the copy that was handed over, the program's result and its block -/
structure VF (w W : World) (B1 B4 B5 b2 : Nat) (A : Option Addr) (n : Nat) (qs : List Zq) (r : Vq) (A4 : Option Addr) (n4 c4 : Nat) (ys : List Zq) (f : FV) (gs : List Zq) (xs hs : List Int) : Prop where
  i : Zns W w.heap.size A n qs
  w1 : VolI W B1 r
  k1 : Blk W B1 29 (boxV r)
  o4 : OwnZ W B4 A4 n4 c4 ys
  l4 : Lim A4 n4 c4 ys B5
  g5 : f.SV W B5 gs xs hs
  k5 : Blk W b2 29 (boxV (f.vq [] [] []))
  b : Below w.heap.size w W
  le0 : w.heap.size ≤ B1
  le1 : B1 < B4
  le2 : B4 ≤ B5
  le5 : f.g1 ≤ b2
structure VFY (w W : World) (B1 B5 b2 : Nat) (A : Option Addr) (n : Nat) (qs : List Zq) (r : Vq) (f : FV) (gs : List Zq) (xs hs : List Int) : Prop where
  i : Zns W w.heap.size A n qs
  w1 : VolI W B1 r
  k1 : Blk W B1 29 (boxV r)
  g5 : f.SV W B5 gs xs hs
  k5 : Blk W b2 29 (boxV (f.vq [] [] []))
  b : Below w.heap.size w W
  le0 : w.heap.size ≤ B1
  le2 : B1 < B5
  le5 : f.g1 ≤ b2
section
variable {w W W' : World} {B1 B4 B5 b2 n n4 c4 : Nat} {A A4 : Option Addr} {qs ys gs gs' : List Zq} {r : Vq} {f : FV} {xs hs xs' hs' : List Int}
theorem VF.le3 (h : VF w W B1 B4 B5 b2 A n qs r A4 n4 c4 ys f gs xs hs) : B5 ≤ W.heap.size := Nat.le_trans h.g5.le0 h.g5.le2
theorem VFY.le3 (h : VFY w W B1 B5 b2 A n qs r f gs xs hs) : B5 ≤ W.heap.size := Nat.le_trans h.g5.le0 h.g5.le2
theorem VF.below (h : VF w W B1 B4 B5 b2 A n qs r A4 n4 c4 ys f gs xs hs) (hb : Below W.heap.size W W') : VF w W' B1 B4 B5 b2 A n qs r A4 n4 c4 ys f gs xs hs :=
  { i := h.i.below hb h.b.size, w1 := h.w1.below hb (by have := h.le1; have := h.le2; have := h.le3; omega), k1 := h.k1.below hb h.k1.lt, o4 := h.o4.below hb, l4 := h.l4, g5 := SV.below h.g5 hb, k5 := h.k5.below hb h.k5.lt, b := h.b.trans (hb.mono h.b.size), le0 := h.le0, le1 := h.le1, le2 := h.le2, le5 := h.le5 }
theorem VF.mark4 (h : VF w W B1 B4 B5 b2 A n qs r A4 n4 c4 ys f gs xs hs) (hc : Chg B4 B5 W W') : VFY w W' B1 B5 b2 A n qs r f gs xs hs :=
  { i := h.i.below hc.below (by have := h.le0; have := h.le1; omega), w1 := h.w1.below hc.below (Nat.le_of_lt h.le1), k1 := h.k1.below hc.below h.le1, g5 := SV.above h.g5 hc (Nat.le_refl _),
    k5 := (hc.above b2 (Nat.le_trans h.g5.le0 h.le5) h.k5.lt).trans h.k5, b := h.b.trans (hc.below.mono (by have := h.le0; have := h.le1; omega)), le0 := h.le0, le2 := Nat.lt_of_lt_of_le h.le1 h.le2, le5 := h.le5 }
theorem VFY.below (h : VFY w W B1 B5 b2 A n qs r f gs xs hs) (hb : Below W.heap.size W W') : VFY w W' B1 B5 b2 A n qs r f gs xs hs :=
  { i := h.i.below hb h.b.size, w1 := h.w1.below hb (by have := h.le2; have := h.le3; omega), k1 := h.k1.below hb h.k1.lt, g5 := SV.below h.g5 hb, k5 := h.k5.below hb h.k5.lt, b := h.b.trans (hb.mono h.b.size), le0 := h.le0, le2 := h.le2, le5 := h.le5 }
theorem VFY.mark5 (h : VFY w W B1 B5 b2 A n qs r f gs xs hs) (ho : f.SV W' B5 gs' xs' hs') (hb : Below B5 W W') (hk : ∀ (b : Nat) (cs : Array Value), f.g1 ≤ b → Blk W b 29 cs → Blk W' b 29 cs) : VFY w W' B1 B5 b2 A n qs r f gs' xs' hs' :=
  { i := h.i.below hb (by have := h.le0; have := h.le2; omega), w1 := h.w1.below hb (Nat.le_of_lt h.le2), k1 := h.k1.below hb h.le2, g5 := ho, k5 := hk _ _ h.le5 h.k5, b := h.b.trans (hb.mono (by have := h.le0; have := h.le2; omega)), le0 := h.le0, le2 := h.le2, le5 := h.le5 }
end
/-- a block behind all others is written -/
theorem below_own {W W' : World} {o : Obj} (hg : (W.alloc o).grownBy W' (some W.heap.size)) : Below W.heap.size W W' := (below_box W o).grown hg (by simp) (fun k hk => by injection hk with hk; omega)

set_option maxHeartbeats 6400000 in
theorem exactVFormat_walk (A : Option Addr) (n c : Nat) (qs : List Zq) (w : World) (hr : Zns w w.heap.size A n qs) (hn : n ≤ c) (hc : c ≤ maxLen) :
    Calls Try.prog 3 #[.slice A n c] w fun e w' => e = .returned (.bool true) ∧ Below w.heap.size w w' := by
  have HS := hide (szZoneS_any A n c w.heap.size qs w hr (Nat.le_refl _) hn hc)
  have HR := hide hr
  have hlen := hr.1
  clear hr
  go_enter Try.func3, Try.ntmps3
  go_wp2_with fail
  refine HS.out.mono ?_
  rintro e w1 ⟨r, rfl, hr1, hr2, hb1⟩
  by_cases h : r < 0
  · go_wp2
    go_ret
    exact ⟨rfl, hb1⟩
  · obtain ⟨hn1, hl⟩ := hr2 (by omega)
    have HL := hide hl
    have HR1 := hide (HR.out.below hb1 (Nat.le_refl _))
    have HB1 := hide hb1
    have hs1 := hb1.size
    have hn9 : n ≤ 1000000000 := by omega
    have hn12 : n ≤ 1000000000000 := by omega
    have hnm : n ≤ maxLen := by unfold maxLen; omega
    obtain ⟨v, hv⟩ : ∃ v, devV (zns qs) = v := ⟨_, rfl⟩
    obtain ⟨V, hV⟩ : ∃ V, fmtV v = V := ⟨_, rfl⟩
    obtain ⟨cd, hcd⟩ : ∃ cd, fmtC v = cd := ⟨_, rfl⟩
    have HVV := hide hv
    have HVL := hide hV
    have HCD := hide hcd
    clear hr2 hl hb1 HS HR hv hV hcd
    go_wp2_with fail
    refine (toZoneS_any A n c w.heap.size qs _ HR1.out hs1 hn9 HL.out).mono ?_
    rintro e w2 ⟨A2, c2, qs2, rfl, ho2, hz2, hb2⟩
    have HB2 := hide (HB1.out.trans (hb2.mono hs1))
    have hs2 := HB2.out.size
    have HZ2 := hide ho2.zns
    have HE2 := hide hz2
    have HR2 := hide (HR1.out.below hb2 hs1)
    clear ho2 hz2 hb2 HR1 HB1 hs1
    go_wp2_with fail
    refine (specVFormat A2 n c2 _ qs2 _ HZ2.out (Nat.le_refl _) hn12).mono ?_
    rw [HE2.out, HVV.out, HVL.out, HCD.out]
    rintro e w3a ⟨q3, rfl, ho3, hz3, hb3⟩
    have HI3 := hide ho3.voli
    have HZ3 := hide hz3
    have HB3a := hide (HB2.out.trans (hb3.mono hs2))
    have HR3a := hide (HR2.out.below hb3 hs2)
    have HNV := hide Blk.newV
    clear ho3 hz3 hb3 HR2 HB2 HZ2 HE2 hs2
    go_wp2_with (refine wpList_store_vol rfl _ _ rfl w3a.heap.size rfl vq0 q3 rfl (HNV.out w3a) ?_; intro w3 hk3 hg3)
    have hb3 := below_own hg3
    have HB3 := hide (HB3a.out.trans (hb3.mono HB3a.out.size))
    have hs3 := HB3.out.size
    have hsa := HB3a.out.size
    have HR3 := hide (HR3a.out.below hb3 HB3a.out.size)
    have HW3 := hide (HI3.out.below hb3 (Nat.le_refl _))
    have hlt3 := hk3.out.lt
    clear HB3a HR3a HI3 hg3 hb3
    go_wp2_with fail
    refine (toZoneS_any A n c w.heap.size qs _ HR3.out hs3 hn9 HL.out).mono ?_
    rintro e w4 ⟨A4, c4, ys, rfl, ho4, hz4, hb4⟩
    have HB4 := hide (HB3.out.trans (hb4.mono hs3))
    have hs4 := HB4.out.size
    have hs34 := hb4.size
    have HR4 := hide (HR3.out.below hb4 hs3)
    have HW4 := hide (HW3.out.below hb4 (by omega))
    have HK4 := hide (hk3.out.below hb4 hk3.out.lt)
    have HO4 := hide ho4
    have HZ4 := hide hz4
    clear ho4 hz4 hb4 HR3 HB3 HW3 hk3
    go_wp2_with fail
    refine (implVFormat A4 n c4 _ ys _ HO4.out.zns (Nat.le_refl _) hn12).mono ?_
    rw [HZ4.out, HVV.out, HVL.out, HCD.out]
    rintro e w5a ⟨f, gs, ms, hs, rfl, hf, hg5, hv5, hb5⟩
    have HF := hide hf
    have HG := hide (hv5.trans HZ3.out.symm)
    have HYL := hide (show ∀ q ∈ ys, q.words.length ≤ 1048576 by have h1 := small_zns (by omega) HL.out; rw [← HZ4.out] at h1; exact h1.words)
    have hgl : gs.length = f.dn := hg5.dev.len
    have HGL := hide hgl
    have HQ := hide (⟨by have := hf.d4; unfold maxLen; show f.dn ≤ _; omega, Nat.zero_le _, by have := hf.m12; show f.mn ≤ _; omega, by have := hf.h12; unfold maxLen; show f.hn ≤ _; omega⟩ : (f.vq gs ms hs).dn ≤ maxLen ∧ (f.vq gs ms hs).sn ≤ maxLen ∧ (f.vq gs ms hs).mn ≤ 1000000000 ∧ (f.vq gs ms hs).hn ≤ maxLen)
    have HCAP := hide (⟨hg5.dev.cap.2, hg5.map.cap.2, hg5.heat.cap.2⟩ : f.dc ≤ maxLen ∧ f.mc ≤ maxLen ∧ f.hc ≤ maxLen)
    have HE0 : Hid (∀ W, Blk W w5a.heap.size 29 (boxV (f.vq [] [] [])) → Below w5a.heap.size w5a W → VF w W w3a.heap.size w3.heap.size w4.heap.size w5a.heap.size A n qs q3 A4 n c4 ys f gs (fl5 ms) hs) := fun W hk hW =>
      { i := (HR4.out.below hb5 hs4).below hW (by have := hb5.size; omega), w1 := (HW4.out.below hb5 (by omega)).below hW (by have := hb5.size; omega), k1 := (HK4.out.below hb5 HK4.out.lt).below hW (HK4.out.below hb5 HK4.out.lt).lt,
        o4 := (HO4.out.below hb5).below hW, l4 := HO4.out.lim, g5 := SV.below hg5 hW, k5 := hk, b := (HB4.out.trans (hb5.mono hs4)).trans (hW.mono (by have := hb5.size; omega)), le0 := hsa, le1 := hlt3, le2 := hs34, le5 := hg5.le2 }
    clear hg5 hv5 hb5 HB4 HR4 HW4 HO4 HK4 hs3 hs4 hs34 hf hgl hsa hlt3
    go_wp2_with (refine wpList_store_vol rfl _ _ rfl w5a.heap.size rfl vq0 (f.vq [] [] []) rfl (HNV.out w5a) ?_; intro w5 hk5 hg5'; have HE := hide (HE0.out w5 hk5.out (below_own hg5')); clear hg5'; obtain ⟨x0, x1, x2, x3, x4, x5⟩ := box_cells HE.out.k5; obtain ⟨y0, y1, y2, y3, y4, y5⟩ := box_cells HE.out.k1; simp only [FV.vq] at x0 x1 x2 x3 x4 x5)
    clear HE0 hk5 x0 x1 x2 x3 x4 x5 y0 y1 y2 y3 y4 y5
    generalize w3a.heap.size = B1 at HE ⊢
    generalize w3.heap.size = B4 at HE
    generalize w4.heap.size = B5 at HE
    generalize w5a.heap.size = b2 at HE ⊢
    refine (eqVolume_yes (f.vq gs ms hs) q3 _ B1 _ (FV.voli HE.out.g5 HF.out.map) (Nat.le_refl _) HE.out.w1 (by have := HE.out.le1; have := HE.out.le2; have := HE.out.le3; omega) HG.out HQ.out.1 HQ.out.2.1 HQ.out.2.2.1 HQ.out.2.2.2).mono ?_
    rintro e w6 ⟨rfl, hb6⟩
    have HE6 := hide (HE.out.below hb6)
    clear hb6 HE
    go_wp2_with fail
    refine (toZoneS_any A n c w.heap.size qs _ HE6.out.i HE6.out.b.size hn9 HL.out).mono ?_
    rintro e w7 ⟨A7, c7, zs, rfl, ho7, hz7, hb7⟩
    have HE7 := hide (HE6.out.below hb7)
    have HO7 := hide ho7.zns
    have HZ7 := hide (HZ4.out.trans hz7.symm)
    clear hb7 ho7 hz7 HE6
    go_wp2_with fail
    refine (eqZoneS_yes A4 A7 n c4 c7 _ _ ys zs _ HE7.out.o4.zns HO7.out (Nat.le_refl _) (Nat.le_refl _) hnm HZ7.out).mono ?_
    rintro e w8 ⟨rfl, hb8⟩
    have HE8 := hide (HE7.out.below hb8)
    clear hb8 HE7 HO7 HZ7
    go_wp2_with fail
    refine (markZoneS_any A4 n c4 B4 B5 1 ys _ HE8.out.o4 HE8.out.l4 (by have := HE8.out.le1; have := HE8.out.le2; have := HE8.out.le3; omega) (by omega) (by omega) hn9 HYL.out).mono ?_
    rintro e w9 ⟨rfl, ho9, hc9⟩
    have HE9 := hide (HE8.out.mark4 hc9)
    clear ho9 hc9 HE8
    have hk9 := (mvZ_le 1 ys HYL.out).1
    have hkn : ¬ mvZ 1 ys < 0 := by omega
    generalize mvZ 1 ys = k9 at hk9 hkn
    clear hk9
    obtain ⟨x0, x1, x2, x3, x4, x5⟩ := box_cells HE9.out.k5
    obtain ⟨y0, y1, y2, y3, y4, y5⟩ := box_cells HE9.out.k1
    simp only [FV.vq] at x0 x1 x2 x3 x4 x5
    go_wp2_with fail
    refine (eqVolume_yes (f.vq gs ms hs) q3 _ B1 _ (FV.voli HE9.out.g5 HF.out.map) (Nat.le_refl _) HE9.out.w1 (by have := HE9.out.le2; have := HE9.out.le3; omega) HG.out HQ.out.1 HQ.out.2.1 HQ.out.2.2.1 HQ.out.2.2.2).mono ?_
    rintro e w10 ⟨rfl, hb10⟩
    have HE10 := hide (HE9.out.below hb10)
    clear hb10 HE9 x0 x1 x2 x3 x4 x5 y0 y1 y2 y3 y4 y5
    obtain ⟨x0, x1, x2, x3, x4, x5⟩ := box_cells HE10.out.k5
    simp only [FV.vq] at x0 x1 x2 x3 x4 x5
    go_wp2_with fail
    refine (markVolume_any B5 f.g1 f.dA f.dn f.dc gs f.mA f.mn f.mc _ f.hA f.hn f.hc _ f.seq f.zone _ HE10.out.g5 HF.out.d4 HF.out.m12 HF.out.h12 HF.out.words HCAP.out).mono ?_
    rintro e w11 ⟨rfl, ho11, hc11, hk11⟩
    have HE11 := hide (HE10.out.mark5 ho11 hc11 hk11)
    clear ho11 hc11 HE10 hk11 x0 x1 x2 x3 x4 x5
    have hk11 : 0 ≤ mvZ 1 gs + ((f.mn * 5 : Nat) : Int) + (f.hn : Int) := by have := mvZ_nil 1 gs HF.out.words; omega
    obtain ⟨kk, hkk⟩ : ∃ kk, mvZ 1 gs + ((f.mn * 5 : Nat) : Int) + (f.hn : Int) = kk := ⟨_, rfl⟩
    have HKK := hide hkk
    rw [hkk] at hk11 ⊢
    have hkn11 : ¬ kk < 0 := by omega
    clear hkk hk11
    obtain ⟨x0, x1, x2, x3, x4, x5⟩ := box_cells HE11.out.k5
    simp only [FV.vq] at x0 x1 x2 x3 x4 x5
    go_wp2_with fail
    refine (heldVolume_any _ f.dA f.dn f.dc gs f.mA f.mn f.mc f.hA f.hn f.hc f.seq f.zone _ (Nat.le_refl _) HE11.out.g5.dev.zns HE11.out.g5.map.ints HE11.out.g5.heat.ints HF.out.d4 HF.out.m12 HF.out.h12 HF.out.words HGL.out).mono ?_
    rw [HKK.out]
    rintro e w12 ⟨rfl, hb12⟩
    have HE12 := hide (HE11.out.below hb12)
    clear hb12 HE11 x0 x1 x2 x3 x4 x5
    go_wp2_with fail
    refine (toZoneS_any A n c w.heap.size qs _ HE12.out.i HE12.out.b.size hn9 HL.out).mono ?_
    rintro e w13 ⟨A12, c12, us, rfl, ho12, hz12, hb13⟩
    have HE13 := hide (HE12.out.below hb13)
    have HO12 := hide ho12.zns
    have HZ12 := hide hz12
    clear hb13 ho12 hz12 HE12
    go_wp2_with fail
    refine (implVFormat A12 n c12 _ us _ HO12.out (Nat.le_refl _) hn12).mono ?_
    rw [HZ12.out, HVV.out, HVL.out, HCD.out]
    rintro e w14a ⟨f2, gs2, ms2, hs2, rfl, hf2, hg14, hv14, hb14⟩
    have HE14a := hide (HE13.out.below hb14)
    have HI14a := hide (FV.voli hg14 hf2.map)
    have HG14 := hide (hv14.trans HZ3.out.symm)
    have HQ14 := hide (⟨by have := hf2.d4; unfold maxLen; show f2.dn ≤ _; omega, Nat.zero_le _, by have := hf2.m12; show f2.mn ≤ _; omega, by have := hf2.h12; unfold maxLen; show f2.hn ≤ _; omega⟩ : (f2.vq gs2 ms2 hs2).dn ≤ maxLen ∧ (f2.vq gs2 ms2 hs2).sn ≤ maxLen ∧ (f2.vq gs2 ms2 hs2).mn ≤ 1000000000 ∧ (f2.vq gs2 ms2 hs2).hn ≤ maxLen)
    clear hg14 hv14 hb14 hf2 HE13 HO12 HZ12
    go_wp2_with (refine wpList_store_vol rfl _ _ rfl w14a.heap.size rfl vq0 (f2.vq [] [] []) rfl (HNV.out w14a) ?_; intro w14 hk14 hg14; have HE14 := hide (HE14a.out.below (below_own hg14)); obtain ⟨x0, x1, x2, x3, x4, x5⟩ := box_cells hk14.out; obtain ⟨y0, y1, y2, y3, y4, y5⟩ := box_cells HE14.out.k1; simp only [FV.vq] at x0 x1 x2 x3 x4 x5)
    have hb14 := below_own hg14
    have HI14 := hide (HI14a.out.below hb14 (Nat.le_refl _))
    have hsz14 := hb14.size
    clear hg14 hb14 HE14a HI14a
    refine (eqVolume_yes (f2.vq gs2 ms2 hs2) q3 _ B1 _ HI14.out hsz14 HE14.out.w1 (by have := HE14.out.le2; have := HE14.out.le3; omega) HG14.out HQ14.out.1 HQ14.out.2.1 HQ14.out.2.2.1 HQ14.out.2.2.2).mono ?_
    rintro e w15 ⟨rfl, hb15⟩
    have HE15 := hide (HE14.out.below hb15)
    clear hb15 HE14 HI14 hk14 x0 x1 x2 x3 x4 x5 y0 y1 y2 y3 y4 y5
    obtain ⟨x0, x1, x2, x3, x4, x5⟩ := box_cells HE15.out.k5
    simp only [FV.vq] at x0 x1 x2 x3 x4 x5
    go_wp2_with fail
    refine (heldVolume_any _ f.dA f.dn f.dc gs f.mA f.mn f.mc f.hA f.hn f.hc f.seq f.zone _ (Nat.le_refl _) HE15.out.g5.dev.zns HE15.out.g5.map.ints HE15.out.g5.heat.ints HF.out.d4 HF.out.m12 HF.out.h12 HF.out.words HGL.out).mono ?_
    rw [HKK.out]
    rintro e w16 ⟨rfl, hb16⟩
    have HE16 := hide (HE15.out.below hb16)
    clear hb16 x0 x1 x2 x3 x4 x5
    go_wp2
    go_ret
    exact ⟨rfl, HE16.out.b⟩
end Go.Proofs.Ytfianpjoifcphaa
