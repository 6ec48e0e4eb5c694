/-
  The walk of FnExactFrameGet.
-/
import Derived.Test.YtamokhieopcaaaaExactA
import Derived.Test.YtamokhieopcaaaaFrameI
import Derived.Test.YtamokhieopcaaaaFrameU
import Derived.Test.YtamokhieopcaaaaFrameM
import Derived.Test.YtamokhieopcaaaaRng
namespace Go.Proofs.Ytamokhieopcaaaa
open Go.RowKit
set_option linter.unusedVariables false
set_option maxRecDepth 100000

/-- both FrameGets answer the same, whatever the words -/
theorem get_both (xs : List Int) (n : Nat) (p : Int) (hp : p ≤ 9223372036854775807) (hn : n ≤ 1048576) (hl : xs.length = n) : ∃ (x0 x1 nx : Int) (m : Nat) (body : List Int) (ok : Bool), m ≤ 18 ∧
    (∀ (A : Option Addr) (c : Nat) (W : World), Ints W W.heap.size A n xs → n ≤ c → c ≤ 9223372036854775807 → (A = none → c = 0) →
      Calls Try.prog 9 #[.slice A n c, .int .i64 p] W fun e w' => ∃ A2 c2, e = .returned (.tuple #[.agg #[.int .i64 x0, .int .i64 x1, .slice A2 m c2], .int .i64 nx, .bool ok]) ∧ Own w' W.heap.size A2 m c2 body ∧ Below W.heap.size W w') ∧
    (∀ (A : Option Addr) (c : Nat) (W : World), Ints W W.heap.size A n xs → n ≤ c → c ≤ 9223372036854775807 →
      Calls Try.prog 10 #[.slice A n c, .int .i64 p] W fun e w' => ∃ A2 c2, e = .returned (.tuple #[.agg #[.int .i64 x0, .int .i64 x1, .slice A2 m c2], .int .i64 nx, .bool ok]) ∧ Own w' W.heap.size A2 m c2 body ∧ Below W.heap.size W w') := by
  by_cases hg : goodF xs n p
  · obtain ⟨a, m, rfl, hm, hl2, hv, hs⟩ := goodF_parts hg
    have hm18 := (validF_iff.1 hv).2.2.1
    rw [cutW_length _ _ _ (by omega)] at hm18
    exact ⟨xs.getD a 0, xs.getD (a + 1) 0, (a : Int) + 4 + m, m, cutW xs (a + 3) m, true, by omega,
      fun A c W h hc hc2 h0 => implGet_yes A n c a m _ xs W rfl h hc hc2 (by omega) h0 hm hl2 _ _ _ rfl rfl rfl hv hs,
      fun A c W h hc hc2 => specGet_yes A n c a m _ xs W rfl h hc hc2 (by omega) hm hl2 _ _ _ rfl rfl rfl hv hs⟩
  · refine ⟨0, 0, 0, 0, [], false, by omega, fun A c W h hc hc2 h0 => ?_, fun A c W h hc hc2 => ?_⟩
    · exact (implGet_no A n c p xs W h hc hc2 (by omega) h0 hp hg).mono fun e w' ⟨he, hb⟩ => ⟨none, 0, he, Own.nil_ _ _, hb⟩
    · exact (specGet_no A n c p xs W h hc hc2 (by omega) hp hg).mono fun e w' ⟨he, hb⟩ => ⟨none, 0, he, Own.nil_ _ _, hb⟩

theorem Own.nilc' {w : World} {base n c : Nat} {A : Option Addr} {xs : List Int} (h : Own w base A n c xs) : A = none → c = 0 := by
  rcases h.2.2 with ⟨hv, h0⟩ | ⟨g, cap, cur, hv, hb, hh, hc, hm, hs, ht⟩
  · injection hv with _ _ h2; intro _; exact h2
  · injection hv with h1; intro e; rw [h1] at e; cases e

/-- what the exact law of FrameGet knows behind its first calls -/
structure GX (w W : World) (X0 B4 B5 X1 : Nat) (x0 x1 : Int) (A : Option Addr) (n : Nat) (xs : List Int) (A1 : Option Addr) (m c1 : Nat) (body : List Int) (A4 : Option Addr) (c4 : Nat) (ys : List Int) (A5 : Option Addr) (c5 : Nat) (gs : List Int) : Prop where
  i : Ints W w.heap.size A n xs
  q : Blk W X0 27 #[.int .i64 x0, .int .i64 x1, .slice A1 m c1]
  w1 : Ints W X0 A1 m body
  o4 : Own W B4 A4 n c4 ys
  p : Blk W X1 27 #[.int .i64 x0, .int .i64 x1, .slice A5 m c5]
  g5 : Own W B5 A5 m c5 gs
  b : Below w.heap.size w W
  le0 : w.heap.size ≤ X0
  le1 : X0 < B4
  le2 : B4 ≤ B5
  le3 : B5 ≤ X1
  lt : X1 < W.heap.size
  lt4 : ∀ g, (Value.slice A4 n c4).ownBlock = some g → g < B5
  lt5 : ∀ g, (Value.slice A5 m c5).ownBlock = some g → g < X1
section
variable {w W W' : World} {X0 B4 B5 X1 : Nat} {x0 x1 : Int} {A A1 A4 A5 : Option Addr} {n m c1 c4 c5 : Nat} {xs body ys gs : List Int}
theorem GX.below (h : GX w W X0 B4 B5 X1 x0 x1 A n xs A1 m c1 body A4 c4 ys A5 c5 gs) (hb : Below W.heap.size W W') : GX w W' X0 B4 B5 X1 x0 x1 A n xs A1 m c1 body A4 c4 ys A5 c5 gs :=
  { i := h.i.below hb h.b.size, q := h.q.below hb h.q.lt, w1 := h.w1.below hb (Nat.le_of_lt h.q.lt), o4 := h.o4.below hb, p := h.p.below hb h.p.lt, g5 := h.g5.below hb, b := h.b.trans (hb.mono h.b.size)
    le0 := h.le0, le1 := h.le1, le2 := h.le2, le3 := h.le3, lt := Nat.lt_of_lt_of_le h.lt hb.size, lt4 := h.lt4, lt5 := h.lt5 }
theorem GX.drewN (h : GX w W X0 B4 B5 X1 x0 x1 A n xs A1 m c1 body A4 c4 ys A5 c5 gs) (k : Nat) : GX w (W.drewN k) X0 B4 B5 X1 x0 x1 A n xs A1 m c1 body A4 c4 ys A5 c5 gs :=
  h.below (below_drewN (Below.refl _ _) k)
theorem GX.mark4 {ys' : List Int} (h : GX w W X0 B4 B5 X1 x0 x1 A n xs A1 m c1 body A4 c4 ys A5 c5 gs) (ho : Own W' B4 A4 n c4 ys') (hg : W.grownBy W' (Value.slice A4 n c4).ownBlock) :
    GX w W' X0 B4 B5 X1 x0 x1 A n xs A1 m c1 body A4 c4 ys' A5 c5 gs := by
  have h0 := h.le0; have h1 := h.le1; have h2 := h.le2; have h3 := h.le3; have h4 := h.lt; have h5 := h.b.size
  have hr : ∀ g, (Value.slice A4 n c4).ownBlock = some g → B4 ≤ g ∧ g < B5 := fun g e => ⟨(h.o4.block g e).1, h.lt4 g e⟩
  exact
  { i := h.i.grown hg (by omega) (fun g e => by have := hr g e; omega), q := h.q.grown hg (fun e => by have := hr _ e.symm; omega)
    w1 := h.w1.grown hg (by omega) (fun g e => by have := hr g e; omega), o4 := ho, p := h.p.grown hg (fun e => by have := hr _ e.symm; omega)
    g5 := h.g5.kept hg (fun g e e' => by have := hr g e; have := (h.g5.block g e').1; omega)
    b := h.b.grown hg h.b.size (fun g e => by have := hr g e; omega), le0 := h.le0, le1 := h.le1, le2 := h.le2, le3 := h.le3, lt := Nat.lt_of_lt_of_le h.lt hg.size, lt4 := h.lt4, lt5 := h.lt5 }
theorem GX.mark5 {gs' : List Int} (h : GX w W X0 B4 B5 X1 x0 x1 A n xs A1 m c1 body A4 c4 ys A5 c5 gs) (ho : Own W' B5 A5 m c5 gs') (hg : W.grownBy W' (Value.slice A5 m c5).ownBlock) :
    GX w W' X0 B4 B5 X1 x0 x1 A n xs A1 m c1 body A4 c4 ys A5 c5 gs' := by
  have h0 := h.le0; have h1 := h.le1; have h2 := h.le2; have h3 := h.le3; have h4 := h.lt; have h5 := h.b.size
  have hr : ∀ g, (Value.slice A5 m c5).ownBlock = some g → B5 ≤ g ∧ g < X1 := fun g e => ⟨(h.g5.block g e).1, h.lt5 g e⟩
  exact
  { i := h.i.grown hg (by omega) (fun g e => by have := hr g e; omega), q := h.q.grown hg (fun e => by have := hr _ e.symm; omega)
    w1 := h.w1.grown hg (by omega) (fun g e => by have := hr g e; omega), o4 := h.o4.kept hg (fun g e e' => by have := hr g e; have := h.lt4 g e'; omega), p := h.p.grown hg (fun e => by have := hr _ e.symm; omega)
    g5 := ho
    b := h.b.grown hg h.b.size (fun g e => by have := hr g e; omega), le0 := h.le0, le1 := h.le1, le2 := h.le2, le3 := h.le3, lt := Nat.lt_of_lt_of_le h.lt hg.size, lt4 := h.lt4, lt5 := h.lt5 }
end

set_option maxHeartbeats 6400000 in
theorem exactGet_walk (A : Option Addr) (n c : Nat) (xs : List Int) (p : Int) (w : World) (hi : Ints w w.heap.size A n xs) (hn : n ≤ c) (hc : c ≤ maxLen) (hrng : Rng (-9223372036854775808) 9223372036854775807 xs) (hp0 : -9223372036854775808 ≤ p) (hp : p ≤ 9223372036854775807) :
    Calls Try.prog 7 #[.slice A n c, .int .i64 p] w fun e w' => e = .returned (.bool true) ∧ Below w.heap.size w w' := by
  by_cases hbig : 1048576 < n
  · go_enter Try.func7, Try.ntmps7
    go_wp2
    go_ret
    exact ⟨rfl, Below.refl _ _⟩
  · obtain ⟨x0, x1, nx, m, body, ok, hm18, hI, hS⟩ := get_both xs n p hp (by omega) hi.1
    have HI := hide hI
    have HS := hide hS
    have HX := hide hi
    have hmm : m ≤ maxLen := by unfold maxLen; omega
    have hnm : n ≤ maxLen := by unfold maxLen; omega
    have hn44 : n ≤ 17592186044416 := by omega
    have hn9 : n ≤ 1000000000 := by omega
    have hm9 : m ≤ 1000000000 := by omega
    have hnn : n ≤ 9223372036854775807 := by omega
    clear hI hS hi
    go_enter Try.func7, Try.ntmps7
    go_wp2_with fail
    refine (toInts_any A n c _ xs _ HX.out (Nat.le_refl _) hn44).mono ?_
    rintro e w1 ⟨T1, d1, rfl, ho1, hb1⟩
    have HB1 := hide hb1
    have hs1 := hb1.size
    have HO1 := hide ho1.ints
    have hcap1 := ho1.cap
    unfold maxLen at hcap1
    clear hb1 ho1
    go_wp2_with fail
    refine (HS.out T1 d1 _ HO1.out hcap1.1 (by omega)).mono ?_
    rintro e w3 ⟨A1, c1, rfl, ho3, hb3⟩
    have hs3 := hb3.size
    have HB3 := hide ((HB1.out.trans (hb3.mono hs1)).alloc (by omega) (.cells #[.int .i64 x0, .int .i64 x1, .slice A1 m c1] 27))
    have HQ3 := hide (Blk.new w3 27 #[.int .i64 x0, .int .i64 x1, .slice A1 m c1])
    have HW3 := hide (ho3.ints.alloc (Nat.le_refl _) (.cells #[.int .i64 x0, .int .i64 x1, .slice A1 m c1] 27))
    have HX3 := hide (HX.out.below HB3.out (Nat.le_refl _))
    clear hb3 ho3 hcap1 HO1
    go_wp2_with fail
    refine (toInts_any A n c _ xs _ HX3.out (by simp; omega) hn44).mono ?_
    rintro e w5 ⟨A4, c4, rfl, ho5, hb5⟩
    have hs5 := hb5.size
    simp at hs5
    have HB5 := hide (HB3.out.trans (hb5.mono (by simp; omega)))
    have HQ5 := hide (HQ3.out.below hb5 (by simp))
    have HW5 := hide (HW3.out.below hb5 (by simp))
    have HO5 := hide ho5
    have hcap5 := ho5.cap
    unfold maxLen at hcap5
    clear hb5 ho5
    go_wp2_with fail
    refine (HI.out A4 c4 _ HO5.out.ints hcap5.1 (by omega) HO5.out.nilc').mono ?_
    rintro e w6 ⟨A5, c5, rfl, ho6, hb6⟩
    have hs6 := hb6.size
    have HE : Hid (GX w (w6.alloc (.cells #[.int .i64 x0, .int .i64 x1, .slice A5 m c5] 27)) w3.heap.size (w3.heap.size + 1) w5.heap.size w6.heap.size x0 x1 A n xs A1 m c1 body A4 c4 xs A5 c5 body) :=
      { i := (HX.out.below (HB5.out.trans (hb6.mono (by omega))) (Nat.le_refl _)).alloc (by omega) _, q := (HQ5.out.below hb6 (by omega)).alloc _, w1 := (HW5.out.below hb6 (by omega)).alloc (by omega) _
        o4 := ((HO5.out.below hb6).alloc _).mono (by simp), p := Blk.new w6 _ _, g5 := ho6.alloc _, b := (HB5.out.trans (hb6.mono (by omega))).alloc (by omega) _
        le0 := by omega, le1 := by omega, le2 := by omega, le3 := hs6, lt := by simp, lt4 := fun g e => (HO5.out.block g e).2, lt5 := fun g e => (ho6.block g e).2 }
    clear hb6 ho6 HB1 HB3 HQ3 HW3 HX3 HB5 HQ5 HW5 HO5 hcap5 HX
    obtain ⟨t0, t1, t2⟩ := blk_cells3 HE.out.q
    generalize w3.heap.size + 1 = B4 at HE
    generalize w5.heap.size = B5 at HE
    go_wp2_with fail
    refine (eqFrame_yes x0 x1 A5 A1 m c5 c1 _ _ body _ HE.out.g5.ints (Nat.le_refl _) HE.out.w1 (Nat.le_of_lt HE.out.q.lt) hmm).mono ?_
    rintro e w7 ⟨rfl, hb7⟩
    have HE7 := hide (HE.out.below hb7)
    clear hb7 t0 t1 t2 HE
    generalize w3.heap.size = X0 at HE7
    generalize w6.heap.size = X1 at HE7
    go_wp2_with fail
    refine (toInts_any A n c _ xs _ HE7.out.i HE7.out.b.size hn44).mono ?_
    rintro e w8 ⟨A8, c8, rfl, ho8, hb8⟩
    have HE8 := hide (HE7.out.below hb8)
    have HO8 := hide ho8.ints
    clear hb8 ho8 HE7
    go_wp2_with fail
    refine (eqIntS_yes A4 A8 n c4 n c8 _ _ xs xs _ HE8.out.o4.ints HO8.out hnm hnm rfl).mono ?_
    rintro e w9 ⟨rfl, q9, rfl⟩
    have HE9 := hide (HE8.out.drewN q9)
    generalize w8.drewN q9 = W9 at HE9
    clear HE8 HO8
    go_wp2_with fail
    refine (mark_any A4 n c4 B4 1 xs _ HE9.out.o4 (by omega) (by omega) hn9).mono ?_
    rintro e w10 ⟨rfl, ho10, hg10⟩
    have HE10 := hide (HE9.out.mark4 ho10 hg10)
    clear ho10 hg10 HE9
    have hkn : ¬ (1 : Int) + (n : Int) < 0 := by omega
    have hkd : decide ((1 : Int) + (n : Int) < 0) = false := by simp; omega
    obtain ⟨t0, t1, t2⟩ := blk_cells3 HE10.out.q
    obtain ⟨y0, y1, y2⟩ := blk_cells3 HE10.out.p
    go_wp2_with fail
    refine (eqFrame_yes x0 x1 A5 A1 m c5 c1 _ _ body _ HE10.out.g5.ints (Nat.le_refl _) HE10.out.w1 (Nat.le_of_lt HE10.out.q.lt) hmm).mono ?_
    rintro e w11 ⟨rfl, hb11⟩
    have HE11 := hide (HE10.out.below hb11)
    clear hb11 t0 t1 t2 y0 y1 y2 HE10
    obtain ⟨y0, y1, y2⟩ := blk_cells3 HE11.out.p
    go_wp2_with fail
    refine (markFrame_any x0 x1 A5 m c5 B5 body _ HE11.out.g5 hm9).mono ?_
    rintro e w12 ⟨rfl, ho12, hg12⟩
    have HE12 := hide (HE11.out.mark5 ho12 hg12)
    clear ho12 hg12 y0 y1 y2 HE11
    obtain ⟨y0, y1, y2⟩ := blk_cells3 HE12.out.p
    have hmn : ¬ (1 : Int) + (m : Int) < 0 := by omega
    go_wp2_with fail
    refine (heldFrame_any x0 x1 A5 m c5 _ _ HE12.out.g5.ints (Nat.le_refl _) hm9).mono ?_
    rintro e w13 ⟨rfl, hb13⟩
    have HE13 := hide (HE12.out.below hb13)
    clear hb13 y0 y1 y2 HE12
    go_wp2_with fail
    refine (toInts_any A n c _ xs _ HE13.out.i HE13.out.b.size hn44).mono ?_
    rintro e w14 ⟨A14, c14, rfl, ho14, hb14⟩
    have HE14 := hide (HE13.out.below hb14)
    have HO14 := hide ho14
    have hcap14 := ho14.cap
    unfold maxLen at hcap14
    clear hb14 ho14 HE13
    go_wp2_with fail
    refine (HI.out A14 c14 _ HO14.out.ints hcap14.1 (by omega) HO14.out.nilc').mono ?_
    rintro e w15 ⟨A15, c15, rfl, ho15, hb15⟩
    have HE15 := hide ((HE14.out.below hb15).below (below_box _ (.cells #[.int .i64 x0, .int .i64 x1, .slice A15 m c15] 27)))
    have HO15 := hide (ho15.ints.alloc (Nat.le_refl _) (.cells #[.int .i64 x0, .int .i64 x1, .slice A15 m c15] 27))
    clear hb15 ho15 HE14 HO14 hcap14
    obtain ⟨t0, t1, t2⟩ := blk_cells3 HE15.out.q
    go_wp2_with fail
    refine (eqFrame_yes x0 x1 A15 A1 m c15 c1 _ _ body _ HO15.out (by simp) HE15.out.w1 (Nat.le_of_lt HE15.out.q.lt) hmm).mono ?_
    rintro e w16 ⟨rfl, hb16⟩
    have HE16 := hide (HE15.out.below hb16)
    clear hb16 t0 t1 t2 HE15 HO15
    obtain ⟨y0, y1, y2⟩ := blk_cells3 HE16.out.p
    go_wp2_with fail
    refine (heldFrame_any x0 x1 A5 m c5 _ _ HE16.out.g5.ints (Nat.le_refl _) hm9).mono ?_
    rintro e w17 ⟨rfl, hb17⟩
    have HE17 := hide (HE16.out.below hb17)
    go_wp2
    go_ret
    exact ⟨rfl, HE17.out.b⟩
end Go.Proofs.Ytamokhieopcaaaa
