/-
  The walk of FnExactMapApply.
-/
import Derived.Test.YtdhknodhmnnenaaExM1
import Derived.Test.YtdhknodhmnnenaaExactA
import Derived.Test.YtdhknodhmnnenaaImpM5
import Derived.Test.YtdhknodhmnnenaaSpecM6
import Derived.Deep.RegionHeld3
namespace Go.Proofs.Ytdhknodhmnnenaa
open Go.RowKit
set_option linter.unusedVariables false
set_option maxRecDepth 100000

set_option maxHeartbeats 400000 in
theorem szFrameL_any (k s l : Int) (A : Option Addr) (n c : Nat) (w : World) (hn : n ≤ 9223372036854775807) (h0 : 0 ≤ l) (hl : l ≤ 9223372036854775807) :
    Calls Try.prog 13 #[.agg #[.int .i64 k, .int .i64 s, .slice A n c], .int .i64 l] w fun e w' => e = .returned (.int .i64 (if l < n then -1 else l - n)) ∧ Below w.heap.size w w' := by
  by_cases h : l < n
  · have h' : l - (n : Int) < 0 := by omega
    go_enter Try.func13, Try.ntmps13
    go_wp2_with (go_at_call 34; refine (szInts_any _ _ _ _ _ hn h0 hl).mono ?_; rw [if_pos h]; rintro e w' ⟨rfl, rfl⟩)
    go_ret
    exact ⟨ret_int (by first | rfl | rw [if_pos h]), below_box _ _⟩
  · have h' : ¬ l - (n : Int) < 0 := by omega
    go_enter Try.func13, Try.ntmps13
    go_wp2_with (go_at_call 34; refine (szInts_any _ _ _ _ _ hn h0 hl).mono ?_; rw [if_neg h]; rintro e w' ⟨rfl, rfl⟩)
    go_ret
    exact ⟨ret_int (by first | rfl | rw [if_neg h]), below_box _ _⟩
set_option maxHeartbeats 800000 in
theorem markFrameK_any (k s q : Int) (A : Option Addr) (n c base : Nat) (xs : List Int) (w : World) (ho : Own w base A n c xs) (hq0 : 0 ≤ q) (hq1 : q ≤ 1000000000) (hn : n ≤ 1000000000) :
    Calls Try.prog 19 #[.agg #[.int .i64 k, .int .i64 s, .slice A n c], .int .i64 q] w fun e w' => e = .returned (.int .i64 (q + n)) ∧ Own w' base A n c (marks q n) ∧ w.grownBy w' (Value.slice A n c).ownBlock := by
  have hl := ho.block
  go_enter Try.func19, Try.ntmps19
  go_wp2_with fail
  refine (mark_any A n c base q xs _ (ho.alloc _) hq0 (by omega) hn).mono ?_
  rintro e w1 ⟨rfl, ho1, hg1⟩
  go_wp2
  go_ret
  exact ⟨rfl, ho1, ⟨hg1.os, hg1.tape, hg1.output, by have := hg1.size; simp at this; omega, fun i hi hne => (hg1.block i (by simp; omega) hne).trans (Below.heap_alloc w _ i hi)⟩⟩

/-- K elements, as numbers, and whether it was done -/
def APost (w : World) (v : Bool) (K : Nat) (ws : List Int) (e : Ending) (w' : World) : Prop :=
  ∃ A2 c2, e = .returned (.tuple #[.slice A2 K c2, .bool v]) ∧ OwnR w' w.heap.size 48 5 A2 K c2 ws ∧ Below w.heap.size w w'
theorem APost.of {w : World} {v : Bool} {ms : List Wh} {e : Ending} {w' : World} (h : ApPost w v ms e w') : APost w v ms.length (fl5 ms) e w' := by
  obtain ⟨A2, n2, c2, rfl, ⟨hl, ho⟩, hb⟩ := h
  subst hl
  exact ⟨A2, c2, rfl, ho, hb⟩
theorem apM_leX (ms : List Wh) (kd sq : Int) (xs : List Int) (z a : Int) : (apM ms kd sq xs z a).length ≤ 12 := by
  rcases h : apOk ms kd sq xs z a with _ | _
  · rw [ap_no h]; exact Nat.zero_le _
  · exact Nat.le_of_eq (apM_len h)

structure ZM (w W : World) (B1 B4 B6 Xb B5 : Nat) (A : Option Addr) (n : Nat) (xs : List Int) (X : Option Addr) (m d : Nat) (zs : List Int) (fk fs : Int) (A1 : Option Addr) (K : Nat) (ws : List Int)
    (A4 : Option Addr) (c4 : Nat) (ys : List Int) (A6 : Option Addr) (c6 : Nat) (us : List Int) (A5 : Option Addr) (c5 : Nat) (gs : List Int) : Prop where
  i : Ints W w.heap.size A (n * 5) xs
  i2 : Ints W w.heap.size X m zs
  f : Blk W w.heap.size 31 #[.int .i64 fk, .int .i64 fs, .slice X m d]
  x : Blk W Xb 35 #[.int .i64 fk, .int .i64 fs, .slice A6 m c6]
  w1 : Ints W B1 A1 (K * 5) ws
  o4 : OwnR W B4 48 5 A4 n c4 ys
  o6 : Own W B6 A6 m c6 us
  g5 : OwnR W B5 48 5 A5 K c5 gs
  b : Below w.heap.size w W
  le0 : w.heap.size < B1
  le1 : B1 ≤ B4
  le2 : B4 ≤ B6
  le6 : B6 ≤ Xb
  lx : Xb < B5
  le3 : B5 ≤ W.heap.size
  l4 : ∀ g, (Value.slice A4 n c4).ownBlock = some g → g < B6
  l6 : ∀ g, (Value.slice A6 m c6).ownBlock = some g → g < Xb
section
variable {w W W' : World} {B1 B4 B6 Xb B5 n m d K c4 c6 c5 : Nat} {A X A1 A4 A6 A5 : Option Addr} {xs zs ws ys us gs : List Int} {fk fs : Int}
theorem ZM.below (h : ZM w W B1 B4 B6 Xb B5 A n xs X m d zs fk fs A1 K ws A4 c4 ys A6 c6 us A5 c5 gs) (hb : Below W.heap.size W W') : ZM w W' B1 B4 B6 Xb B5 A n xs X m d zs fk fs A1 K ws A4 c4 ys A6 c6 us A5 c5 gs := by
  have h0 := h.le0; have h1 := h.le1; have h2 := h.le2; have h6 := h.le6; have hx := h.lx; have h3 := h.le3; have h5 := h.b.size
  exact
  { i := h.i.below hb h.b.size, i2 := h.i2.below hb h.b.size, f := h.f.below hb (by omega), x := h.x.below hb (by omega), w1 := h.w1.below hb (by omega), o4 := h.o4.below hb, o6 := h.o6.below hb, g5 := h.g5.below hb, b := h.b.trans (hb.mono h.b.size)
    le0 := h.le0, le1 := h.le1, le2 := h.le2, le6 := h.le6, lx := h.lx, le3 := Nat.le_trans h.le3 hb.size, l4 := h.l4, l6 := h.l6 }
theorem ZM.mark4 {ys' : List Int} (h : ZM w W B1 B4 B6 Xb B5 A n xs X m d zs fk fs A1 K ws A4 c4 ys A6 c6 us A5 c5 gs) (ho : OwnR W' B4 48 5 A4 n c4 ys') (hg : W.grownBy W' (Value.slice A4 n c4).ownBlock) : ZM w W' B1 B4 B6 Xb B5 A n xs X m d zs fk fs A1 K ws A4 c4 ys' A6 c6 us A5 c5 gs := by
  have h0 := h.le0; have h1 := h.le1; have h2 := h.le2; have h6 := h.le6; have hx := h.lx; have h3 := h.le3; have h5 := h.b.size
  have hr : ∀ g, (Value.slice A4 n c4).ownBlock = some g → B4 ≤ g ∧ g < B6 := fun g e => ⟨(h.o4.block g e).1, h.l4 g e⟩
  exact
  { i := h.i.grown hg (by omega) (fun g e => by have := hr g e; omega), i2 := h.i2.grown hg (by omega) (fun g e => by have := hr g e; omega), w1 := h.w1.grown hg (by omega) (fun g e => by have := hr g e; omega), o4 := ho
    f := h.f.grown hg (fun e => by have := hr _ e.symm; omega), x := h.x.grown hg (fun e => by have := hr _ e.symm; omega)
    o6 := h.o6.kept hg (fun g e e' => by have := hr g e; have := (h.o6.block g e').1; omega), g5 := h.g5.kept hg (fun g e e' => by have := hr g e; have := (h.g5.block g e').1; omega)
    b := h.b.grown hg h.b.size (fun g e => by have := hr g e; omega), le0 := h.le0, le1 := h.le1, le2 := h.le2, le6 := h.le6, lx := h.lx, le3 := Nat.le_trans h.le3 hg.size, l4 := h.l4, l6 := h.l6 }
theorem ZM.mark6 {us' : List Int} (h : ZM w W B1 B4 B6 Xb B5 A n xs X m d zs fk fs A1 K ws A4 c4 ys A6 c6 us A5 c5 gs) (ho : Own W' B6 A6 m c6 us') (hg : W.grownBy W' (Value.slice A6 m c6).ownBlock) : ZM w W' B1 B4 B6 Xb B5 A n xs X m d zs fk fs A1 K ws A4 c4 ys A6 c6 us' A5 c5 gs := by
  have h0 := h.le0; have h1 := h.le1; have h2 := h.le2; have h6 := h.le6; have hx := h.lx; have h3 := h.le3; have h5 := h.b.size
  have hr : ∀ g, (Value.slice A6 m c6).ownBlock = some g → B6 ≤ g ∧ g < Xb := fun g e => ⟨(h.o6.block g e).1, h.l6 g e⟩
  exact
  { i := h.i.grown hg (by omega) (fun g e => by have := hr g e; omega), i2 := h.i2.grown hg (by omega) (fun g e => by have := hr g e; omega), w1 := h.w1.grown hg (by omega) (fun g e => by have := hr g e; omega), o6 := ho
    f := h.f.grown hg (fun e => by have := hr _ e.symm; omega), x := h.x.grown hg (fun e => by have := hr _ e.symm; omega)
    o4 := h.o4.kept hg (fun g e e' => by have := hr g e; have := h.l4 g e'; omega), g5 := h.g5.kept hg (fun g e e' => by have := hr g e; have := (h.g5.block g e').1; omega)
    b := h.b.grown hg h.b.size (fun g e => by have := hr g e; omega), le0 := h.le0, le1 := h.le1, le2 := h.le2, le6 := h.le6, lx := h.lx, le3 := Nat.le_trans h.le3 hg.size, l4 := h.l4, l6 := h.l6 }
theorem ZM.mark5 {gs' : List Int} (h : ZM w W B1 B4 B6 Xb B5 A n xs X m d zs fk fs A1 K ws A4 c4 ys A6 c6 us A5 c5 gs) (ho : OwnR W' B5 48 5 A5 K c5 gs') (hg : W.grownBy W' (Value.slice A5 K c5).ownBlock) : ZM w W' B1 B4 B6 Xb B5 A n xs X m d zs fk fs A1 K ws A4 c4 ys A6 c6 us A5 c5 gs' := by
  have h0 := h.le0; have h1 := h.le1; have h2 := h.le2; have h6 := h.le6; have hx := h.lx; have h3 := h.le3; have h5 := h.b.size
  have hr : ∀ g, (Value.slice A5 K c5).ownBlock = some g → B5 ≤ g := fun g e => (h.g5.block g e).1
  exact
  { i := h.i.grown hg (by omega) (fun g e => by have := hr g e; omega), i2 := h.i2.grown hg (by omega) (fun g e => by have := hr g e; omega), w1 := h.w1.grown hg (by omega) (fun g e => by have := hr g e; omega), g5 := ho
    f := h.f.grown hg (fun e => by have := hr _ e.symm; omega), x := h.x.grown hg (fun e => by have := hr _ e.symm; omega)
    o4 := h.o4.kept hg (fun g e e' => by have := hr g e; have := h.l4 g e'; omega), o6 := h.o6.kept hg (fun g e e' => by have := hr g e; have := h.l6 g e'; omega)
    b := h.b.grown hg h.b.size (fun g e => by have := hr g e; omega), le0 := h.le0, le1 := h.le1, le2 := h.le2, le6 := h.le6, lx := h.lx, le3 := Nat.le_trans h.le3 hg.size, l4 := h.l4, l6 := h.l6 }
end
theorem below_undrewZ {B : Nat} {a w : World} {i : Nat} (h : Below B (a.drewN i) w) : Below B a w := ⟨h.os, h.tape, h.output, h.size, h.block⟩

set_option maxHeartbeats 25600000 in
theorem exactMApply_walk (A : Option Addr) (n c : Nat) (xs : List Int) (fk fs : Int) (X : Option Addr) (m d : Nat) (zs : List Int) (z a : Int) (w : World) (hi : Ints w w.heap.size A (n * 5) xs) (hn : n ≤ c) (hc : c ≤ maxLen) (hrng : Rng (-9223372036854775808) 9223372036854775807 xs)
    (hx : Ints w w.heap.size X m zs) (hm : m ≤ d) (hd : d ≤ maxLen) (hz0 : -9223372036854775808 ≤ z) (hz1 : z ≤ 9223372036854775807) (ha0 : -9223372036854775808 ≤ a) (ha1 : a ≤ 9223372036854775807) :
    Calls Try.prog 4 #[.slice A n c, .agg #[.int .i64 fk, .int .i64 fs, .slice X m d], .int .i64 z, .int .i64 a] w fun e w' => e = .returned (.bool true) ∧ Below w.heap.size w w' := by
  have hn' : n ≤ 9223372036854775807 := by unfold maxLen at hc; omega
  have hm' : m ≤ 9223372036854775807 := by unfold maxLen at hd; omega
  have HP0 := hide (below_new w (.cells #[.int .i64 fk, .int .i64 fs, .slice X m d] 31))
  have HF0 := hide (Blk.new w 31 #[.int .i64 fk, .int .i64 fs, .slice X m d])
  have HX0 := hide (hi.alloc (Nat.le_refl _) (.cells #[.int .i64 fk, .int .i64 fs, .slice X m d] 31))
  have HY0 := hide (hx.alloc (Nat.le_refl _) (.cells #[.int .i64 fk, .int .i64 fs, .slice X m d] 31))
  clear hi hx hrng hz0 hz1 ha0 ha1
  obtain ⟨W0, hW0⟩ : ∃ W0, w.alloc (.cells #[.int .i64 fk, .int .i64 fs, .slice X m d] 31) = W0 := ⟨_, rfl⟩
  have HS0 := hide (show W0.heap.size = w.heap.size + 1 by rw [← hW0]; simp)
  rw [hW0] at HP0 HF0 HX0 HY0
  by_cases hbig : (1048576 : Int) < n
  · go_enter Try.func4, Try.ntmps4
    go_wp2_with fail
    refine (szW_any A n c 1048576 _ hn' (by omega) (by omega)).mono ?_
    rw [if_pos hbig]
    rintro e w1 ⟨rfl, rfl⟩
    go_wp2
    go_ret
    exact ⟨rfl, HP0.out⟩
  have hneg : ¬ (1048576 : Int) - (n : Int) < 0 := by omega
  obtain ⟨L, hL⟩ : ∃ L, (1048576 : Int) - (n : Int) = L := ⟨_, rfl⟩
  have hL0 : 0 ≤ L := by omega
  have hL1 : L ≤ 1048576 := by omega
  have HS1 := hide fun (W : World) => szW_any A n c 1048576 W hn' (by omega) (by omega)
  rw [if_neg hbig, hL] at HS1
  rw [hL] at hneg
  have hn9 : n ≤ 1000000 + 48576 := by omega
  clear hL hbig
  obtain ⟨t0, t1, t2⟩ := blk_cells3 HF0.out
  by_cases hbig2 : L < m
  · go_enter Try.func4, Try.ntmps4
    go_wp2_with fail
    refine (HS1.out _).mono ?_
    rintro e w1 ⟨rfl, rfl⟩
    go_wp2_with fail
    refine (szFrameL_any fk fs L X m d _ hm' hL0 (by omega)).mono ?_
    rw [if_pos hbig2]
    rintro e w1 ⟨rfl, hb1⟩
    have HE := hide (HP0.out.trans (hb1.mono HP0.out.size))
    clear hb1
    go_wp2
    go_ret
    exact ⟨rfl, HE.out⟩
  have hneg2 : ¬ L - (m : Int) < 0 := by omega
  have hm9 : m ≤ 1000000 + 48576 := by omega
  obtain ⟨v, hv⟩ : ∃ v, apOk (unfl5 xs) fk fs zs z a = v := ⟨_, rfl⟩
  obtain ⟨ws, hws⟩ : ∃ ws, fl5 (apM (unfl5 xs) fk fs zs z a) = ws := ⟨_, rfl⟩
  obtain ⟨K, hK⟩ : ∃ K, (apM (unfl5 xs) fk fs zs z a).length = K := ⟨_, rfl⟩
  have hK12 : K ≤ 12 := by rw [← hK]; exact apM_leX _ _ _ _ _ _
  have HPI : Hid (∀ (A' X' : Option Addr) (c' d' B B' : Nat) (W : World), Ints W B A' (n * 5) xs → B ≤ W.heap.size → Ints W B' X' m zs → B' ≤ W.heap.size → m ≤ d' ∧ d' ≤ maxLen → Calls Try.prog 16 #[.slice A' n c', .agg #[.int .i64 fk, .int .i64 fs, .slice X' m d'], .int .i64 z, .int .i64 a] W (APost W v K ws)) := fun A' X' c' d' B B' W h hB h' hB' hcap => by
    have h2 := (implMA A' X' n c' m d' B B' (unfl5 xs) fk fs z a zs W (mpI_of h) h' hB hB' (by omega) (by omega) hcap.1 (by have := hcap.2; unfold maxLen at this; omega)).mono fun _ _ h => APost.of h
    rwa [hv, hws, hK] at h2
  have HPS : Hid (∀ (A' X' : Option Addr) (c' d' B B' : Nat) (W : World), Ints W B A' (n * 5) xs → B ≤ W.heap.size → Ints W B' X' m zs → B' ≤ W.heap.size → m ≤ d' ∧ d' ≤ maxLen → Calls Try.prog 14 #[.slice A' n c', .agg #[.int .i64 fk, .int .i64 fs, .slice X' m d'], .int .i64 z, .int .i64 a] W (APost W v K ws)) := fun A' X' c' d' B B' W h hB h' hB' hcap => by
    have h2 := (specMA A' X' n c' m d' B B' (unfl5 xs) fk fs z a zs W (mpI_of h) h' hB hB' (by omega) (by omega)).mono fun _ _ h => APost.of h
    rwa [hv, hws, hK] at h2
  clear hv hws hK
  go_enter Try.func4, Try.ntmps4
  go_wp2_with fail
  refine (HS1.out _).mono ?_
  rintro e w1 ⟨rfl, rfl⟩
  go_wp2_with fail
  refine (szFrameL_any fk fs L X m d _ hm' hL0 (by omega)).mono ?_
  rw [if_neg (by omega)]
  rintro e W1 ⟨rfl, hb1⟩
  have HX1 := hide (HX0.out.below hb1 HP0.out.size)
  have HY1 := hide (HY0.out.below hb1 HP0.out.size)
  have HF1 := hide (HF0.out.below hb1 (by have := HS0.out; omega))
  have HB1 := hide (HP0.out.trans (hb1.mono HP0.out.size))
  have hlf := HF1.out.lt
  obtain ⟨u0, u1, u2⟩ := blk_cells3 HF1.out
  clear hbig2 HS1 hb1 HX0 HY0 HF0 HP0 HS0 hW0 t0 t1 t2
  have HTA := hide fun (W : World) (h : Below W1.heap.size W1 W) => toWhereS_any A n c _ xs W (HX1.out.below h HB1.out.size) (Nat.le_trans HB1.out.size h.size) (by omega)
  have HTF := hide fun (W : World) (h : Below W1.heap.size W1 W) => toFrame_any fk fs X m d _ zs W (HY1.out.below h HB1.out.size) (Nat.le_trans HB1.out.size h.size) (by omega)
  go_wp2_with fail
  go_region_held3 (fun W => W.cell? ⟨w.heap.size, 0, none⟩ = some (.int .i64 fk) ∧ W.cell? ⟨w.heap.size, 1, none⟩ = some (.int .i64 fs) ∧ W.cell? ⟨w.heap.size, 2, none⟩ = some (.slice X m d))
    (first
      | go_keep
      | (exact ⟨(hbM.cell (p := ⟨w.heap.size, 0, none⟩) (Nat.lt_of_lt_of_le hlf HWr.out.size)).trans ((HWr.out.cell (p := ⟨w.heap.size, 0, none⟩) hlf).trans u0), (hbM.cell (p := ⟨w.heap.size, 1, none⟩) (Nat.lt_of_lt_of_le hlf HWr.out.size)).trans ((HWr.out.cell (p := ⟨w.heap.size, 1, none⟩) hlf).trans u1), (hbM.cell (p := ⟨w.heap.size, 2, none⟩) (Nat.lt_of_lt_of_le hlf HWr.out.size)).trans ((HWr.out.cell (p := ⟨w.heap.size, 2, none⟩) hlf).trans u2)⟩)
      | (exact ⟨(HWr.out.cell (p := ⟨w.heap.size, 0, none⟩) hlf).trans u0, (HWr.out.cell (p := ⟨w.heap.size, 1, none⟩) hlf).trans u1, (HWr.out.cell (p := ⟨w.heap.size, 2, none⟩) hlf).trans u2⟩)
      | (exact ⟨(hbA.cell (p := ⟨w.heap.size, 0, none⟩) hlf).trans u0, (hbA.cell (p := ⟨w.heap.size, 1, none⟩) hlf).trans u1, (hbA.cell (p := ⟨w.heap.size, 2, none⟩) hlf).trans u2⟩)
      | (exact ⟨(hbF.cell (p := ⟨w.heap.size, 0, none⟩) hlf).trans u0, (hbF.cell (p := ⟨w.heap.size, 1, none⟩) hlf).trans u1, (hbF.cell (p := ⟨w.heap.size, 2, none⟩) hlf).trans u2⟩))
    ((first
      | (go_at_call 10; first
          | (refine (HTA.out _ hbF).mono ?_; rintro e wA ⟨Aa, ca, rfl, hoA, hbA2⟩; have HMr := hide hoA.ints; have HFr := hide ((hoF.ints.below hbA2 (Nat.le_refl _)).more hbA2.size); have hcapF := hoF.cap; have HWr := hide (hbF.trans (hbA2.mono hbF.size)); clear hoA hoF)
          | (refine (HTA.out _ (below_drewN (Below.refl W1.heap.size W1) 1)).mono ?_; rintro e wA ⟨Aa, ca, rfl, hoA, hbA'⟩; have hbA : Below W1.heap.size W1 wA := ⟨hbA'.os, hbA'.tape, hbA'.output, hbA'.size, hbA'.block⟩; clear hbA'))
      | (go_at_call 15; first
          | (refine (HTF.out _ hbA).mono ?_; rintro e wF ⟨Af, cf, rfl, hoF, hbF2⟩; have HFr := hide hoF.ints; have HMr := hide ((hoA.ints.below hbF2 (Nat.le_refl _)).more hbF2.size); have hcapF := hoF.cap; have HWr := hide (hbA.trans (hbF2.mono hbA.size)); clear hoA hoF)
          | (refine (HTF.out _ (below_drewN (Below.refl W1.heap.size W1) 1)).mono ?_; rintro e wF ⟨Af, cf, rfl, hoF, hbF'⟩; have hbF : Below W1.heap.size W1 wF := ⟨hbF'.os, hbF'.tape, hbF'.output, hbF'.size, hbF'.block⟩; clear hbF'))
      | (go_at_call 14; refine (HPS.out Aa Af ca cf _ _ _ HMr.out (Nat.le_refl _) HFr.out (Nat.le_refl _) hcapF).mono ?_; rintro e wM ⟨AM, cM, rfl, hoM, hbM⟩)))
  all_goals
    have HW3 := hide (HWr.out.trans (hbM.mono HWr.out.size))
    have HX3 := hide (HX1.out.below HW3.out HB1.out.size)
    have HY3 := hide (HY1.out.below HW3.out HB1.out.size)
    have HF3 := hide (HF1.out.below HW3.out hlf)
    have HB3 := hide (HB1.out.trans (HW3.out.mono HB1.out.size))
    have HM3 := hide hoM.ints
    have hs3 := HB3.out.size
    have hl3 := HF3.out.lt
    obtain ⟨r0, r1, r2⟩ := blk_cells3 HF3.out
    try clear hbA hbA2
    try clear hbF hbF2
    clear hoM hbM HMr HFr HWr HW3 HX1 HY1 HF1 HB1 HTA HTF HPS u0 u1 u2 hlf hcapF
    go_wp2_with fail
    refine (toWhereS_any A n c _ xs _ HX3.out hs3 (by omega)).mono ?_
    rintro e w4 ⟨A4, c4, rfl, ho4, hb4⟩
    have hs34 := hb4.size
    have HX4 := hide (HX3.out.below hb4 hs3)
    have HY4 := hide (HY3.out.below hb4 hs3)
    have HF4 := hide (HF3.out.below hb4 hl3)
    have HB4 := hide (HB3.out.trans (hb4.mono hs3))
    have HM4 := hide (HM3.out.below hb4 (Nat.le_refl _))
    have HO4 := hide ho4
    have hs4 := HB4.out.size
    have hl4 := HF4.out.lt
    obtain ⟨t0, t1, t2⟩ := blk_cells3 HF4.out
    clear hb4 ho4 HX3 HY3 HF3 HB3 HM3 r0 r1 r2
    go_wp2_with fail
    refine (toFrame_any fk fs X m d _ zs _ HY4.out hs4 (by omega)).mono ?_
    rintro e w5 ⟨A6, c6, rfl, ho5, hb5⟩
    have hs45 := hb5.size
    obtain ⟨W6, hW6⟩ : ∃ W6, w5.alloc (.cells #[.int .i64 fk, .int .i64 fs, .slice A6 m c6] 35) = W6 := ⟨_, rfl⟩
    have HXB := hide (show Blk W6 w5.heap.size 35 #[.int .i64 fk, .int .i64 fs, .slice A6 m c6] by rw [← hW6]; exact Blk.new w5 _ _)
    have hb56 : Below w4.heap.size w4 W6 := by rw [← hW6]; exact hb5.alloc hb5.size _
    have HX6 := hide (HX4.out.below hb56 hs4)
    have HY6 := hide (HY4.out.below hb56 hs4)
    have HF6 := hide (HF4.out.below hb56 hl4)
    have HB6 := hide (HB4.out.trans (hb56.mono hs4))
    have HM6 := hide (HM4.out.below hb56 hs34)
    have HO46 := hide (HO4.out.below hb56)
    have HO6 := hide (show Own W6 w4.heap.size A6 m c6 zs by rw [← hW6]; exact ho5.alloc _)
    have HL4 := hide (fun g e => (HO4.out.block g e).2)
    have HL6 := hide (fun g e => (ho5.block g e).2)
    have HCAP := hide ho5.cap
    have hlx : w5.heap.size < W6.heap.size := HXB.out.lt
    obtain ⟨y0, y1, y2⟩ := blk_cells3 HXB.out
    clear hb5 ho5 hb56 HX4 HY4 HF4 HB4 HM4 HO4 t0 t1 t2
    go_wp2_with fail
    refine (HPI.out A4 A6 c4 c6 _ _ _ (HO46.out.ints) (Nat.le_refl _) HO6.out.ints (Nat.le_refl _) HCAP.out).mono ?_
    rintro e w7 ⟨A5, c5, rfl, ho7, hb7⟩
    have HE : Hid (ZM w w7 wM.heap.size wM.heap.size w4.heap.size w5.heap.size W6.heap.size A n xs X m d zs fk fs AM K ws A4 c4 xs A6 c6 zs A5 c5 ws) :=
      { i := HX6.out.below hb7 HB6.out.size, i2 := HY6.out.below hb7 HB6.out.size, f := HF6.out.below hb7 HF6.out.lt, x := HXB.out.below hb7 hlx, w1 := HM6.out.below hb7 (by omega), o4 := HO46.out.below hb7, o6 := HO6.out.below hb7, g5 := ho7, b := HB6.out.trans (hb7.mono HB6.out.size)
        le0 := hl3, le1 := Nat.le_refl _, le2 := hs34, le6 := hs45, lx := hlx, le3 := hb7.size, l4 := HL4.out, l6 := HL6.out }
    clear hb7 ho7 HX6 HY6 HF6 HXB HB6 HM6 HO46 HO6 HL4 HL6 y0 y1 y2 hW6 hs3 hs4 hs34 hs45 hl3 hl4 hlx
    generalize wM.heap.size = B1 at HE
    generalize w4.heap.size = B6 at HE
    generalize w5.heap.size = Xb at HE
    generalize W6.heap.size = B5 at HE
    have hK9 : K ≤ 1000000000 := by omega
    have HLE : Hid (∀ {W : World} {ys us gs : List Int}, ZM w W B1 B1 B6 Xb B5 A n xs X m d zs fk fs AM K ws A4 c4 ys A6 c6 us A5 c5 gs → B1 ≤ W.heap.size) := fun h => by have := h.le1; have := h.le2; have := h.le6; have := h.lx; have := h.le3; omega
    go_wp2_with fail
    refine (eqWhereS_yes A5 AM K c5 cM _ _ ws _ HE.out.g5.ints (Nat.le_refl _) HE.out.w1 (HLE.out HE.out) hK9).mono ?_
    rintro e w8 ⟨rfl, hb8⟩
    have HE7 := hide (HE.out.below hb8)
    clear HE hb8
    go_wp2_with fail
    refine (toWhereS_any A n c _ xs _ HE7.out.i HE7.out.b.size (by omega)).mono ?_
    rintro e w9 ⟨A8, c8, rfl, ho8, hb9⟩
    have HE8 := hide (HE7.out.below hb9)
    have HO8 := hide ho8.ints
    clear hb9 ho8 HE7
    go_wp2_with fail
    refine (eqWhereS_yes A4 A8 n c4 c8 _ _ xs _ HE8.out.o4.ints (Nat.le_refl _) HO8.out (Nat.le_refl _) (by omega)).mono ?_
    rintro e W9 ⟨rfl, hb9⟩
    have HE9 := hide (HE8.out.below hb9)
    clear HE8 HO8 hb9
    obtain ⟨y0, y1, y2⟩ := blk_cells3 HE9.out.x
    obtain ⟨t0, t1, t2⟩ := blk_cells3 HE9.out.f
    have hlx : Xb < W9.heap.size := HE9.out.x.lt
    have hlf : w.heap.size < W9.heap.size := HE9.out.f.lt
    have hmm : m ≤ maxLen := by unfold maxLen; omega
    go_wp2_with fail
    go_region_held3 (fun w' => w'.cell? ⟨Xb, 0, none⟩ = some (.int .i64 fk) ∧ w'.cell? ⟨Xb, 1, none⟩ = some (.int .i64 fs) ∧ w'.cell? ⟨Xb, 2, none⟩ = some (.slice A6 m c6) ∧
        w'.cell? ⟨w.heap.size, 0, none⟩ = some (.int .i64 fk) ∧ w'.cell? ⟨w.heap.size, 1, none⟩ = some (.int .i64 fs) ∧ w'.cell? ⟨w.heap.size, 2, none⟩ = some (.slice X m d))
      (first
        | go_keep
        | (exact ⟨(hb8.cell hl8).trans ((hb7.cell hlx).trans y0), (hb8.cell hl8).trans ((hb7.cell hlx).trans y1), (hb8.cell hl8).trans ((hb7.cell hlx).trans y2), (hb8.cell hl9).trans ((hb7.cell hlf).trans t0), (hb8.cell hl9).trans ((hb7.cell hlf).trans t1), (hb8.cell hl9).trans ((hb7.cell hlf).trans t2)⟩)
        | (exact ⟨(hb7.cell hlx).trans y0, (hb7.cell hlx).trans y1, (hb7.cell hlx).trans y2, (hb7.cell hlf).trans t0, (hb7.cell hlf).trans t1, (hb7.cell hlf).trans t2⟩))
      ((first
        | (go_at_call 15; refine (toFrame_any fk fs X m d w.heap.size zs _ ?_ ?_ (by omega)).mono ?_; exact HE9.out.i2; exact Nat.le_of_lt hlf; rintro e w10 ⟨A7, c7, rfl, ho7, hb7'⟩; have hb7 : Below W9.heap.size W9 w10 := ⟨hb7'.os, hb7'.tape, hb7'.output, hb7'.size, hb7'.block⟩; clear hb7')
        | (go_at_call 17; refine (eqFrame_yes fk fs A6 A7 m c6 c7 W9.heap.size w10.heap.size zs _ ?_ ?_ ?_ ?_ hmm).mono ?_; exact HE9.out.o6.ints.below hb7 (Nat.le_refl _); exact hb7.size; exact ho7.ints; exact Nat.le_refl _; rintro e w11 ⟨rfl, hb8⟩; have hl8 := Nat.lt_of_lt_of_le hlx hb7.size; have hl9 := Nat.lt_of_lt_of_le hlf hb7.size)))
    have HE11 := hide ((HE9.out.below hb7).below hb8)
    clear HE9 hb7 hb8 ho7 y0 y1 y2 t0 t1 t2 hl8 hl9 hlx hlf
    go_wp2_with fail
    refine (markWhereS_any A4 n c4 B1 1 xs _ HE11.out.o4 (by omega) (by omega) (by omega)).mono ?_
    rintro e w12 ⟨rfl, ho12, hg12⟩
    have HE12 := hide (HE11.out.mark4 ho12 hg12)
    clear ho12 hg12 HE11
    obtain ⟨y0, y1, y2⟩ := blk_cells3 HE12.out.x
    obtain ⟨q1, hq1⟩ : ∃ q1, (1 : Int) + ((n * 5 : Nat) : Int) = q1 := ⟨_, rfl⟩
    have hq10 : 0 ≤ q1 := by omega
    have hq11 : q1 ≤ 6000000 := by omega
    rw [hq1]
    clear hq1
    go_wp2_with fail
    refine (markFrameK_any fk fs q1 A6 m c6 B6 zs _ HE12.out.o6 hq10 (by omega) (by omega)).mono ?_
    rintro e w13 ⟨rfl, ho13, hg13⟩
    have HE13 := hide (HE12.out.mark6 ho13 hg13)
    clear ho13 hg13 HE12 y0 y1 y2
    have hkn : ¬ q1 + (m : Int) < 0 := by omega
    generalize q1 + (m : Int) = q2 at hkn ⊢
    have hkd : decide (q2 < 0) = false := by simpa using hkn
    go_wp2_with fail
    refine (eqWhereS_yes A5 AM K c5 cM _ _ ws _ HE13.out.g5.ints (Nat.le_refl _) HE13.out.w1 (HLE.out HE13.out) hK9).mono ?_
    rintro e w14 ⟨rfl, hb14⟩
    have HE14 := hide (HE13.out.below hb14)
    clear HE13 hb14
    go_wp2_with fail
    refine (markWhereS_any A5 K c5 B5 1 ws _ HE14.out.g5 (by omega) (by omega) hK9).mono ?_
    rintro e w15 ⟨rfl, ho15, hg15⟩
    have HE15 := hide (HE14.out.mark5 ho15 hg15)
    clear ho15 hg15 HE14
    have hmn : ¬ (1 : Int) + ((K * 5 : Nat) : Int) < 0 := by omega
    have HH : Hid (∀ W : World, Ints W W.heap.size A5 (K * 5) (marks 1 (K * 5)) → Calls Try.prog 20 #[.slice A5 K c5, .int .i64 1] W fun e w' => e = .returned (.int .i64 (1 + ((K * 5 : Nat) : Int))) ∧ W = w') := fun W h => heldWhereS_any A5 K c5 _ 1 W h (by omega) (by omega) hK9
    generalize ((K * 5 : Nat) : Int) = mm at hmn HH
    go_wp2_with fail
    refine (HH.out _ HE15.out.g5.ints).mono ?_
    rintro e w' ⟨rfl, rfl⟩
    obtain ⟨u0, u1, u2⟩ := blk_cells3 HE15.out.f
    have hlf : w.heap.size < w15.heap.size := HE15.out.f.lt
    have HTA := hide fun (W : World) (h : Below w15.heap.size w15 W) => toWhereS_any A n c _ xs W (HE15.out.i.below h HE15.out.b.size) (Nat.le_trans HE15.out.b.size h.size) (by omega)
    have HTF := hide fun (W : World) (h : Below w15.heap.size w15 W) => toFrame_any fk fs X m d _ zs W (HE15.out.i2.below h HE15.out.b.size) (Nat.le_trans HE15.out.b.size h.size) (by omega)
    obtain ⟨AN, hAN⟩ : ∃ AN, AM = AN := ⟨_, rfl⟩
    obtain ⟨cN, hcN⟩ : ∃ cN, cM = cN := ⟨_, rfl⟩
    rw [hAN] at HE15 HLE ⊢
    rw [hcN]
    clear hAN hcN AM cM wM
    go_wp2_with fail
    go_region_held3 (fun W => W.cell? ⟨w.heap.size, 0, none⟩ = some (.int .i64 fk) ∧ W.cell? ⟨w.heap.size, 1, none⟩ = some (.int .i64 fs) ∧ W.cell? ⟨w.heap.size, 2, none⟩ = some (.slice X m d))
      (first
        | go_keep
        | (exact ⟨(hbM.cell (p := ⟨w.heap.size, 0, none⟩) (Nat.lt_of_lt_of_le hlf HWr.out.size)).trans ((HWr.out.cell (p := ⟨w.heap.size, 0, none⟩) hlf).trans u0), (hbM.cell (p := ⟨w.heap.size, 1, none⟩) (Nat.lt_of_lt_of_le hlf HWr.out.size)).trans ((HWr.out.cell (p := ⟨w.heap.size, 1, none⟩) hlf).trans u1), (hbM.cell (p := ⟨w.heap.size, 2, none⟩) (Nat.lt_of_lt_of_le hlf HWr.out.size)).trans ((HWr.out.cell (p := ⟨w.heap.size, 2, none⟩) hlf).trans u2)⟩)
        | (exact ⟨(HWr.out.cell (p := ⟨w.heap.size, 0, none⟩) hlf).trans u0, (HWr.out.cell (p := ⟨w.heap.size, 1, none⟩) hlf).trans u1, (HWr.out.cell (p := ⟨w.heap.size, 2, none⟩) hlf).trans u2⟩)
        | (exact ⟨(hbA.cell (p := ⟨w.heap.size, 0, none⟩) hlf).trans u0, (hbA.cell (p := ⟨w.heap.size, 1, none⟩) hlf).trans u1, (hbA.cell (p := ⟨w.heap.size, 2, none⟩) hlf).trans u2⟩)
        | (exact ⟨(hbF.cell (p := ⟨w.heap.size, 0, none⟩) hlf).trans u0, (hbF.cell (p := ⟨w.heap.size, 1, none⟩) hlf).trans u1, (hbF.cell (p := ⟨w.heap.size, 2, none⟩) hlf).trans u2⟩))
      ((first
        | (go_at_call 10; first
            | (refine (HTA.out _ hbF).mono ?_; rintro e wA ⟨Aa, ca, rfl, hoA, hbA2⟩; have HMr := hide hoA.ints; have HFr := hide ((hoF.ints.below hbA2 (Nat.le_refl _)).more hbA2.size); have hcapF := hoF.cap; have HWr := hide (hbF.trans (hbA2.mono hbF.size)); clear hoA hoF)
            | (refine (HTA.out _ (below_drewN (Below.refl w15.heap.size w15) 1)).mono ?_; rintro e wA ⟨Aa, ca, rfl, hoA, hbA'⟩; have hbA : Below w15.heap.size w15 wA := ⟨hbA'.os, hbA'.tape, hbA'.output, hbA'.size, hbA'.block⟩; clear hbA'))
        | (go_at_call 15; first
            | (refine (HTF.out _ hbA).mono ?_; rintro e wF ⟨Af, cf, rfl, hoF, hbF2⟩; have HFr := hide hoF.ints; have HMr := hide ((hoA.ints.below hbF2 (Nat.le_refl _)).more hbF2.size); have hcapF := hoF.cap; have HWr := hide (hbA.trans (hbF2.mono hbA.size)); clear hoA hoF)
            | (refine (HTF.out _ (below_drewN (Below.refl w15.heap.size w15) 1)).mono ?_; rintro e wF ⟨Af, cf, rfl, hoF, hbF'⟩; have hbF : Below w15.heap.size w15 wF := ⟨hbF'.os, hbF'.tape, hbF'.output, hbF'.size, hbF'.block⟩; clear hbF'))
        | (go_at_call 16; refine (HPI.out Aa Af ca cf _ _ _ HMr.out (Nat.le_refl _) HFr.out (Nat.le_refl _) hcapF).mono ?_; rintro e wM ⟨AM, cM, rfl, hoM, hbM⟩)))
    all_goals
      have HE17 := hide ((HE15.out.below HWr.out).below hbM)
      have HO17 := hide hoM.ints
      try clear hbA hbA2
      try clear hbF hbF2
      clear hoM hbM HMr HFr HWr HE15 HTA HTF u0 u1 u2 hlf hcapF
      go_wp2_with fail
      refine (eqWhereS_yes AM AN K cM cN _ _ ws _ HO17.out (Nat.le_refl _) HE17.out.w1 (HLE.out HE17.out) hK9).mono ?_
      rintro e w19 ⟨rfl, hb19⟩
      have HE19 := hide (HE17.out.below hb19)
      clear HE17 HO17 hb19
      go_wp2_with fail
      refine (HH.out _ HE19.out.g5.ints).mono ?_
      rintro e w' ⟨rfl, rfl⟩
      go_wp2
      go_ret
      exact ⟨rfl, HE19.out.b⟩
end Go.Proofs.Ytdhknodhmnnenaa
