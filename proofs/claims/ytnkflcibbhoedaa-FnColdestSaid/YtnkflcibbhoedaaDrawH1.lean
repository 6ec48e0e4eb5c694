/-
  Drawn heat and blocks: l13New, l91Heat, l91Blocks, DrawHeatUse, DrawHeatDecay, DrawHeatColdest.
-/
import Derived.Test.YtnkflcibbhoedaaDrawA
namespace Go.Proofs.Ytnkflcibbhoedaa
open Go.RowKit
set_option linter.unusedVariables false
set_option maxRecDepth 100000

/-- what a drawing knows at each step -/
structure KH (w0 w : World) (R : Nat) (p : Int) (A : Option Addr) (n c : Nat) (xs : List Int) : Prop where
  rd : Rd w R p
  rlt : R < w0.heap.size
  own : Own w w0.heap.size A n c xs
  grown : w0.grownBy w (some R)
section
variable {w0 w w' w8 : World} {R n c c8 g : Nat} {p p' x : Int} {A A8 : Option Addr} {xs : List Int}
theorem KH.pick (h : KH w0 w R p A n c xs) (hr : Rd w' R p') (hg : w.grownBy w' (some R)) : KH w0 w' R p' A n c xs :=
  { rd := hr, rlt := h.rlt, own := h.own.kept hg (by intro q hq; injection hq with hq; subst hq; intro e; have := (h.own.block _ e).1; have := h.rlt; omega), grown := grown_trans' h.grown hg }
theorem KH.put (h : KH w0 w R p (some ⟨g, 0, none⟩) n c xs) (j : Nat) (x : Int) : KH w0 (w.setCell ⟨g, j, none⟩ (.int .i64 x)) R p (some ⟨g, 0, none⟩) n c (xs.set j x) := by
  have hst := h.own.stored (g := g) (j := j) x
  have hg0 := (h.own.block g rfl).1
  exact { rd := h.rd.grown hst.2 (fun b hb => by injection hb with hb; have := h.rlt; omega), rlt := h.rlt, own := hst.1, grown := grown_own h.grown hst.2 (fun b hb => by injection hb with hb; omega) }
theorem KH.alloc (h : KH w0 w R p A n c xs) (o : Obj) : KH w0 (w.alloc o) R p A n c xs :=
  { rd := h.rd.alloc o, rlt := h.rlt, own := h.own.alloc o, grown := grown_alloc h.grown o }
theorem KH.app {o : Obj} (h : KH w0 w R p A n c xs) (ho : Own w8 w0.heap.size A8 (n + 1) c8 (xs ++ [x])) (hg : (w.alloc o).grownBy w8 (Value.slice A n c).ownBlock) : KH w0 w8 R p A8 (n + 1) c8 (xs ++ [x]) := by
  have hb := h.own.block
  exact { rd := (h.rd.alloc o).grown hg (fun b hb' => by have := (hb b hb').1; have := h.rlt; omega), rlt := h.rlt, own := ho, grown := grown_own (grown_alloc h.grown o) hg (fun b hb' => (hb b hb').1) }
theorem KH.firsts (h : KH w0 w R p A n c xs) {m : Nat} (hm : m ≤ n) : KH w0 w R p A m c (xs.take m) :=
  { rd := h.rd, rlt := h.rlt, own := h.own.firsts hm, grown := h.grown }
theorem KH.lit0 (h : KH w0 w R p A n c xs) : KH w0 (w.alloc (.cells #[] 3)) R p (some ⟨w.heap.size, 0, none⟩) 0 0 [] :=
  { rd := h.rd.alloc _, rlt := h.rlt, own := Own.lit0 w _ h.grown.size, grown := grown_alloc h.grown _ }
end

def sev7 (v : Int) : Int := ([0, 5, 10, 20, 95, 100, 33] : List Int).getD v.toNat 0
def odd2 (v : Int) : Int := ([-1, 101] : List Int).getD v.toNat 0
/-- what is handed back -/
def DrawnH (w0 : World) (R : Nat) (p : Int) (e : Ending) (w' : World) : Prop :=
  ∃ (A : Option Addr) (n c : Nat) (xs : List Int) (p' : Int), e = .returned (.slice A n c) ∧ n ≤ 13 ∧ p ≤ p' ∧ p' ≤ p + 20 ∧ KH w0 w' R p' A n c xs

set_option maxHeartbeats 800000 in
theorem new13_any (w : World) : Calls Try.prog 44 #[] w fun e w' => e = .returned (.slice (some ⟨w.heap.size, 0, none⟩) 12 12) ∧ Own w' w.heap.size (some ⟨w.heap.size, 0, none⟩) 12 12 (List.replicate 12 0) ∧ Below w.heap.size w w' := by
  obtain ⟨i0, hi, hz0, hz1, hz2⟩ := info_parts info_int
  go_enter Try.func44, Try.ntmps44
  go_wp2_with (at_make; refine wpList_make_full _ rfl _ _ 23 rfl w.heap.size 3 i0 (.int .i64 0) 1 Try.underlying23 hi hz0 hz1 .i64 .i64 12 12 12 rfl rfl rfl rfl (by rw [hz2]; omega) (by unfold maxLen; omega) (Nat.le_refl _) ?_; intro w1 hown hgrow)
  have ho : Own w1 w.heap.size (some ⟨w.heap.size, 0, none⟩) 12 12 (List.replicate 12 0) := by
    refine ⟨by simp, ?_⟩
    have e : (madeCells (Value.int .i64 0).cells (12 * 1)).toList = (List.replicate 12 (0 : Int)).map (Value.int .i64) := by
      rw [Nat.mul_one]
      show (madeCells #[Value.int .i64 0] 12).toList = _
      rw [toList_madeCells_one, List.map_replicate]
    rw [← e]
    exact hown
  have hB1 : Below w.heap.size w w1 := below_of_grown hgrow
  clear hown hgrow hi hz0 hz1 hz2
  go_wp2
  go_ret
  exact ⟨rfl, ho, hB1⟩

set_option maxHeartbeats 3200000 in
theorem heat91_any (R : Nat) (p : Int) (w : World) (hr : Rd w R p) (hp : p < 20000) :
    Calls Try.prog 32 #[.pointer (some ⟨R, 0, none⟩)] w (DrawnH w R p) := by
  have hR := hr.lt
  have HR := hide hr
  clear hr
  go_enter Try.func32, Try.ntmps32
  go_wp2_with fail
  refine (new13_any w).mono ?_
  rintro e w1 ⟨rfl, ho1, hb1⟩
  have HK1 : Hid (KH w w1 R p (some ⟨w.heap.size, 0, none⟩) 12 12 (List.replicate 12 0)) := { rd := HR.out.below hb1, rlt := hR, own := ho1, grown := grown_of_below hb1 _ }
  clear ho1 hb1 HR
  obtain ⟨g, hg⟩ : ∃ g, w.heap.size = g := ⟨_, rfl⟩
  rw [hg] at HK1
  go_wp2_with fail
  try rw [hg]
  clear hg
  go_loopw [4] (fun i wr => ∃ (k : Nat) (xs : List Int), k ≤ 12 ∧ i = .int .i64 k ∧ Hid (KH w wr R (p + k) (some ⟨g, 0, none⟩) 12 12 xs)) (fun i _ => 12 - (intOf i).toNat)
  case atStart => exact ⟨0, _, by omega, rfl, by have h := HK1.out; show KH w _ R (p + ((0 : Nat) : Int)) _ 12 12 _; rw [show p + ((0 : Nat) : Int) = p from by omega]; exact h⟩
  case round =>
    clear HK1
    obtain ⟨k, xs, hk, rfl, HK⟩ := hrel
    by_cases hlt : k < 12
    · have k1 : (k : Int) < 12 := by omega
      have k0 : (0 : Int) ≤ (k : Int) := by omega
      have hRw := HK.out.rd.lt
      have HA5 := hide (HK.out.alloc (.cells #[.int .i64 0, .int .i64 5, .int .i64 10, .int .i64 20, .int .i64 95, .int .i64 100, .int .i64 33] 3))
      have HBL := hide (Blk.new wr 3 #[.int .i64 0, .int .i64 5, .int .i64 10, .int .i64 20, .int .i64 95, .int .i64 100, .int .i64 33])
      clear HK
      go_wp2_with fail
      refine (pick_any R _ 7 _ HA5.out.rd (by omega) (by omega)).mono ?_
      rintro e w6 ⟨x, rfl, hx0, hx1, hr6, hg6⟩
      have HK6 := hide (HA5.out.pick hr6 hg6)
      have hB6 := HBL.out.grown hg6 (by intro e; injection e with e; omega)
      have hc : w6.cell? ⟨wr.heap.size, x.toNat, none⟩ = some (.int .i64 (sev7 x)) := by
        rw [hB6.cell]
        have : x = 0 ∨ x = 1 ∨ x = 2 ∨ x = 3 ∨ x = 4 ∨ x = 5 ∨ x = 6 := by omega
        rcases this with rfl | rfl | rfl | rfl | rfl | rfl | rfl <;> rfl
      have hcell := HK6.out.own.cell (g := g) (j := k) hlt
      have hfree := HK6.out.own.free (g := g) (j := k)
      have HK7 := hide (HK6.out.put k (sev7 x))
      generalize sev7 x = y at hc HK7
      clear hr6 hg6 HA5 hB6 HBL
      go_wp2
      go_roundw
      case rel => exact ⟨k + 1, _, by omega, by go_num, by have := HK7.out; rw [show p + ((k + 1 : Nat) : Int) = p + k + 1 from by omega]; exact this⟩
      case measure => simp [intOf]; omega
    · obtain rfl : k = 12 := by omega
      go_wp2_with fail
      refine (pick_any R _ 20 _ HK.out.rd (by omega) (by omega)).mono ?_
      rintro e w4 ⟨u, rfl, hu0, hu1, hr4, hg4⟩
      have HK4 := hide (HK.out.pick hr4 hg4)
      clear hr4 hg4 HK
      by_cases hu : u = 0
      · subst hu
        go_wp2_with fail
        refine (pick_any R _ 12 _ HK4.out.rd (by omega) (by omega)).mono ?_
        rintro e w5 ⟨j, rfl, hj0, hj1, hr5, hg5⟩
        have HK5 := hide (HK4.out.pick hr5 hg5)
        have hRw5 := HK5.out.rd.lt
        have HA5 := hide (HK5.out.alloc (.cells #[.int .i64 (-1), .int .i64 101] 3))
        have HBL := hide (Blk.new w5 3 #[.int .i64 (-1), .int .i64 101])
        clear hr5 hg5 HK4
        go_wp2_with fail
        refine (pick_any R _ 2 _ HA5.out.rd (by omega) (by omega)).mono ?_
        rintro e w6 ⟨x, rfl, hx0, hx1, hr6, hg6⟩
        have HK6 := hide (HA5.out.pick hr6 hg6)
        have hB6 := HBL.out.grown hg6 (by intro e; injection e with e; omega)
        have hc : w6.cell? ⟨w5.heap.size, x.toNat, none⟩ = some (.int .i64 (odd2 x)) := by
          rw [hB6.cell]
          have : x = 0 ∨ x = 1 := by omega
          rcases this with rfl | rfl <;> rfl
        obtain ⟨J, rfl⟩ := Int.eq_ofNat_of_zero_le hj0
        have hcell := HK6.out.own.cell (g := g) (j := J) (by omega)
        have hfree := HK6.out.own.free (g := g) (j := J)
        have HK7 := hide (HK6.out.put J (odd2 x))
        generalize odd2 x = y at hc HK7
        clear hr6 hg6 HK5 HA5 hB6 HBL
        go_wp2
        go_ret
        exact ⟨_, _, _, _, _, rfl, by omega, by omega, by omega, HK7.out⟩
      · have hu' : (u == 0) = false := by simpa using hu
        by_cases hu2 : u = 1
        · subst hu2
          go_wp2_with fail
          refine (pick_any R _ 12 _ HK4.out.rd (by omega) (by omega)).mono ?_
          rintro e w5 ⟨j, rfl, hj0, hj1, hr5, hg5⟩
          have HK5 := hide (HK4.out.pick hr5 hg5)
          clear hr5 hg5 HK4
          obtain ⟨J, rfl⟩ := Int.eq_ofNat_of_zero_le hj0
          have HK6 := hide (HK5.out.firsts (m := J) (by omega))
          have hJ : J ≤ 12 := by omega
          go_wp2
          go_ret
          exact ⟨_, _, _, _, _, rfl, by omega, by omega, by omega, HK6.out⟩
        · have hu2' : (u == 1) = false := by simpa using hu2
          go_wp2
          go_ret
          exact ⟨_, _, _, _, _, rfl, by omega, by omega, by omega, HK4.out⟩

set_option maxHeartbeats 3200000 in
theorem blocks91_any (R : Nat) (p : Int) (w : World) (hr : Rd w R p) (hp : p < 20000) :
    Calls Try.prog 37 #[.pointer (some ⟨R, 0, none⟩)] w (DrawnH w R p) := by
  have HK0 : Hid (KH w (w.alloc (.cells #[] 3)) R p (some ⟨w.heap.size, 0, none⟩) 0 0 []) :=
    { rd := hr.alloc _, rlt := hr.lt, own := Own.lit0 w _ (Nat.le_refl _), grown := grown_alloc (grown_refl w _) _ }
  clear hr
  go_enter Try.func37, Try.ntmps37
  go_wp2_with fail
  go_loopw [3, 4] (fun s i wr => ∃ (k n c : Nat) (Ao : Option Addr) (xs : List Int), k ≤ 12 ∧ n ≤ k ∧ i = .int .i64 k ∧ s = .slice Ao n c ∧ Hid (KH w wr R (p + k) Ao n c xs)) (fun _ i _ => 12 - (intOf i).toNat)
  case atStart => exact ⟨0, 0, 0, _, [], by omega, Nat.le_refl _, rfl, rfl, by have h := HK0.out; show KH w _ R (p + ((0 : Nat) : Int)) _ 0 0 []; rw [show p + ((0 : Nat) : Int) = p from by omega]; exact h⟩
  case round =>
    clear HK0
    obtain ⟨k, n, c, Ao, xs, hk, hnk, rfl, rfl, HK⟩ := hrel
    by_cases hlt : k < 12
    · have k1 : (k : Int) < 12 := by omega
      go_wp2_with fail
      refine (pick_any R _ 4 _ HK.out.rd (by omega) (by omega)).mono ?_
      rintro e w4 ⟨u, rfl, hu0, hu1, hr4, hg4⟩
      have HK4 := hide (HK.out.pick hr4 hg4)
      have hs4 : w.heap.size ≤ w4.heap.size := HK4.out.grown.size
      have hnm : n + 1 ≤ 17592186044416 := by omega
      clear hr4 hg4 HK
      by_cases hu : u = 0
      · subst hu
        go_wp2_with (at_builtin; refine wpList_append_ints rfl _ _ rfl w.heap.size n c (w4.heap.size + 1) 1 1 Ao (some ⟨w4.heap.size, 0, none⟩) xs [(k : Int)] rfl (HK4.out.own.alloc _) rfl (Ints.one w4 (k : Int)) hnm (by simp; omega) ?_; intro A8 c8 w8 ho8 hg8 hat8; have HK8 := hide (HK4.out.app ho8 hg8); clear ho8 hg8 hat8)
        go_roundw
        case rel => exact ⟨k + 1, _, _, _, _, by omega, by omega, by go_num, rfl, by have := HK8.out; rw [show p + ((k + 1 : Nat) : Int) = p + k + 1 from by omega]; exact this⟩
        case measure => simp [intOf]; omega
      · have hu' : (u == 0) = false := by simpa using hu
        go_wp2
        go_roundw
        case rel => exact ⟨k + 1, _, _, _, _, by omega, by omega, by go_num, rfl, by have := HK4.out; rw [show p + ((k + 1 : Nat) : Int) = p + k + 1 from by omega]; exact this⟩
        case measure => simp [intOf]; omega
    · obtain rfl : k = 12 := by omega
      go_wp2_with fail
      refine (pick_any R _ 20 _ HK.out.rd (by omega) (by omega)).mono ?_
      rintro e w4 ⟨u, rfl, hu0, hu1, hr4, hg4⟩
      have HK4 := hide (HK.out.pick hr4 hg4)
      clear hr4 hg4 HK
      by_cases hu : u = 0
      · subst hu
        go_wp2_with fail
        refine (pick_any R _ 14 _ HK4.out.rd (by omega) (by omega)).mono ?_
        rintro e w5 ⟨j, rfl, hj0, hj1, hr5, hg5⟩
        have HK5 := hide (HK4.out.pick hr5 hg5)
        have hs5 : w.heap.size ≤ w5.heap.size := HK5.out.grown.size
        have hnm : n + 1 ≤ 17592186044416 := by omega
        have wj : IntKind.i64.wrap (j - 1) = j - 1 := IntWalk.i64_in _ (by omega)
        clear hr5 hg5 HK4
        go_wp2_with (at_builtin; refine wpList_append_ints rfl _ _ rfl w.heap.size n c (w5.heap.size + 1) 1 1 Ao (some ⟨w5.heap.size, 0, none⟩) xs [j - 1] rfl (HK5.out.own.alloc _) rfl (Ints.one w5 (j - 1)) hnm (by simp; omega) ?_; intro A8 c8 w8 ho8 hg8 hat8; have HK8 := hide (HK5.out.app ho8 hg8); clear ho8 hg8 hat8)
        go_ret
        exact ⟨_, _, _, _, _, rfl, by omega, by omega, by omega, HK8.out⟩
      · have hu' : (u == 0) = false := by simpa using hu
        by_cases hu2 : u = 1
        · subst hu2
          have HK5 := hide HK4.out.lit0
          go_wp2
          go_ret
          exact ⟨_, _, _, _, _, rfl, by omega, by omega, by omega, HK5.out⟩
        · have hu2' : (u == 1) = false := by simpa using hu2
          go_wp2
          go_ret
          exact ⟨_, _, _, _, _, rfl, by omega, by omega, by omega, HK4.out⟩

/-- a drawn list, as the laws know it -/
structure DL (w0 w : World) (A : Option Addr) (n c : Nat) (xs : List Int) : Prop where
  ints : Ints w w.heap.size A n xs
  num : n ≤ 13
  nc : n ≤ c ∧ c ≤ maxLen
  below : Below w0.heap.size w0 w
theorem KH.dl {w0 w1 w : World} {R n c : Nat} {p : Int} {A : Option Addr} {xs : List Int} (h : KH w1 w R p A n c xs) (hn : n ≤ 13) (hb : Below w0.heap.size w0 w1) (hR : w0.heap.size ≤ R) : DL w0 w A n c xs :=
  { ints := h.own.ints, num := hn, nc := h.own.cap, below := hb.grown h.grown hb.size (fun g e => by injection e with e; omega) }

set_option maxHeartbeats 1600000 in
theorem drawHD_any (A : Option Addr) (n c : Nat) (bs : Nat → Int) (w : World) (hb : Bytes w w.heap.size A n bs) (hn : n ≤ c) (hc : c ≤ maxLen) :
    Calls Try.prog 19 #[.slice A n c] w fun e w' => ∃ A1 m c1 h, e = .returned (.slice A1 m c1) ∧ DL w w' A1 m c1 h := by
  go_enter Try.func19, Try.ntmps19
  go_wp2_with fail
  refine (open_any A n c bs _ hb hn hc).mono ?_
  rintro e w1 ⟨rfl, hr1, hb1⟩
  have HB1 := hide hb1
  have HR1 := hide hr1
  clear hb1 hr1
  go_wp2_with fail
  refine (heat91_any _ 0 _ HR1.out (by omega)).mono ?_
  rintro e w2 ⟨A2, m, c2, xs, p2, rfl, hm, hp0, hp1, hk⟩
  have HD := hide (hk.dl hm HB1.out (Nat.le_refl _))
  clear hk
  go_wp2
  go_ret
  exact ⟨_, _, _, _, rfl, HD.out⟩

set_option maxHeartbeats 1600000 in
theorem drawHU_any (A : Option Addr) (n c : Nat) (bs : Nat → Int) (w : World) (hb : Bytes w w.heap.size A n bs) (hn : n ≤ c) (hc : c ≤ maxLen) :
    Calls Try.prog 14 #[.slice A n c] w fun e w' => ∃ A1 m c1 h b, e = .returned (.tuple #[.slice A1 m c1, .int .i64 b]) ∧ -1 ≤ b ∧ b ≤ 12 ∧ DL w w' A1 m c1 h := by
  go_enter Try.func14, Try.ntmps14
  go_wp2_with fail
  refine (open_any A n c bs _ hb hn hc).mono ?_
  rintro e w1 ⟨rfl, hr1, hb1⟩
  have HB1 := hide hb1
  have HR1 := hide hr1
  clear hb1 hr1
  go_wp2_with fail
  refine (heat91_any _ 0 _ HR1.out (by omega)).mono ?_
  rintro e w2 ⟨A2, m, c2, xs, p2, rfl, hm, hp0, hp1, hk⟩
  have HK2 := hide hk
  clear hk
  go_wp2_with fail
  refine (pick_any _ _ 14 _ HK2.out.rd (by omega) (by omega)).mono ?_
  rintro e w3 ⟨u, rfl, hu0, hu1, hr3, hg3⟩
  have HD := hide ((HK2.out.pick hr3 hg3).dl hm HB1.out (Nat.le_refl _))
  have wu : IntKind.i64.wrap (u - 1) = u - 1 := IntWalk.i64_in _ (by omega)
  clear hr3 hg3 HK2
  go_wp2
  go_ret2
  exact ⟨_, _, _, _, _, rfl, by omega, by omega, HD.out⟩

set_option maxHeartbeats 1600000 in
theorem drawHC_any (A : Option Addr) (n c : Nat) (bs : Nat → Int) (w : World) (hb : Bytes w w.heap.size A n bs) (hn : n ≤ c) (hc : c ≤ maxLen) :
    Calls Try.prog 23 #[.slice A n c] w fun e w' => ∃ A1 m c1 h A2 q c2 ls b, e = .returned (.tuple #[.slice A1 m c1, .slice A2 q c2, .int .i64 b]) ∧ -1 ≤ b ∧ b ≤ 6 ∧ DL w w' A1 m c1 h ∧ DL w w' A2 q c2 ls := by
  go_enter Try.func23, Try.ntmps23
  go_wp2_with fail
  refine (open_any A n c bs _ hb hn hc).mono ?_
  rintro e w1 ⟨rfl, hr1, hb1⟩
  have HB1 := hide hb1
  have HR1 := hide hr1
  clear hb1 hr1
  go_wp2_with fail
  refine (heat91_any _ 0 _ HR1.out (by omega)).mono ?_
  rintro e w2 ⟨A2, m, c2, xs, p2, rfl, hm, hp0, hp1, hk⟩
  have HK2 := hide hk
  clear hk
  go_wp2_with fail
  refine (blocks91_any _ p2 _ HK2.out.rd (by omega)).mono ?_
  rintro e w3 ⟨A3, q, c3, ls, p3, rfl, hq, hp2, hp3, hk3⟩
  have HK3 := hide hk3
  have HH3 := hide (HK2.out.pick hk3.rd hk3.grown)
  have hs2 := HK2.out.grown.size
  clear hk3 HK2
  go_wp2_with fail
  refine (pick_any _ _ 8 _ HK3.out.rd (by omega) (by omega)).mono ?_
  rintro e w4 ⟨u, rfl, hu0, hu1, hr4, hg4⟩
  have HD4 := hide ((HH3.out.pick hr4 hg4).dl hm HB1.out (Nat.le_refl _))
  have HL4 := hide (show DL w w4 A3 q c3 ls from { ints := (HK3.out.pick hr4 hg4).own.ints, num := hq, nc := HK3.out.own.cap, below := HD4.out.below })
  have wu : IntKind.i64.wrap (u - 1) = u - 1 := IntWalk.i64_in _ (by omega)
  clear hr4 hg4 HK3 HH3
  go_wp2
  go_ret3
  exact ⟨_, _, _, _, _, _, _, _, _, rfl, by omega, by omega, HD4.out, HL4.out⟩
end Go.Proofs.Ytnkflcibbhoedaa
