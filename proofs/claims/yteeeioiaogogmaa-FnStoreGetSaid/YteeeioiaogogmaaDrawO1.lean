/-
  Drawn values of an object: l91Values.
-/
import Derived.Test.YteeeioiaogogmaaDrawA
import Derived.Deep.DeepCutAuto
import Derived.Deep.CutBlock
namespace Go.Proofs.Yteeeioiaogogmaa
open Go.RowKit
set_option linter.unusedVariables false
set_option maxRecDepth 100000

/-- what l91Values knows at each step -/
structure KV (w0 w : World) (R : Nat) (p : Int) (A : Option Addr) (n c : Nat) (xs : List Int) : Prop where
  rd : Rd w R p
  rlt : R < w0.heap.size
  own : Own w w0.heap.size A n c xs
  rng : Rng (-1) 100 xs
  grown : w0.grownBy w (some R)
theorem KV.pick {w0 w w' : World} {R n c : Nat} {p p' : Int} {A : Option Addr} {xs : List Int} (h : KV w0 w R p A n c xs) (hr : Rd w' R p') (hg : w.grownBy w' (some R)) : KV w0 w' R p' A n c xs :=
  { rd := hr, rlt := h.rlt, own := h.own.kept hg (by intro q hq; injection hq with hq; subst hq; intro e; have := (h.own.block _ e).1; have := h.rlt; omega), rng := h.rng, grown := grown_trans' h.grown hg }
theorem KV.put {w0 w : World} {R n c g : Nat} {p : Int} {xs : List Int} (h : KV w0 w R p (some ⟨g, 0, none⟩) n c xs) (j : Nat) {x : Int} (h0 : -1 ≤ x) (h1 : x ≤ 100) : KV w0 (w.setCell ⟨g, j, none⟩ (.int .i64 x)) R p (some ⟨g, 0, none⟩) n c (xs.set j x) := by
  have hst := h.own.stored (g := g) (j := j) x
  have hg0 := (h.own.block g rfl).1
  exact { rd := h.rd.grown hst.2 (fun b hb => by injection hb with hb; have := h.rlt; omega), rlt := h.rlt, own := hst.1, rng := h.rng.set j h0 h1, grown := grown_own h.grown hst.2 (fun b hb => by injection hb with hb; omega) }
theorem KV.alloc {w0 w : World} {R n c : Nat} {p : Int} {A : Option Addr} {xs : List Int} (h : KV w0 w R p A n c xs) (o : Obj) : KV w0 (w.alloc o) R p A n c xs :=
  { rd := h.rd.alloc o, rlt := h.rlt, own := h.own.alloc o, rng := h.rng, grown := grown_alloc h.grown o }
theorem KV.app {w0 w w8 : World} {R n c c8 : Nat} {p x : Int} {A A8 : Option Addr} {xs : List Int} {o : Obj} (h : KV w0 w R p A n c xs) (h0 : -1 ≤ x) (h1 : x ≤ 100) (ho : Own w8 w0.heap.size A8 (n + 1) c8 (xs ++ [x])) (hg : (w.alloc o).grownBy w8 (Value.slice A n c).ownBlock) : KV w0 w8 R p A8 (n + 1) c8 (xs ++ [x]) := by
  have hb := h.own.block
  exact { rd := (h.rd.alloc o).grown hg (fun b hb' => by have := (hb b hb').1; have := h.rlt; omega), rlt := h.rlt, own := ho, rng := h.rng.snoc h0 h1, grown := grown_own (grown_alloc h.grown o) hg (fun b hb' => (hb b hb').1) }

def three (v : Int) : Int := ([0, 100, -1] : List Int).getD v.toNat 0
theorem three_rng (v : Int) : -1 ≤ three v ∧ three v ≤ 100 := by
  unfold three
  rcases h : v.toNat with _ | _ | _ | n <;> simp

/-- what is handed back -/
def DrawnV (w0 : World) (R : Nat) (p : Int) (e : Ending) (w' : World) : Prop :=
  ∃ (A : Option Addr) (n c : Nat) (xs : List Int) (p' : Int), e = .returned (.slice A n c) ∧ n ≤ 8 ∧ p ≤ p' ∧ p' ≤ p + 15 ∧ KV w0 w' R p' A n c xs

set_option maxHeartbeats 3200000 in
theorem values91_any (R : Nat) (p : Int) (w : World) (hr : Rd w R p) (hp : p < 20000) :
    Calls Try.prog 29 #[.pointer (some ⟨R, 0, none⟩)] w (DrawnV w R p) := by
  have HK0 : Hid (KV w (w.alloc (.cells #[] 3)) R p (some ⟨w.heap.size, 0, none⟩) 0 0 []) :=
    { rd := hr.alloc _, rlt := hr.lt, own := Own.lit0 w _ (Nat.le_refl _), rng := by simp [Rng], grown := grown_alloc (grown_refl w _) _ }
  clear hr
  go_enter Try.func29, Try.ntmps29
  go_wp2_with fail
  refine (pick_any R p 6 _ HK0.out.rd (by omega) (by omega)).mono ?_
  rintro e w1 ⟨v1, rfl, hv10, hv11, hr1, hg1⟩
  have HK1 := hide (HK0.out.pick hr1 hg1)
  clear hr1 hg1 HK0
  go_wp2_with fail
  refine (pick_any R _ 12 _ HK1.out.rd (by omega) (by omega)).mono ?_
  rintro e w2 ⟨v2, rfl, hv20, hv21, hr2, hg2⟩
  have HK2 := hide (HK1.out.pick hr2 hg2)
  clear hr2 hg2 HK1
  go_upto_if 12 with fail
  go_cut [4] from 13 to 43 (fun s wx => ∃ (N : Nat) (px : Int), s = .int .i64 N ∧ N ≤ 8 ∧ p ≤ px ∧ px ≤ p + 3 ∧ Hid (KV w wx R px (some ⟨w.heap.size, 0, none⟩) 0 0 []))
  case first =>
    obtain ⟨N1, rfl⟩ := Int.eq_ofNat_of_zero_le hv10
    by_cases h0 : v2 = 0
    · subst h0
      go_wp2_with fail
      refine (pick_any R _ 9 _ HK2.out.rd (by omega) (by omega)).mono ?_
      rintro e w3 ⟨v3, rfl, hv30, hv31, hr3, hg3⟩
      have HK3 := hide (HK2.out.pick hr3 hg3)
      obtain ⟨N, rfl⟩ := Int.eq_ofNat_of_zero_le hv30
      clear hr3 hg3 HK2
      go_wp2
      go_meet
      exact ⟨N, _, rfl, by omega, by omega, by omega, HK3.out⟩
    · have h0' : (v2 == 0) = false := by simpa using h0
      go_wp2
      go_meet
      exact ⟨1 + N1, _, by go_num, by omega, by omega, by omega, HK2.out⟩
  case rest =>
    clear HK2
    obtain ⟨N, px, rfl, hN, hpx0, hpx1, HK⟩ := hcut
    go_wp2_with fail
    go_loopw [3, 5] (fun s i wr => ∃ (k c : Nat) (Ao : Option Addr) (xs : List Int), k ≤ N ∧ i = .int .i64 k ∧ s = .slice Ao k c ∧ Hid (KV w wr R (px + k) Ao k c xs)) (fun _ i _ => N - (intOf i).toNat)
    case atStart => exact ⟨0, 0, _, [], Nat.zero_le _, rfl, rfl, by have h := HK.out; show KV w _ R (px + ((0 : Nat) : Int)) _ 0 0 []; rw [show px + ((0 : Nat) : Int) = px from by omega]; exact h⟩
    case round =>
      clear HK
      obtain ⟨k, c, Ao, xs, hk, rfl, rfl, HK⟩ := hrel
      by_cases hlt : k < N
      · go_wp2_with fail
        refine (pick_any R _ 99 _ HK.out.rd (by omega) (by omega)).mono ?_
        rintro e w4 ⟨u, rfl, hu0, hu1, hr4, hg4⟩
        have HK4 := hide (HK.out.pick hr4 hg4)
        have hs4 : w.heap.size ≤ w4.heap.size := HK4.out.grown.size
        have hnm : k + 1 ≤ 17592186044416 := by omega
        clear hr4 hg4 HK
        go_wp2_with (at_builtin; refine wpList_append_ints rfl (.tmp 20) (.tmp 24) rfl w.heap.size k c (w4.heap.size + 1) 1 1 Ao (some ⟨w4.heap.size, 0, none⟩) xs [1 + u] rfl (HK4.out.own.alloc _) rfl (Ints.one w4 (1 + u)) hnm (by simp; omega) ?_; intro A8 c8 w8 ho8 hg8 hat8; have HK8 := hide (HK4.out.app (by omega) (by omega) ho8 hg8); clear ho8 hg8 hat8)
        go_roundw
        case rel => exact ⟨k + 1, _, _, _, by omega, by go_num, rfl, by have := HK8.out; rw [show px + ((k + 1 : Nat) : Int) = px + k + 1 from by omega]; exact this⟩
        case measure => simp [intOf]; omega
      · obtain rfl : k = N := by omega
        by_cases hk0 : k = 0
        · subst hk0
          have h00 : decide ((0 : Int) < 0) = false := by decide
          go_wp2
          go_ret
          exact ⟨_, _, _, _, _, rfl, by omega, by omega, by omega, HK.out⟩
        · have hkp : decide ((0 : Int) < (k : Int)) = true := by simp; omega
          have hkp' : 0 < k := by omega
          go_wp2_with fail
          refine (pick_any R _ 16 _ HK.out.rd (by omega) (by omega)).mono ?_
          rintro e w4 ⟨u, rfl, hu0, hu1, hr4, hg4⟩
          have HK4 := hide (HK.out.pick hr4 hg4)
          clear hr4 hg4 HK
          by_cases hu : u = 0
          · subst hu
            go_wp2_with fail
            refine (pick_any R _ k _ HK4.out.rd (by omega) (by omega)).mono ?_
            rintro e w5 ⟨j, rfl, hj0, hj1, hr5, hg5⟩
            have HK5 := hide (HK4.out.pick hr5 hg5)
            have HA5 := hide (HK5.out.alloc (.cells #[.int .i64 0, .int .i64 100, .int .i64 (-1)] 3))
            have HBL := hide (Blk.new w5 3 #[.int .i64 0, .int .i64 100, .int .i64 (-1)])
            clear hr5 hg5 HK4
            go_wp2_with fail
            refine (pick_any R _ 3 _ HA5.out.rd (by omega) (by omega)).mono ?_
            rintro e w6 ⟨x, rfl, hx0, hx1, hr6, hg6⟩
            have HK6 := hide (HA5.out.pick hr6 hg6)
            have hRw5 : R < w5.heap.size := HK5.out.rd.lt
            have hB6 := HBL.out.grown hg6 (by intro e; injection e with e; omega)
            have hc : w6.cell? ⟨w5.heap.size, x.toNat, none⟩ = some (.int .i64 (three x)) := by
              rw [hB6.cell]
              have : x = 0 ∨ x = 1 ∨ x = 2 := by omega
              rcases this with rfl | rfl | rfl <;> rfl
            have hthr := three_rng x
            obtain ⟨g, rfl, hg0, hgl⟩ := HK6.out.own.shape hkp'
            obtain ⟨J, rfl⟩ := Int.eq_ofNat_of_zero_le hj0
            have hcell := HK6.out.own.cell (g := g) (j := J) (by omega)
            have hfree := HK6.out.own.free (g := g) (j := J)
            have HK7 := hide (HK6.out.put J hthr.1 hthr.2)
            generalize three x = y at hc HK7
            clear hr6 hg6 HK5 HA5 hB6 HBL hthr
            go_wp2
            go_ret
            exact ⟨_, _, _, _, _, rfl, by omega, by omega, by omega, HK7.out⟩
          · have hu' : (u == 0) = false := by simpa using hu
            go_wp2
            go_ret
            exact ⟨_, _, _, _, _, rfl, by omega, by omega, by omega, HK4.out⟩
end Go.Proofs.Yteeeioiaogogmaa
