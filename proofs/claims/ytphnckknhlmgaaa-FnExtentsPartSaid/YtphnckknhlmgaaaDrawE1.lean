/-
  Drawn blocks and extents: l93Blocks, l93Extents.
-/
import Derived.Test.YtphnckknhlmgaaaDrawA
import Derived.Test.YtphnckknhlmgaaaSpecE4
import Derived.Deep.DeepCutAuto
import Derived.Deep.CutBlock
namespace Go.Proofs.Ytphnckknhlmgaaa
open Go.RowKit
set_option linter.unusedVariables false
set_option maxRecDepth 100000

/-- what l93Blocks knows at each step -/
structure KV (w0 w : World) (R : Nat) (p : Int) (A : Option Addr) (n c : Nat) (xs : List Int) : Prop where
  rd : Rd w R p
  rlt : R < w0.heap.size
  own : Own w w0.heap.size A n c xs
  rng : Rng (-1) 100 xs
  grown : w0.grownBy w (some R)
theorem KV.pick {w0 w w' : World} {R n c : Nat} {p p' : Int} {A : Option Addr} {xs : List Int} (h : KV w0 w R p A n c xs) (hr : Rd w' R p') (hg : w.grownBy w' (some R)) : KV w0 w' R p' A n c xs :=
  { rd := hr, rlt := h.rlt, own := h.own.kept hg (by intro q hq; injection hq with hq; subst hq; intro e; have := (h.own.block _ e).1; have := h.rlt; omega), rng := h.rng, grown := grown_trans' h.grown hg }
theorem KV.put {w0 w : World} {R n c g : Nat} {p : Int} {xs : List Int} (h : KV w0 w R p (some ⟨g, 0, none⟩) n c xs) (j : Nat) {x : Int} (h0 : -1 ≤ x) (h1 : x ≤ 100) : KV w0 (w.setCell ⟨g, j, none⟩ (.int .i64 x)) R p (some ⟨g, 0, none⟩) n c (xs.set j x) := by
  have hst := h.own.stored (g := g) (j := j) x
  have hg0 := (h.own.block g rfl).1
  exact { rd := h.rd.grown hst.2 (fun b hb => by injection hb with hb; have := h.rlt; omega), rlt := h.rlt, own := hst.1, rng := h.rng.set j h0 h1, grown := grown_own h.grown hst.2 (fun b hb => by injection hb with hb; omega) }
theorem KV.alloc {w0 w : World} {R n c : Nat} {p : Int} {A : Option Addr} {xs : List Int} (h : KV w0 w R p A n c xs) (o : Obj) : KV w0 (w.alloc o) R p A n c xs :=
  { rd := h.rd.alloc o, rlt := h.rlt, own := h.own.alloc o, rng := h.rng, grown := grown_alloc h.grown o }
theorem KV.app {w0 w w8 : World} {R n c c8 : Nat} {p x : Int} {A A8 : Option Addr} {xs : List Int} {o : Obj} (h : KV w0 w R p A n c xs) (h0 : -1 ≤ x) (h1 : x ≤ 100) (ho : Own w8 w0.heap.size A8 (n + 1) c8 (xs ++ [x])) (hg : (w.alloc o).grownBy w8 (Value.slice A n c).ownBlock) : KV w0 w8 R p A8 (n + 1) c8 (xs ++ [x]) := by
  have hb := h.own.block
  exact { rd := (h.rd.alloc o).grown hg (fun b hb' => by have := (hb b hb').1; have := h.rlt; omega), rlt := h.rlt, own := ho, rng := h.rng.snoc h0 h1, grown := grown_own (grown_alloc h.grown o) hg (fun b hb' => (hb b hb').1) }

def odd3 (v : Int) : Int := ([-1, 5, 12] : List Int).getD v.toNat 0
theorem odd3_rng (v : Int) : -1 ≤ odd3 v ∧ odd3 v ≤ 100 := by
  unfold odd3
  rcases h : v.toNat with _ | _ | _ | n <;> simp
/-- what is handed back -/
def DrawnB (w0 : World) (R : Nat) (p : Int) (e : Ending) (w' : World) : Prop :=
  ∃ (A : Option Addr) (n c : Nat) (xs : List Int) (p' : Int), e = .returned (.slice A n c) ∧ n ≤ 12 ∧ p ≤ p' ∧ p' ≤ p + 20 ∧ KV w0 w' R p' A n c xs

set_option maxHeartbeats 3200000 in
theorem blocks93_any (R : Nat) (p : Int) (w : World) (hr : Rd w R p) (hp : p < 20000) :
    Calls Try.prog 28 #[.pointer (some ⟨R, 0, none⟩)] w (DrawnB w R p) := by
  have HK0 : Hid (KV w (w.alloc (.cells #[] 3)) R p (some ⟨w.heap.size, 0, none⟩) 0 0 []) :=
    { rd := hr.alloc _, rlt := hr.lt, own := Own.lit0 w _ (Nat.le_refl _), rng := by simp [Rng], grown := grown_alloc (grown_refl w _) _ }
  clear hr
  go_enter Try.func28, Try.ntmps28
  go_wp2_with fail
  refine (pick_any R p 2 _ HK0.out.rd (by omega) (by omega)).mono ?_
  rintro e w1 ⟨v1, rfl, hv10, hv11, hr1, hg1⟩
  have HK1 := hide (HK0.out.pick hr1 hg1)
  clear hr1 hg1 HK0
  go_wp2_with fail
  go_loopw [3, 4, 5] (fun s b i wr => ∃ (k n c : Nat) (Ao : Option Addr) (xs : List Int) (q : Bool), k ≤ 12 ∧ n ≤ k ∧ i = .int .i64 k ∧ b = .bool q ∧ s = .slice Ao n c ∧ Hid (KV w wr R (p + 1 + k) Ao n c xs)) (fun _ _ i _ => 12 - (intOf i).toNat)
  case atStart => exact ⟨0, 0, 0, _, [], _, by omega, Nat.le_refl _, rfl, rfl, rfl, by have h := HK1.out; show KV w _ R (p + 1 + ((0 : Nat) : Int)) _ 0 0 []; rw [show p + 1 + ((0 : Nat) : Int) = p + 1 from by omega]; exact h⟩
  case round =>
    clear HK1
    obtain ⟨k, n, c, Ao, xs, q, hk, hnk, rfl, rfl, rfl, HK⟩ := hrel
    by_cases hlt : k < 12
    · have k1 : (k : Int) < 12 := by omega
      go_wp2_with fail
      refine (pick_any R _ 3 _ HK.out.rd (by omega) (by omega)).mono ?_
      rintro e w4 ⟨u, rfl, hu0, hu1, hr4, hg4⟩
      have HK4 := hide (HK.out.pick hr4 hg4)
      have hs4 : w.heap.size ≤ w4.heap.size := HK4.out.grown.size
      have hnm : n + 1 ≤ 17592186044416 := by omega
      clear hr4 hg4 HK
      by_cases hu : u = 0
      · subst hu
        rcases q with _ | _
        · go_wp2_with (at_builtin; refine wpList_append_ints rfl (.tmp 20) (.tmp 22) rfl w.heap.size n c (w4.heap.size + 1) 1 1 Ao (some ⟨w4.heap.size, 0, none⟩) xs [(k : Int)] rfl (HK4.out.own.alloc _) rfl (Ints.one w4 (k : Int)) hnm (by simp; omega) ?_; intro A8 c8 w8 ho8 hg8 hat8; have HK8 := hide (HK4.out.app (by omega) (by omega) ho8 hg8); clear ho8 hg8 hat8)
          go_roundw
          case rel => exact ⟨k + 1, _, _, _, _, _, by omega, by omega, by go_num, rfl, rfl, by have := HK8.out; rw [show p + 1 + ((k + 1 : Nat) : Int) = p + 1 + k + 1 from by omega]; exact this⟩
          case measure => simp [intOf]; omega
        · go_wp2
          go_roundw
          case rel => exact ⟨k + 1, _, _, _, _, _, by omega, by omega, by go_num, rfl, rfl, by have := HK4.out; rw [show p + 1 + ((k + 1 : Nat) : Int) = p + 1 + k + 1 from by omega]; exact this⟩
          case measure => simp [intOf]; omega
      · have hu' : (u == 0) = false := by simpa using hu
        rcases q with _ | _
        · go_wp2
          go_roundw
          case rel => exact ⟨k + 1, _, _, _, _, _, by omega, by omega, by go_num, rfl, rfl, by have := HK4.out; rw [show p + 1 + ((k + 1 : Nat) : Int) = p + 1 + k + 1 from by omega]; exact this⟩
          case measure => simp [intOf]; omega
        · go_wp2_with (at_builtin; refine wpList_append_ints rfl (.tmp 20) (.tmp 22) rfl w.heap.size n c (w4.heap.size + 1) 1 1 Ao (some ⟨w4.heap.size, 0, none⟩) xs [(k : Int)] rfl (HK4.out.own.alloc _) rfl (Ints.one w4 (k : Int)) hnm (by simp; omega) ?_; intro A8 c8 w8 ho8 hg8 hat8; have HK8 := hide (HK4.out.app (by omega) (by omega) ho8 hg8); clear ho8 hg8 hat8)
          go_roundw
          case rel => exact ⟨k + 1, _, _, _, _, _, by omega, by omega, by go_num, rfl, rfl, by have := HK8.out; rw [show p + 1 + ((k + 1 : Nat) : Int) = p + 1 + k + 1 from by omega]; exact this⟩
          case measure => simp [intOf]; omega
    · obtain rfl : k = 12 := by omega
      by_cases hk0 : n = 0
      · subst hk0
        have h00 : decide ((0 : Int) < 0) = false := by decide
        go_wp2
        go_ret
        exact ⟨_, _, _, _, _, rfl, by omega, by omega, by omega, HK.out⟩
      · have hkp : decide ((0 : Int) < (n : Int)) = true := by simp; omega
        have hkp' : 0 < n := by omega
        go_wp2_with fail
        refine (pick_any R _ 20 _ HK.out.rd (by omega) (by omega)).mono ?_
        rintro e w4 ⟨u, rfl, hu0, hu1, hr4, hg4⟩
        have HK4 := hide (HK.out.pick hr4 hg4)
        clear hr4 hg4 HK
        by_cases hu : u = 0
        · subst hu
          go_wp2_with fail
          refine (pick_any R _ n _ HK4.out.rd (by omega) (by omega)).mono ?_
          rintro e w5 ⟨j, rfl, hj0, hj1, hr5, hg5⟩
          have HK5 := hide (HK4.out.pick hr5 hg5)
          have HA5 := hide (HK5.out.alloc (.cells #[.int .i64 (-1), .int .i64 5, .int .i64 12] 3))
          have HBL := hide (Blk.new w5 3 #[.int .i64 (-1), .int .i64 5, .int .i64 12])
          clear hr5 hg5 HK4
          go_wp2_with fail
          refine (pick_any R _ 3 _ HA5.out.rd (by omega) (by omega)).mono ?_
          rintro e w6 ⟨x, rfl, hx0, hx1, hr6, hg6⟩
          have HK6 := hide (HA5.out.pick hr6 hg6)
          have hRw5 : R < w5.heap.size := HK5.out.rd.lt
          have hB6 := HBL.out.grown hg6 (by intro e; injection e with e; omega)
          have hc : w6.cell? ⟨w5.heap.size, x.toNat, none⟩ = some (.int .i64 (odd3 x)) := by
            rw [hB6.cell]
            have : x = 0 ∨ x = 1 ∨ x = 2 := by omega
            rcases this with rfl | rfl | rfl <;> rfl
          have hthr := odd3_rng x
          obtain ⟨g, rfl, hg0, hgl⟩ := HK6.out.own.shape hkp'
          obtain ⟨J, rfl⟩ := Int.eq_ofNat_of_zero_le hj0
          have hcell := HK6.out.own.cell (g := g) (j := J) (by omega)
          have hfree := HK6.out.own.free (g := g) (j := J)
          have HK7 := hide (HK6.out.put J hthr.1 hthr.2)
          generalize odd3 x = y at hc HK7
          clear hr6 hg6 HK5 HA5 hB6 HBL hthr
          go_wp2
          go_ret
          exact ⟨_, _, _, _, _, rfl, by omega, by omega, by omega, HK7.out⟩
        · have hu' : (u == 0) = false := by simpa using hu
          go_wp2
          go_ret
          exact ⟨_, _, _, _, _, rfl, by omega, by omega, by omega, HK4.out⟩
end Go.Proofs.Ytphnckknhlmgaaa
