/-
  Drawn heat and blocks: l13New, l91Heat, l91Blocks, DrawHeatUse, DrawHeatDecay, DrawHeatColdest.
-/
import Derived.Test.YtiopbgenkalfaaaDrawA
import Derived.Test.YtiopbgenkalfaaaNewH
namespace Go.Proofs.Ytiopbgenkalfaaa
open Go.RowKit
set_option linter.unusedVariables false
set_option maxRecDepth 100000

/-- what a drawing knows at each step -/
structure KH (w0 w : World) (R : Nat) (p : Int) (A : Option Addr) (n c : Nat) (xs : List Int) : Prop where
  rd : Rd w R p
  rlt : R < w0.heap.size
  own : Own w w0.heap.size A n c xs
  grown : w0.grownBy w (some R)
section
variable {w0 w w' w8 : World} {R n c c8 g : Nat} {p p' x : Int} {A A8 : Option Addr} {xs : List Int}
theorem KH.pick (h : KH w0 w R p A n c xs) (hr : Rd w' R p') (hg : w.grownBy w' (some R)) : KH w0 w' R p' A n c xs :=
  { rd := hr, rlt := h.rlt, own := h.own.kept hg (by intro q hq; injection hq with hq; subst hq; intro e; have := (h.own.block _ e).1; have := h.rlt; omega), grown := grown_trans' h.grown hg }
theorem KH.put (h : KH w0 w R p (some ⟨g, 0, none⟩) n c xs) (j : Nat) (x : Int) : KH w0 (w.setCell ⟨g, j, none⟩ (.int .i64 x)) R p (some ⟨g, 0, none⟩) n c (xs.set j x) := by
  have hst := h.own.stored (g := g) (j := j) x
  have hg0 := (h.own.block g rfl).1
  exact { rd := h.rd.grown hst.2 (fun b hb => by injection hb with hb; have := h.rlt; omega), rlt := h.rlt, own := hst.1, grown := grown_own h.grown hst.2 (fun b hb => by injection hb with hb; omega) }
theorem KH.alloc (h : KH w0 w R p A n c xs) (o : Obj) : KH w0 (w.alloc o) R p A n c xs :=
  { rd := h.rd.alloc o, rlt := h.rlt, own := h.own.alloc o, grown := grown_alloc h.grown o }
theorem KH.app {o : Obj} (h : KH w0 w R p A n c xs) (ho : Own w8 w0.heap.size A8 (n + 1) c8 (xs ++ [x])) (hg : (w.alloc o).grownBy w8 (Value.slice A n c).ownBlock) : KH w0 w8 R p A8 (n + 1) c8 (xs ++ [x]) := by
  have hb := h.own.block
  exact { rd := (h.rd.alloc o).grown hg (fun b hb' => by have := (hb b hb').1; have := h.rlt; omega), rlt := h.rlt, own := ho, grown := grown_own (grown_alloc h.grown o) hg (fun b hb' => (hb b hb').1) }
theorem KH.firsts (h : KH w0 w R p A n c xs) {m : Nat} (hm : m ≤ n) : KH w0 w R p A m c (xs.take m) :=
  { rd := h.rd, rlt := h.rlt, own := h.own.firsts hm, grown := h.grown }
theorem KH.lit0 (h : KH w0 w R p A n c xs) : KH w0 (w.alloc (.cells #[] 3)) R p (some ⟨w.heap.size, 0, none⟩) 0 0 [] :=
  { rd := h.rd.alloc _, rlt := h.rlt, own := Own.lit0 w _ h.grown.size, grown := grown_alloc h.grown _ }
end

def sev7 (v : Int) : Int := ([0, 5, 10, 20, 95, 100, 33] : List Int).getD v.toNat 0
def odd2 (v : Int) : Int := ([-1, 101] : List Int).getD v.toNat 0
/-- what is handed back -/
def DrawnH (w0 : World) (R : Nat) (p : Int) (e : Ending) (w' : World) : Prop :=
  ∃ (A : Option Addr) (n c : Nat) (xs : List Int) (p' : Int), e = .returned (.slice A n c) ∧ n ≤ 13 ∧ p ≤ p' ∧ p' ≤ p + 20 ∧ KH w0 w' R p' A n c xs



set_option maxHeartbeats 3200000 in
theorem blocks91_any (R : Nat) (p : Int) (w : World) (hr : Rd w R p) (hp : p < 20000) :
    Calls Try.prog 65 #[.pointer (some ⟨R, 0, none⟩)] w (DrawnH w R p) := by
  have HK0 : Hid (KH w (w.alloc (.cells #[] 3)) R p (some ⟨w.heap.size, 0, none⟩) 0 0 []) :=
    { rd := hr.alloc _, rlt := hr.lt, own := Own.lit0 w _ (Nat.le_refl _), grown := grown_alloc (grown_refl w _) _ }
  clear hr
  go_enter Try.func65, Try.ntmps65
  go_wp2_with fail
  go_loopw [3, 4] (fun s i wr => ∃ (k n c : Nat) (Ao : Option Addr) (xs : List Int), k ≤ 12 ∧ n ≤ k ∧ i = .int .i64 k ∧ s = .slice Ao n c ∧ Hid (KH w wr R (p + k) Ao n c xs)) (fun _ i _ => 12 - (intOf i).toNat)
  case atStart => exact ⟨0, 0, 0, _, [], by omega, Nat.le_refl _, rfl, rfl, by have h := HK0.out; show KH w _ R (p + ((0 : Nat) : Int)) _ 0 0 []; rw [show p + ((0 : Nat) : Int) = p from by omega]; exact h⟩
  case round =>
    clear HK0
    obtain ⟨k, n, c, Ao, xs, hk, hnk, rfl, rfl, HK⟩ := hrel
    by_cases hlt : k < 12
    · have k1 : (k : Int) < 12 := by omega
      go_wp2_with fail
      refine (pick_any R _ 4 _ HK.out.rd (by omega) (by omega)).mono ?_
      rintro e w4 ⟨u, rfl, hu0, hu1, hr4, hg4⟩
      have HK4 := hide (HK.out.pick hr4 hg4)
      have hs4 : w.heap.size ≤ w4.heap.size := HK4.out.grown.size
      have hnm : n + 1 ≤ 17592186044416 := by omega
      clear hr4 hg4 HK
      by_cases hu : u = 0
      · subst hu
        go_wp2_with (at_builtin; refine wpList_append_ints rfl _ _ rfl w.heap.size n c (w4.heap.size + 1) 1 1 Ao (some ⟨w4.heap.size, 0, none⟩) xs [(k : Int)] rfl (HK4.out.own.alloc _) rfl (Ints.one w4 (k : Int)) hnm (by simp; omega) ?_; intro A8 c8 w8 ho8 hg8 hat8; have HK8 := hide (HK4.out.app ho8 hg8); clear ho8 hg8 hat8)
        go_roundw
        case rel => exact ⟨k + 1, _, _, _, _, by omega, by omega, by go_num, rfl, by have := HK8.out; rw [show p + ((k + 1 : Nat) : Int) = p + k + 1 from by omega]; exact this⟩
        case measure => simp [intOf]; omega
      · have hu' : (u == 0) = false := by simpa using hu
        go_wp2
        go_roundw
        case rel => exact ⟨k + 1, _, _, _, _, by omega, by omega, by go_num, rfl, by have := HK4.out; rw [show p + ((k + 1 : Nat) : Int) = p + k + 1 from by omega]; exact this⟩
        case measure => simp [intOf]; omega
    · obtain rfl : k = 12 := by omega
      go_wp2_with fail
      refine (pick_any R _ 20 _ HK.out.rd (by omega) (by omega)).mono ?_
      rintro e w4 ⟨u, rfl, hu0, hu1, hr4, hg4⟩
      have HK4 := hide (HK.out.pick hr4 hg4)
      clear hr4 hg4 HK
      by_cases hu : u = 0
      · subst hu
        go_wp2_with fail
        refine (pick_any R _ 14 _ HK4.out.rd (by omega) (by omega)).mono ?_
        rintro e w5 ⟨j, rfl, hj0, hj1, hr5, hg5⟩
        have HK5 := hide (HK4.out.pick hr5 hg5)
        have hs5 : w.heap.size ≤ w5.heap.size := HK5.out.grown.size
        have hnm : n + 1 ≤ 17592186044416 := by omega
        have wj : IntKind.i64.wrap (j - 1) = j - 1 := IntWalk.i64_in _ (by omega)
        clear hr5 hg5 HK4
        go_wp2_with (at_builtin; refine wpList_append_ints rfl _ _ rfl w.heap.size n c (w5.heap.size + 1) 1 1 Ao (some ⟨w5.heap.size, 0, none⟩) xs [j - 1] rfl (HK5.out.own.alloc _) rfl (Ints.one w5 (j - 1)) hnm (by simp; omega) ?_; intro A8 c8 w8 ho8 hg8 hat8; have HK8 := hide (HK5.out.app ho8 hg8); clear ho8 hg8 hat8)
        go_ret
        exact ⟨_, _, _, _, _, rfl, by omega, by omega, by omega, HK8.out⟩
      · have hu' : (u == 0) = false := by simpa using hu
        by_cases hu2 : u = 1
        · subst hu2
          have HK5 := hide HK4.out.lit0
          go_wp2
          go_ret
          exact ⟨_, _, _, _, _, rfl, by omega, by omega, by omega, HK5.out⟩
        · have hu2' : (u == 1) = false := by simpa using hu2
          go_wp2
          go_ret
          exact ⟨_, _, _, _, _, rfl, by omega, by omega, by omega, HK4.out⟩

/-- a drawn list, as the laws know it -/
structure DL (w0 w : World) (A : Option Addr) (n c : Nat) (xs : List Int) : Prop where
  ints : Ints w w.heap.size A n xs
  num : n ≤ 13
  nc : n ≤ c ∧ c ≤ maxLen
  below : Below w0.heap.size w0 w
theorem KH.dl {w0 w1 w : World} {R n c : Nat} {p : Int} {A : Option Addr} {xs : List Int} (h : KH w1 w R p A n c xs) (hn : n ≤ 13) (hb : Below w0.heap.size w0 w1) (hR : w0.heap.size ≤ R) : DL w0 w A n c xs :=
  { ints := h.own.ints, num := hn, nc := h.own.cap, below := hb.grown h.grown hb.size (fun g e => by injection e with e; omega) }



end Go.Proofs.Ytiopbgenkalfaaa
