/-
  Drawn numbers of words that are kept: l91Keep.
-/
import Derived.Test.YtiopbgenkalfaaaDrawA
namespace Go.Proofs.Ytiopbgenkalfaaa
open Go.RowKit
set_option linter.unusedVariables false
set_option maxRecDepth 100000

/-- what l91Keep knows at each step -/
structure KS (w0 w : World) (R : Nat) (p : Int) (A : Option Addr) (n c : Nat) (xs : List Int) : Prop where
  rd : Rd w R p
  rlt : R < w0.heap.size
  own : Own w w0.heap.size A n c xs
  grown : w0.grownBy w (some R)
theorem KS.pick {w0 w w' : World} {R n c : Nat} {p p' : Int} {A : Option Addr} {xs : List Int} (h : KS w0 w R p A n c xs) (hr : Rd w' R p') (hg : w.grownBy w' (some R)) : KS w0 w' R p' A n c xs :=
  { rd := hr, rlt := h.rlt, own := h.own.kept hg (by intro q hq; injection hq with hq; subst hq; intro e; have := (h.own.block _ e).1; have := h.rlt; omega), grown := grown_trans' h.grown hg }
theorem KS.put {w0 w : World} {R n c g : Nat} {p : Int} {xs : List Int} (h : KS w0 w R p (some ⟨g, 0, none⟩) n c xs) (j : Nat) (x : Int) : KS w0 (w.setCell ⟨g, j, none⟩ (.int .i64 x)) R p (some ⟨g, 0, none⟩) n c (xs.set j x) := by
  have hst := h.own.stored (g := g) (j := j) x
  have hg0 := (h.own.block g rfl).1
  exact { rd := h.rd.grown hst.2 (fun b hb => by injection hb with hb; have := h.rlt; omega), rlt := h.rlt, own := hst.1, grown := grown_own h.grown hst.2 (fun b hb => by injection hb with hb; omega) }
theorem KS.app {w0 w w8 : World} {R n c m c8 : Nat} {p : Int} {A A8 : Option Addr} {xs ys : List Int} {o : Obj} (h : KS w0 w R p A n c xs) (ho : Own w8 w0.heap.size A8 m c8 ys) (hg : (w.alloc o).grownBy w8 (Value.slice A n c).ownBlock) : KS w0 w8 R p A8 m c8 ys := by
  have hb := h.own.block
  exact { rd := (h.rd.alloc o).grown hg (fun b hb' => by have := (hb b hb').1; have := h.rlt; omega), rlt := h.rlt, own := ho, grown := grown_own (grown_alloc h.grown o) hg (fun b hb' => (hb b hb').1) }

set_option maxHeartbeats 3200000 in
theorem keep91_any (R : Nat) (p : Int) (w : World) (hr : Rd w R p) (hp : p < 20000) :
    Calls Try.prog 64 #[.pointer (some ⟨R, 0, none⟩)] w fun e w' => ∃ (A2 : Option Addr) (m c2 : Nat) (xs : List Int), e = .returned (.slice A2 m c2) ∧ Own w' w.heap.size A2 m c2 xs ∧ m ≤ 4 ∧ w.grownBy w' (some R) ∧ ∃ p' : Int, p ≤ p' ∧ p' ≤ p + 20 ∧ Rd w' R p' := by
  have HK0 : Hid (KS w (w.alloc (.cells #[] 3)) R p (some ⟨w.heap.size, 0, none⟩) 0 0 []) :=
    { rd := hr.alloc _, rlt := hr.lt, own := Own.lit0 w _ (Nat.le_refl _), grown := grown_alloc (grown_refl w _) _ }
  clear hr
  go_enter Try.func64, Try.ntmps64
  go_wp2
  go_loopw [3, 4] (fun s i wr => ∃ (k c : Nat) (Ao : Option Addr) (xs : List Int) (p' : Int), k ≤ 4 ∧ i = .int .i64 k ∧ s = .slice Ao k c ∧ p ≤ p' ∧ p' ≤ p + 2 * k ∧ Hid (KS w wr R p' Ao k c xs)) (fun _ i _ => 4 - (intOf i).toNat)
  case atStart => exact ⟨0, 0, _, [], p, Nat.zero_le _, rfl, rfl, by omega, by omega, HK0.out⟩
  case round =>
    clear HK0
    obtain ⟨k, c, Ao, xs, p', hk, rfl, rfl, hp0, hp1, HK⟩ := hrel
    by_cases hlt : k < 4
    · go_wp2_with fail
      refine (pick_any R p' 2 _ HK.out.rd (by omega) (by omega)).mono ?_
      rintro e w1 ⟨va, rfl, hva0, hva1, hr1, hg1⟩
      have HK1 := hide (HK.out.pick hr1 hg1)
      clear hr1 hg1 HK
      go_wp2_with fail
      refine (pick_any R (p' + 1) 24 _ HK1.out.rd (by omega) (by omega)).mono ?_
      rintro e w2 ⟨vb, rfl, hvb0, hvb1, hr2, hg2⟩
      have HK2 := hide (HK1.out.pick hr2 hg2)
      have hs2 : w.heap.size ≤ w2.heap.size := HK2.out.grown.size
      have hnm : k + 1 ≤ 17592186044416 := by omega
      clear hr2 hg2 HK1
      have hva : va = 0 ∨ va = 1 := by omega
      rcases hva with rfl | rfl
      · go_wp2_with (at_builtin; refine wpList_append_ints rfl (.tmp 10) (.tmp 16) rfl w.heap.size k c (w2.heap.size + 1) 1 1 Ao (some ⟨w2.heap.size, 0, none⟩) xs [0] rfl (HK2.out.own.alloc _) rfl (Ints.one w2 0) hnm (by simp; omega) ?_; intro A8 c8 w8 ho8 hg8 hat8; have HK8 := hide (HK2.out.app ho8 hg8); clear ho8 hg8 hat8)
        go_roundw
        case rel => exact ⟨k + 1, _, _, _, p' + 1 + 1, by omega, by go_num, rfl, by omega, by omega, HK8.out⟩
        case measure => simp [intOf]; omega
      · go_wp2_with (at_builtin; refine wpList_append_ints rfl (.tmp 10) (.tmp 16) rfl w.heap.size k c (w2.heap.size + 1) 1 1 Ao (some ⟨w2.heap.size, 0, none⟩) xs [vb] rfl (HK2.out.own.alloc _) rfl (Ints.one w2 vb) hnm (by simp; omega) ?_; intro A8 c8 w8 ho8 hg8 hat8; have HK8 := hide (HK2.out.app ho8 hg8); clear ho8 hg8 hat8)
        go_roundw
        case rel => exact ⟨k + 1, _, _, _, p' + 1 + 1, by omega, by go_num, rfl, by omega, by omega, HK8.out⟩
        case measure => simp [intOf]; omega
    · obtain rfl : k = 4 := by omega
      go_wp2_with fail
      refine (pick_any R p' 20 _ HK.out.rd (by omega) (by omega)).mono ?_
      rintro e w1 ⟨v, rfl, hv0, hv1, hr1, hg1⟩
      have HK1 := hide (HK.out.pick hr1 hg1)
      clear hr1 hg1 HK
      by_cases h0 : v = 0
      · subst h0
        go_wp2_with fail
        refine (pick_any R (p' + 1) 4 _ HK1.out.rd (by omega) (by omega)).mono ?_
        rintro e w2 ⟨u, rfl, hu0, hu1, hr2, hg2⟩
        have HK2 := hide (HK1.out.pick hr2 hg2)
        obtain ⟨j, rfl⟩ := Int.eq_ofNat_of_zero_le hu0
        obtain ⟨g, rfl, hg0, hgl⟩ := HK2.out.own.shape (by omega)
        have hcell := HK2.out.own.cell (g := g) (j := j) (by omega)
        have hfree := HK2.out.own.free (g := g) (j := j)
        have HK3 := hide (HK2.out.put j (-1))
        clear hr2 hg2 HK1
        go_wp2
        go_ret
        exact ⟨_, _, _, _, rfl, HK3.out.own, by omega, HK3.out.grown, _, by omega, by omega, HK3.out.rd⟩
      · have h0' : (v == 0) = false := by simpa using h0
        by_cases h1 : v = 1
        · subst h1
          go_wp2_with fail
          refine (pick_any R (p' + 1) 4 _ HK1.out.rd (by omega) (by omega)).mono ?_
          rintro e w2 ⟨u, rfl, hu0, hu1, hr2, hg2⟩
          have HK2 := hide (HK1.out.pick hr2 hg2)
          obtain ⟨j, rfl⟩ := Int.eq_ofNat_of_zero_le hu0
          have hcap := HK2.out.own.cap
          have hjc : (j : Int) ≤ (c : Int) := by omega
          have hcm : c ≤ 9223372036854775807 := by have := hcap.2; unfold maxLen at this; omega
          clear hr2 hg2 HK1
          go_wp2
          go_ret
          exact ⟨_, _, _, _, rfl, HK2.out.own.firsts (by omega), by omega, HK2.out.grown, _, by omega, by omega, HK2.out.rd⟩
        · have h1' : (v == 1) = false := by simpa using h1
          by_cases h2 : v = 2
          · subst h2
            go_wp2_with fail
            refine (pick_any R (p' + 1) 4 _ HK1.out.rd (by omega) (by omega)).mono ?_
            rintro e w2 ⟨u, rfl, hu0, hu1, hr2, hg2⟩
            have HK2 := hide (HK1.out.pick hr2 hg2)
            obtain ⟨j, rfl⟩ := Int.eq_ofNat_of_zero_le hu0
            obtain ⟨g, rfl, hg0, hgl⟩ := HK2.out.own.shape (by omega)
            have hcell := HK2.out.own.cell (g := g) (j := j) (by omega)
            have hfree := HK2.out.own.free (g := g) (j := j)
            have HK3 := hide (HK2.out.put j 1000)
            clear hr2 hg2 HK1
            go_wp2
            go_ret
            exact ⟨_, _, _, _, rfl, HK3.out.own, by omega, HK3.out.grown, _, by omega, by omega, HK3.out.rd⟩
          · have h2' : (v == 2) = false := by simpa using h2
            go_wp2
            go_ret
            exact ⟨_, _, _, _, rfl, HK1.out.own, by omega, HK1.out.grown, _, by omega, by omega, HK1.out.rd⟩

end Go.Proofs.Ytiopbgenkalfaaa
