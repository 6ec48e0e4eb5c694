/-
  Drawn values of a volume: l92Now, DrawModelNew.
-/
import Derived.Test.YtiopbgenkalfaaaKeep91
namespace Go.Proofs.Ytiopbgenkalfaaa
open Go.RowKit
set_option linter.unusedVariables false
set_option maxRecDepth 100000

def odd92 (v : Int) : Int := ([-1, 100] : List Int).getD v.toNat 0
theorem KS.alloc92 {w0 w : World} {R n c : Nat} {p : Int} {A : Option Addr} {xs : List Int} (h : KS w0 w R p A n c xs) (o : Obj) : KS w0 (w.alloc o) R p A n c xs :=
  { rd := h.rd.alloc o, rlt := h.rlt, own := h.own.alloc o, grown := grown_alloc h.grown o }
set_option maxHeartbeats 3200000 in
theorem now92_any (R : Nat) (p : Int) (w : World) (hr : Rd w R p) (hp : p < 20000) :
    Calls Try.prog 31 #[.pointer (some ⟨R, 0, none⟩)] w fun e w' => ∃ (A2 : Option Addr) (m c2 : Nat) (xs : List Int), e = .returned (.slice A2 m c2) ∧ Own w' w.heap.size A2 m c2 xs ∧ m ≤ 12 ∧ w.grownBy w' (some R) ∧ ∃ p' : Int, p ≤ p' ∧ p' ≤ p + 40 ∧ Rd w' R p' := by
  have HK0 : Hid (KS w (w.alloc (.cells #[] 3)) R p (some ⟨w.heap.size, 0, none⟩) 0 0 []) :=
    { rd := hr.alloc _, rlt := hr.lt, own := Own.lit0 w _ (Nat.le_refl _), grown := grown_alloc (grown_refl w _) _ }
  clear hr
  go_enter Try.func31, Try.ntmps31
  go_wp2
  go_loopw [3, 4] (fun s i wr => ∃ (k c : Nat) (Ao : Option Addr) (xs : List Int) (p' : Int), k ≤ 12 ∧ i = .int .i64 k ∧ s = .slice Ao k c ∧ p ≤ p' ∧ p' ≤ p + 2 * k ∧ Hid (KS w wr R p' Ao k c xs)) (fun _ i _ => 12 - (intOf i).toNat)
  case atStart => exact ⟨0, 0, _, [], p, Nat.zero_le _, rfl, rfl, by omega, by omega, HK0.out⟩
  case round =>
    clear HK0
    obtain ⟨k, c, Ao, xs, p', hk, rfl, rfl, hp0, hp1, HK⟩ := hrel
    by_cases hlt : k < 12
    · go_wp2_with fail
      refine (pick_any R p' 2 _ HK.out.rd (by omega) (by omega)).mono ?_
      rintro e w1 ⟨va, rfl, hva0, hva1, hr1, hg1⟩
      have HK1 := hide (HK.out.pick hr1 hg1)
      clear hr1 hg1 HK
      go_wp2_with fail
      refine (pick_any R (p' + 1) 100 _ HK1.out.rd (by omega) (by omega)).mono ?_
      rintro e w2 ⟨vb, rfl, hvb0, hvb1, hr2, hg2⟩
      have HK2 := hide (HK1.out.pick hr2 hg2)
      have hs2 : w.heap.size ≤ w2.heap.size := HK2.out.grown.size
      have hnm : k + 1 ≤ 17592186044416 := by omega
      clear hr2 hg2 HK1
      have hva : va = 0 ∨ va = 1 := by omega
      rcases hva with rfl | rfl
      · go_wp2_with (at_builtin; refine wpList_append_ints rfl (.tmp 10) (.tmp 16) rfl w.heap.size k c (w2.heap.size + 1) 1 1 Ao (some ⟨w2.heap.size, 0, none⟩) xs [0] rfl (HK2.out.own.alloc _) rfl (Ints.one w2 0) hnm (by simp; omega) ?_; intro A8 c8 w8 ho8 hg8 hat8; have HK8 := hide (HK2.out.app ho8 hg8); clear ho8 hg8 hat8)
        go_roundw
        case rel => exact ⟨k + 1, _, _, _, p' + 1 + 1, by omega, by go_num, rfl, by omega, by omega, HK8.out⟩
        case measure => simp [intOf]; omega
      · go_wp2_with (at_builtin; refine wpList_append_ints rfl (.tmp 10) (.tmp 16) rfl w.heap.size k c (w2.heap.size + 1) 1 1 Ao (some ⟨w2.heap.size, 0, none⟩) xs [vb] rfl (HK2.out.own.alloc _) rfl (Ints.one w2 vb) hnm (by simp; omega) ?_; intro A8 c8 w8 ho8 hg8 hat8; have HK8 := hide (HK2.out.app ho8 hg8); clear ho8 hg8 hat8)
        go_roundw
        case rel => exact ⟨k + 1, _, _, _, p' + 1 + 1, by omega, by go_num, rfl, by omega, by omega, HK8.out⟩
        case measure => simp [intOf]; omega
    · obtain rfl : k = 12 := by omega
      go_wp2_with fail
      refine (pick_any R p' 20 _ HK.out.rd (by omega) (by omega)).mono ?_
      rintro e w1 ⟨v, rfl, hv0, hv1, hr1, hg1⟩
      have HK1 := hide (HK.out.pick hr1 hg1)
      clear hr1 hg1 HK
      by_cases h0 : v = 0
      · subst h0
        go_wp2_with fail
        refine (pick_any R (p' + 1) 12 _ HK1.out.rd (by omega) (by omega)).mono ?_
        rintro e w2 ⟨u, rfl, hu0, hu1, hr2, hg2⟩
        have HK2 := hide (HK1.out.pick hr2 hg2)
        have hRw2 := HK2.out.rd.lt
        have HA2 := hide (HK2.out.alloc92 (.cells #[.int .i64 (-1), .int .i64 100] 3))
        have HBL := hide (Blk.new w2 3 #[.int .i64 (-1), .int .i64 100])
        clear hr2 hg2 HK1
        go_wp2_with fail
        refine (pick_any R (p' + 1 + 1) 2 _ HA2.out.rd (by omega) (by omega)).mono ?_
        rintro e w6 ⟨x, rfl, hx0, hx1, hr6, hg6⟩
        have HK6 := hide (HA2.out.pick hr6 hg6)
        have hB6 := HBL.out.grown hg6 (by intro e; injection e with e; omega)
        have hc : w6.cell? ⟨w2.heap.size, x.toNat, none⟩ = some (.int .i64 (odd92 x)) := by
          rw [hB6.cell]
          have : x = 0 ∨ x = 1 := by omega
          rcases this with rfl | rfl <;> rfl
        obtain ⟨j, rfl⟩ := Int.eq_ofNat_of_zero_le hu0
        obtain ⟨g, rfl, hg0, hgl⟩ := HK6.out.own.shape (by omega)
        have hcell := HK6.out.own.cell (g := g) (j := j) (by omega)
        have hfree := HK6.out.own.free (g := g) (j := j)
        have HK7 := hide (HK6.out.put j (odd92 x))
        generalize odd92 x = y at hc HK7
        generalize xs.getD j 0 = yy at hcell
        clear hr6 hg6 HK2 HA2 hB6 HBL
        go_wp2
        go_ret
        exact ⟨_, _, _, _, rfl, HK7.out.own, by omega, HK7.out.grown, _, by omega, by omega, HK7.out.rd⟩
      · have h0' : (v == 0) = false := by simpa using h0
        by_cases h1 : v = 1
        · subst h1
          go_wp2_with fail
          refine (pick_any R (p' + 1) 12 _ HK1.out.rd (by omega) (by omega)).mono ?_
          rintro e w2 ⟨u, rfl, hu0, hu1, hr2, hg2⟩
          have HK2 := hide (HK1.out.pick hr2 hg2)
          obtain ⟨j, rfl⟩ := Int.eq_ofNat_of_zero_le hu0
          have hcap := HK2.out.own.cap
          have hjc : (j : Int) ≤ (c : Int) := by omega
          have hcm : c ≤ 9223372036854775807 := by have := hcap.2; unfold maxLen at this; omega
          clear hr2 hg2 HK1
          go_wp2
          go_ret
          exact ⟨_, _, _, _, rfl, HK2.out.own.firsts (by omega), by omega, HK2.out.grown, _, by omega, by omega, HK2.out.rd⟩
        · have h1' : (v == 1) = false := by simpa using h1
          go_wp2
          go_ret
          exact ⟨_, _, _, _, rfl, HK1.out.own, by omega, HK1.out.grown, _, by omega, by omega, HK1.out.rd⟩

theorem grown_after92 {w w1 w2 : World} (hb : Below w.heap.size w w1) (hg : w1.grownBy w2 (some w.heap.size)) : Below w.heap.size w w2 :=
  hb.trans (below_of_grown' hg hb.size (by intro q hq; injection hq with hq; omega))
set_option maxHeartbeats 800000 in
/-- DrawModelNew: values, the call's own -/
theorem drawNew_any (A : Option Addr) (n c : Nat) (bs : Nat → Int) (w : World) (hb : Bytes w w.heap.size A n bs) (hn : n ≤ c) (hc : c ≤ maxLen) :
    Calls Try.prog 10 #[.slice A n c] w fun e w' => ∃ A2 m c2 xs, e = .returned (.slice A2 m c2) ∧ Own w' w.heap.size A2 m c2 xs ∧ m ≤ 12 ∧ Below w.heap.size w w' := by
  go_enter Try.func10, Try.ntmps10
  go_wp2_with fail
  refine (open_any A n c bs _ hb hn hc).mono ?_
  rintro e w1 ⟨rfl, hr, hB⟩
  go_wp2_with fail
  refine (now92_any _ 0 _ hr (by omega)).mono ?_
  rintro e w2 ⟨A2, m, c2, xs, rfl, hown, hm, hg, _⟩
  have HO := hide (hown.mono hB.size)
  have HB2 := hide (grown_after92 hB hg)
  clear hown hg hB hr
  go_wp2
  go_ret
  exact ⟨_, _, _, xs, rfl, HO.out, hm, HB2.out⟩
end Go.Proofs.Ytiopbgenkalfaaa
