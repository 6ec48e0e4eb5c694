/-
  The model's MapIn, MapTier.
-/
import Derived.Test.YtiopbgenkalfaaaSpecM2
namespace Go.Proofs.Ytiopbgenkalfaaa
open Go.RowKit
set_option linter.unusedVariables false
set_option maxRecDepth 100000

theorem inZ_at {ms : List Wh} {k : Nat} {x : Wh} (h : ms[k]? = some x) (z : Int) : inZ ms z (k : Int) = (decide (x.1 ≠ 0) && decide (x.2.1 = z)) := by unfold inZ; rw [Int.toNat_natCast, h]
theorem inT_at {ms : List Wh} {k : Nat} {x : Wh} (h : ms[k]? = some x) (t : Int) : inT ms t (k : Int) = decide (x.1 = t) := by unfold inT; rw [Int.toNat_natCast, h]
theorem blk_no {p : Int → Bool} {k : Nat} (h : p k = false) : blkP p (k + 1) = blkP p k := by rw [blkP_succ, h]; rfl
theorem blk_yes {p : Int → Bool} {k : Nat} (h : p k = true) : blkP p (k + 1) = blkP p k ++ [(k : Int)] := by rw [blkP_succ, h]; rfl

set_option maxHeartbeats 3200000 in
theorem specMT (A : Option Addr) (n c B : Nat) (ms : List Wh) (q : Int) (w : World) (hr : MpI w B A n ms) (hB : B ≤ w.heap.size) (hn : n ≤ 1000000000) :
    Calls Try.prog 77 #[.slice A n c, .int .i64 q] w (ListPost w (tierM ms q)) := by
  have HR := hide hr
  have HL := hide hr.1
  have HV := hide fun (W : World) (h : Below w.heap.size w W) => specMV A n c B ms W (hr.below h hB) (Nat.le_trans hB h.size) hn
  clear hr
  rcases hv : mpV ms with _ | _
  · rw [hv] at HV
    have HM : Hid (tierM ms q = []) := by show _ = _; unfold tierM; rw [hv]; rfl
    clear hv
    have HO0 := hide (Own.lit0 w w.heap.size (Nat.le_refl _))
    have HB0 := hide (below_new w (.cells #[] 3))
    go_enter Try.func77, Try.ntmps77
    go_wp2
    go_loopw [5, 6] (fun o i wr => i = .int .i64 0 ∧ o = .slice (some ⟨w.heap.size, 0, none⟩) 0 0 ∧ wr = w.alloc (.cells #[] 3)) (fun _ _ _ => 0)
    case atStart => exact ⟨rfl, rfl, rfl⟩
    case round =>
      obtain ⟨rfl, rfl, rfl⟩ := hrel
      by_cases hlt : 0 < n
      · have k1 : (0 : Int) < (n : Int) := by omega
        go_wp2_with fail
        refine (HV.out _ HB0.out).mono ?_
        rintro e w1 ⟨rfl, hb1⟩
        have HO1 := hide (HO0.out.below hb1)
        have HB1 := hide (HB0.out.trans (hb1.mono HB0.out.size))
        clear hb1
        go_wp2
        go_ret
        exact ⟨_, _, _, rfl, by rw [HM.out]; exact HO1.out, HB1.out⟩
      · obtain rfl : n = 0 := by omega
        go_wp2
        go_ret
        exact ⟨_, _, _, rfl, by rw [HM.out]; exact HO0.out, HB0.out⟩
  · rw [hv] at HV
    have HM : Hid (tierM ms q = blkP (inT ms q) 12) := by show _ = _; unfold tierM; rw [hv]; rfl
    have hn12 : n = 12 := HL.out.symm.trans (mpV_iff.1 hv).2
    subst hn12
    clear hv
    have HO0 := hide (Own.lit0 w w.heap.size (Nat.le_refl _))
    have HB0 := hide (below_new w (.cells #[] 3))
    go_enter Try.func77, Try.ntmps77
    go_wp2
    go_loopw [5, 6] (fun o i wr => ∃ (k m d : Nat) (X : Option Addr), k ≤ 12 ∧ m ≤ k ∧ i = .int .i64 k ∧ o = .slice X m d ∧ Hid (Own wr w.heap.size X m d (blkP (inT ms q) k)) ∧ Hid (Below w.heap.size w wr)) (fun _ i _ => 12 - (intOf i).toNat)
    case atStart => exact ⟨0, 0, 0, _, by omega, by omega, rfl, rfl, HO0.out, HB0.out⟩
    case round =>
      clear HO0 HB0
      obtain ⟨k, m, d, X, hk, hmk, rfl, rfl, HO, HB⟩ := hrel
      by_cases hlt : k < 12
      · obtain ⟨x, hx⟩ : ∃ x, ms[k]? = some x := ⟨_, List.getElem?_eq_getElem (by rw [HL.out]; exact hlt)⟩
        have HP := hide (inT_at hx q)
        have HAT := hide fun (W : World) (h : Below w.heap.size w W) => (HR.out.below h hB).at_ hx
        clear hx
        have k0 : (0 : Int) ≤ (k : Int) := by omega
        have k1 : (k : Int) < 12 := by omega
        have hsz := HB.out.size
        go_wp2_with fail
        refine (HV.out _ HB.out).mono ?_
        rintro e w1 ⟨rfl, hb1⟩
        have HO1 := hide (HO.out.below hb1)
        have HB1 := hide (HB.out.trans (hb1.mono hsz))
        have hsz1 := HB1.out.size
        clear hb1 HO HB hsz
        obtain ⟨ad, p, rfl, hp, hb, h0, h1, h2, h3, h4⟩ := HAT.out _ HB1.out
        obtain ⟨t, z, a, i, y⟩ := x
        dsimp only at h0 h1 h2 h3 h4 HP
        clear HAT h2 h3 h4
        by_cases ht : q = t
        · subst ht
          have HN := hide (blk_yes (p := inT ms q) (k := k) (by rw [HP.out]; simp []))
          go_wp2_with (at_builtin; refine wpList_append_ints rfl (.tmp 25) (.tmp 27) rfl w.heap.size m d (w1.heap.size + 1) 1 1 X (some ⟨w1.heap.size, 0, none⟩) (blkP (inT ms q) k) [(k : Int)] rfl (HO1.out.alloc _) rfl (Ints.one w1 (k : Int)) (by omega) (by simp; omega) ?_; intro A8 c8 w8 ho8 hg8 hat8; have HB8 := hide (below_app HB1.out hsz1 HO1.out (Nat.le_refl _) hg8); have HO8 := hide ho8; clear ho8 hg8 hat8)
          go_roundw
          case rel => exact ⟨k + 1, m + 1, _, _, by omega, by omega, by go_num, rfl, by show Own _ _ _ _ _ _; rw [HN.out]; exact HO8.out, HB8.out⟩
          case measure => simp [intOf]; omega
        · have ht' : (t == q) = false := by simpa using fun e => ht e.symm
          have HN := hide (blk_no (p := inT ms q) (k := k) (by rw [HP.out]; simp [show ¬ t = q from fun e => ht e.symm]))
          go_wp2
          go_roundw
          case rel => exact ⟨k + 1, _, _, _, by omega, by omega, by go_num, rfl, by show Own _ _ _ _ _ _; rw [HN.out]; exact HO1.out, HB1.out⟩
          case measure => simp [intOf]; omega
      · obtain rfl : k = 12 := by omega
        go_wp2
        go_ret
        exact ⟨_, _, _, rfl, by rw [HM.out]; exact HO.out, HB.out⟩
end Go.Proofs.Ytiopbgenkalfaaa
