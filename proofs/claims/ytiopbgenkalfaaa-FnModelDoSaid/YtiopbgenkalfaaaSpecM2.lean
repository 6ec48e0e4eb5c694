/-
  The model's MapValid, MapIn, MapTier, MapIds.
-/
import Derived.Test.YtiopbgenkalfaaaSpecM1
import Derived.Test.YtiopbgenkalfaaaQo
namespace Go.Proofs.Ytiopbgenkalfaaa
open Go.RowKit
set_option linter.unusedVariables false
set_option maxRecDepth 100000

theorem allV_drop {ms : List Wh} {k : Nat} {x : Wh} (h : ms[k]? = some x) : (ms.drop k).all whV = (whV x && (ms.drop (k + 1)).all whV) := by
  have hl : k < ms.length := (List.getElem?_eq_some_iff.1 h).1
  have e2 : ms[k] = x := (List.getElem?_eq_some_iff.1 h).2
  rw [List.drop_eq_getElem_cons hl, e2, List.all_cons]

set_option maxHeartbeats 3200000 in
theorem specMV (A : Option Addr) (n c B : Nat) (ms : List Wh) (w : World) (hr : MpI w B A n ms) (hB : B ≤ w.heap.size) (hn : n ≤ 1000000000) :
    Calls Try.prog 80 #[.slice A n c] w fun e w' => e = .returned (.bool (mpV ms)) ∧ Below w.heap.size w w' := by
  have HR := hide hr
  have HL := hide hr.1
  clear hr
  go_enter Try.func80, Try.ntmps80
  go_wp2
  go_loopw [3] (fun i wr => ∃ (k : Nat), k ≤ n ∧ i = .int .i64 k ∧ Hid (ms.all whV = (ms.drop k).all whV) ∧ Hid (Below w.heap.size w wr)) (fun i _ => n - (intOf i).toNat)
  case atStart => exact ⟨0, Nat.zero_le _, rfl, rfl, Below.refl _ _⟩
  case round =>
    obtain ⟨k, hk, rfl, HA, HB⟩ := hrel
    by_cases hlt : k < n
    · obtain ⟨x, hx⟩ : ∃ x, ms[k]? = some x := ⟨_, List.getElem?_eq_getElem (by rw [HL.out]; exact hlt)⟩
      obtain ⟨ad, p, rfl, hp, hb, h0, h1, h2, h3, h4⟩ := (HR.out.below HB.out hB).at_ hx
      have HX := hide (HA.out.trans (allV_drop hx))
      clear HA hx
      obtain ⟨t, z, a, i, y⟩ := x
      dsimp only at h0 h1 h2 h3 h4
      have hsz := HB.out.size
      rcases hv : whV (t, z, a, i, y) with _ | _
      · have HC := hide (hv ▸ where_any t z a i y wr)
        rw [hv] at HX
        clear hv
        go_wp2_with fail
        refine HC.out.mono ?_
        rintro e w1 ⟨rfl, hb1⟩
        have HB1 := hide (HB.out.trans (hb1.mono hsz))
        clear hb1
        go_wp2
        go_ret
        exact ⟨ret_bool (by unfold mpV; rw [HX.out]; rfl), HB1.out⟩
      · have HC := hide (hv ▸ where_any t z a i y wr)
        rw [hv, Bool.true_and] at HX
        clear hv
        go_wp2_with fail
        refine HC.out.mono ?_
        rintro e w1 ⟨rfl, hb1⟩
        have HB1 := hide (HB.out.trans (hb1.mono hsz))
        clear hb1
        go_wp2
        go_roundw
        case rel => exact ⟨k + 1, by omega, by go_num, HX.out, HB1.out⟩
        case measure => simp [intOf]; omega
    · obtain rfl : k = n := by omega
      have HD : Hid (mpV ms = ((k : Int) == 12)) := by
        show _ = _
        unfold mpV
        rw [HA.out, List.drop_of_length_le (by rw [HL.out]; exact Nat.le_refl _), List.all_nil, Bool.true_and, HL.out]
        by_cases h : k = 12
        · subst h; rfl
        · rw [decide_eq_false h]; symm; simp; omega
      go_wp2
      go_ret
      exact ⟨ret_bool HD.out.symm, HB.out⟩

theorem one_int (w : World) (k : Int) : Ints (w.alloc (.cells #[.int .i64 k] 3)) (w.heap.size + 1) (some ⟨w.heap.size, 0, none⟩) 1 [k] := by
  refine ⟨rfl, fun _ => ⟨_, rfl, by simp, fun j hj => ?_⟩⟩
  rw [add_plain']
  have h := (Blk.new w 3 #[.int .i64 k]).cell j
  rw [h]
  rcases j with _ | j
  · rfl
  · omega
theorem blkP_le (p : Int → Bool) : ∀ k : Nat, (blkP p k).length ≤ k := by
  intro k
  induction k with
  | zero => exact Nat.le_refl _
  | succ k ih =>
    rw [blkP_succ]
    split
    · simp; omega
    · omega

/-- what a list of blocks or of objects answers -/
def ListPost (w : World) (ys : List Int) (e : Ending) (w' : World) : Prop :=
  ∃ A2 m c2, e = .returned (.slice A2 m c2) ∧ Own w' w.heap.size A2 m c2 ys ∧ Below w.heap.size w w'
end Go.Proofs.Ytiopbgenkalfaaa
