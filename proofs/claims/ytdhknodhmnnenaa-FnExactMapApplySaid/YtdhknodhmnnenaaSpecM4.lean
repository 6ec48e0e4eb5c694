/-
  The model's MapIds.
-/
import Derived.Test.YtdhknodhmnnenaaSpecM3
namespace Go.Proofs.Ytdhknodhmnnenaa
open Go.RowKit
set_option linter.unusedVariables false
set_option maxRecDepth 100000

theorem id_take {ms : List Wh} {k : Nat} {x : Wh} (h : ms[k]? = some x) (d : Int) : hasId (ms.take (k + 1)) d = (hasId (ms.take k) d || decide (x.2.2.2.1 = d)) := by
  rw [List.take_add_one, h]
  unfold hasId
  rw [List.any_append]
  congr 1
  simp
theorem up_no {p : Int → Bool} {k : Nat} (h : p ((k : Int) + 1) = false) : upP p (k + 1) = upP p k := by rw [upP_succ, h]; rfl
theorem up_yes {p : Int → Bool} {k : Nat} (h : p ((k : Int) + 1) = true) : upP p (k + 1) = upP p k ++ [(k : Int) + 1] := by rw [upP_succ, h]; rfl

set_option maxHeartbeats 3200000 in
theorem specMD (A : Option Addr) (n c B : Nat) (ms : List Wh) (w : World) (hr : MpI w B A n ms) (hB : B ≤ w.heap.size) (hn : n ≤ 1000000000) :
    Calls Try.prog 26 #[.slice A n c] w (ListPost w (idsM ms)) := by
  have HR := hide hr
  have HL := hide hr.1
  have HV := hide fun (W : World) (h : Below w.heap.size w W) => specMV A n c B ms W (hr.below h hB) (Nat.le_trans hB h.size) hn
  clear hr
  rcases hv : mpV ms with _ | _
  · rw [hv] at HV
    have HM : Hid (idsM ms = []) := by show _ = _; unfold idsM; rw [hv]; rfl
    clear hv
    have HO0 := hide (Own.lit0 w w.heap.size (Nat.le_refl _))
    have HB0 := hide (below_new w (.cells #[] 3))
    go_enter Try.func26, Try.ntmps26
    go_wp2
    go_loopw [3, 4] (fun o i wr => i = .int .i64 1 ∧ o = .slice (some ⟨w.heap.size, 0, none⟩) 0 0 ∧ wr = w.alloc (.cells #[] 3)) (fun _ _ _ => 0)
    case atStart => exact ⟨rfl, rfl, rfl⟩
    case round =>
      obtain ⟨rfl, rfl, rfl⟩ := hrel
      go_wp2_with fail
      refine (HV.out _ HB0.out).mono ?_
      rintro e w1 ⟨rfl, hb1⟩
      have HO1 := hide (HO0.out.below hb1)
      have HB1 := hide (HB0.out.trans (hb1.mono HB0.out.size))
      clear hb1
      go_wp2
      go_ret
      exact ⟨_, _, _, rfl, by rw [HM.out]; exact HO1.out, HB1.out⟩
  · rw [hv] at HV
    have HM : Hid (idsM ms = upP (hasId ms) 999) := by show _ = _; unfold idsM; rw [hv]; rfl
    have hn12 : n = 12 := HL.out.symm.trans (mpV_iff.1 hv).2
    subst hn12
    clear hv
    have HO0 := hide (Own.lit0 w w.heap.size (Nat.le_refl _))
    have HB0 := hide (below_new w (.cells #[] 3))
    go_enter Try.func26, Try.ntmps26
    go_wp2
    go_loopw [3, 4] (fun o i wr => ∃ (k j m d : Nat) (X : Option Addr), j ≤ 1000 ∧ k + 1 = j ∧ m ≤ k ∧ i = .int .i64 j ∧ o = .slice X m d ∧ Hid (Own wr w.heap.size X m d (upP (hasId ms) k)) ∧ Hid (Below w.heap.size w wr)) (fun _ i _ => 1000 - (intOf i).toNat)
    case atStart => exact ⟨0, 1, 0, 0, _, by omega, rfl, by omega, rfl, rfl, HO0.out, HB0.out⟩
    case round =>
      clear HO0 HB0
      obtain ⟨k, j, m, d, X, hj, hkj, hmk, rfl, rfl, HO, HB⟩ := hrel
      by_cases hlt : j < 1000
      · have hsz := HB.out.size
        have j0 : (1 : Int) ≤ (j : Int) := by omega
        have j1 : (j : Int) ≤ 999 := by omega
        have HKJ := hide (show (k : Int) + 1 = (j : Int) by omega)
        have hm9 : m ≤ 1000 := by omega
        have hmj : m + 1 ≤ j := by omega
        have HKN := hide hkj
        clear hkj hmk
        go_wp2_with fail
        refine (HV.out _ HB.out).mono ?_
        rintro e w1 ⟨rfl, hb1⟩
        have HO1 := hide (HO.out.below hb1)
        have HB1 := hide (HB.out.trans (hb1.mono hsz))
        have hsz1 := HB1.out.size
        have HI1 := hide (HR.out.below HB1.out hB)
        clear hb1 HO HB hsz
        go_wp2
        go_loopw [5, 6] (fun s i W => ∃ (q : Nat) (b : Bool), q ≤ 12 ∧ i = .int .i64 q ∧ s = .bool b ∧ w1 = W ∧ Hid (hasId (ms.take q) (j : Int) = b)) (fun _ i _ => 12 - (intOf i).toNat)
        case atStart => exact ⟨0, false, by omega, rfl, rfl, rfl, rfl⟩
        case round =>
          obtain ⟨q, b, hq, rfl, rfl, rfl, HH⟩ := hrel
          by_cases hlt2 : q < 12
          · obtain ⟨x, hx⟩ : ∃ x, ms[q]? = some x := ⟨_, List.getElem?_eq_getElem (by rw [HL.out]; exact hlt2)⟩
            obtain ⟨ad, p, rfl, hp, hb, h0, h1, h2, h3, h4⟩ := HI1.out.at_ hx
            have HX := hide (id_take hx (j : Int))
            obtain ⟨t, z, a, i, y⟩ := x
            dsimp only at h0 h1 h2 h3 h4 HX
            clear hx h0 h1 h2 h4
            have q0 : (0 : Int) ≤ (q : Int) := by omega
            have q1 : (q : Int) < 12 := by omega
            rcases b with _ | _
            · by_cases he : (j : Int) = i
              · have he' : (i == (j : Int)) = true := by simp [he]
                go_wp2
                go_roundw
                case rel => exact ⟨q + 1, true, by omega, by go_num, rfl, by first | trivial | rfl, by show _ = _; rw [HX.out, HH.out]; simp [he]⟩
                case measure => simp [intOf]; omega
              · have he' : (i == (j : Int)) = false := by simpa using fun e => he e.symm
                go_wp2
                go_roundw
                case rel => exact ⟨q + 1, false, by omega, by go_num, rfl, by first | trivial | rfl, by show _ = _; rw [HX.out, HH.out]; simp; exact fun e => he e.symm⟩
                case measure => simp [intOf]; omega
            · go_wp2
              go_roundw
              case rel => exact ⟨q + 1, true, by omega, by go_num, rfl, by first | trivial | rfl, by show _ = _; rw [HX.out, HH.out]; rfl⟩
              case measure => simp [intOf]; omega
          · obtain rfl : q = 12 := by omega
            have HH2 := hide HH.out
            rw [List.take_of_length_le (by rw [HL.out]; exact Nat.le_refl _)] at HH2
            rcases b with _ | _
            · have HN : Hid (upP (hasId ms) j = upP (hasId ms) k) := by show _ = _; rw [← HKN.out]; exact up_no (by rw [HKJ.out]; exact HH2.out)
              go_wp2
              go_roundw
              case rel => exact ⟨j, j + 1, m, d, X, by omega, by omega, by omega, by go_num, rfl, by show Own _ _ _ _ _ _; rw [HN.out]; exact HO1.out, HB1.out⟩
              case measure => simp [intOf]; omega
            · have HN : Hid (upP (hasId ms) j = upP (hasId ms) k ++ [(j : Int)]) := by show _ = _; rw [← HKN.out, up_yes (by rw [HKJ.out]; exact HH2.out), HKJ.out, HKN.out]
              go_wp2_with (at_builtin; refine wpList_append_ints rfl (.tmp 33) (.tmp 35) rfl w.heap.size m d (w1.heap.size + 1) 1 1 X (some ⟨w1.heap.size, 0, none⟩) (upP (hasId ms) k) [(j : Int)] rfl (HO1.out.alloc _) rfl (Ints.one w1 (j : Int)) (by omega) (by simp; omega) ?_; intro A8 c8 w8 ho8 hg8 hat8; have HB8 := hide (below_app HB1.out hsz1 HO1.out (Nat.le_refl _) hg8); have HO8 := hide ho8; clear ho8 hg8 hat8)
              go_roundw
              case rel => exact ⟨j, j + 1, m + 1, _, _, by omega, by omega, by omega, by go_num, rfl, by show Own _ _ _ _ _ _; rw [HN.out]; exact HO8.out, HB8.out⟩
              case measure => simp [intOf]; omega
      · obtain rfl : j = 1000 := by omega
        obtain rfl : k = 999 := by omega
        go_wp2
        go_ret
        exact ⟨_, _, _, rfl, by rw [HM.out]; exact HO.out, HB.out⟩
end Go.Proofs.Ytdhknodhmnnenaa
