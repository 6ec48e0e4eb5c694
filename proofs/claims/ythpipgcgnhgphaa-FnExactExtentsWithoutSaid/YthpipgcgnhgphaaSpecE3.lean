/-
  The model's l5Extents.
-/
import Derived.Test.YthpipgcgnhgphaaSpecE2
namespace Go.Proofs.Ythpipgcgnhgphaa
open Go.RowKit
set_option linter.unusedVariables false
set_option maxRecDepth 100000

theorem ExR.app {w8 : World} {base n c8 : Nat} {A8 : Option Addr} {es : Exs} {f m : Int} (h : es.length = n) (ho : OwnR w8 base 42 2 A8 (n + 1) c8 (fl es ++ [f, m])) : ExR w8 base A8 (n + 1) c8 (es ++ [(f, m)]) :=
  ⟨by rw [List.length_append, h]; rfl, by rw [fl_append]; exact ho⟩
theorem ExR.last {w : World} {base g L c : Nat} {init : Exs} {e : Int × Int} (h : ExR w base (some ⟨g, 0, none⟩) (L + 1) c (init ++ [e])) :
    w.cell? ⟨g, L * 2 + 1, none⟩ = some (.int .i64 e.2) ∧ w.frozen? ⟨g, L * 2 + 1, none⟩ = false ∧
    ∀ y : Int, ExR (w.setCell ⟨g, L * 2 + 1, none⟩ (.int .i64 y)) base (some ⟨g, 0, none⟩) (L + 1) c (init ++ [(e.1, y)]) ∧ w.grownBy (w.setCell ⟨g, L * 2 + 1, none⟩ (.int .i64 y)) (some g) := by
  have hl : init.length = L := by have := h.1; rw [List.length_append] at this; simpa using this
  have hk : (init ++ [e])[L]? = some e := by rw [List.getElem?_append_right (by omega), hl, Nat.sub_self]; rfl
  refine ⟨?_, h.2.free, fun y => ?_⟩
  · rw [h.2.cell (j := L * 2 + 1) (by omega), (fl_getD hk).2]
  · have hs := h.2.stored (j := L * 2 + 1) y
    rw [(fl_set hk 0 y).2] at hs
    have e2 : (init ++ [e]).set L (e.1, y) = init ++ [(e.1, y)] := by
      rw [List.set_append_right _ _ (by omega), hl, Nat.sub_self]
      rfl
    rw [e2] at hs
    exact ⟨⟨by rw [List.length_append, hl]; rfl, hs.1⟩, hs.2⟩
theorem runsP_len (p : Int → Bool) : ∀ k : Nat, (runsP p k).length ≤ k := by
  intro k
  induction k with
  | zero => exact Nat.le_refl _
  | succ k ih =>
    rw [runsP_succ]
    rcases p k with _ | _ <;> rcases onP p k with _ | _ <;> simp [bump_length] <;> omega

set_option maxHeartbeats 6400000 in
theorem specExts (g B : Nat) (p : Int → Bool) (w : World) (hm : Rdm w B g p) (hB : B ≤ w.heap.size) :
    Calls Try.prog 30 #[.slice (some ⟨g, 0, none⟩) 12 12] w fun e w' => ∃ A2 n2 c2, e = .returned (.slice A2 n2 c2) ∧ ExR w' w.heap.size A2 n2 c2 (R p) ∧ Below w.heap.size w w' := by
  have HM := hide hm
  have hgw : g < w.heap.size := by have := hm.1; omega
  clear hm
  go_enter Try.func30, Try.ntmps30
  have HO0 := hide (ExR.lit0 w w.heap.size (Nat.le_refl _))
  have HB0 := hide (below_new w (.cells #[] 42))
  go_wp2
  go_loopw [3, 4] (fun s i wr => ∃ (k n c : Nat) (Ao : Option Addr), k ≤ 12 ∧ n ≤ k ∧ i = .int .i64 k ∧ s = .slice Ao n c ∧ Hid (ExR wr w.heap.size Ao n c (runsP p k)) ∧ Hid (Below w.heap.size w wr)) (fun _ i _ => 12 - (intOf i).toNat)
  case atStart => exact ⟨0, 0, 0, _, by omega, Nat.le_refl _, rfl, rfl, HO0.out, HB0.out⟩
  case round =>
    clear HO0 HB0
    obtain ⟨k, n, c, Ao, hk, hnk, rfl, rfl, HO, HB⟩ := hrel
    by_cases hlt : k < 12
    · have hM := HM.out.below HB.out hB
      have hc := hM.2 k hlt
      have k0 : (0 : Int) ≤ (k : Int) := by omega
      have k1 : (k : Int) < 12 := by omega
      have HSU := hide (runsP_succ p k)
      have hsz := HB.out.size
      rcases hp : p k with _ | _
      · rw [hp] at hc HSU
        have HO2 := hide HO.out
        rw [show runsP p k = runsP p (k + 1) from by rw [HSU.out]; rfl] at HO2
        clear hp HSU hM HO
        go_wp2
        go_roundw
        case rel => exact ⟨k + 1, _, _, _, by omega, by omega, by go_num, rfl, HO2.out, HB.out⟩
        case measure => simp [intOf]; omega
      · rw [hp] at hc HSU
        rcases ho : onP p k with _ | _
        · rw [ho] at HSU
          have HON := hide ho
          have HAP : Hid (∀ (A8 : Option Addr) (c8 : Nat) (w8 : World), OwnR w8 w.heap.size 42 2 A8 (n + 1) c8 (fl (runsP p k) ++ [(k : Int), 1]) → ExR w8 w.heap.size A8 (n + 1) c8 (runsP p (k + 1))) := by
            intro A8 c8 w8 h8
            have := ExR.app HO.out.1 h8
            rw [HSU.out]
            exact this
          clear hp ho hM
          by_cases hk0 : k = 0
          · subst hk0
            go_wp2_with (at_builtin; refine wpList_append_recs extT rfl (.tmp 47) (.tmp 50) rfl w.heap.size n c (wr.heap.size + 1) 1 1 Ao (some ⟨wr.heap.size, 0, none⟩) (fl (runsP p 0)) [((0 : Nat) : Int), 1] rfl (HO.out.2.alloc _) rfl (Ints.rec2 wr 42 ((0 : Nat) : Int) 1) (by omega) (by simp; omega) ?_; intro A8 c8 w8 ho8 hg8 hat8; have HB8 := hide (below_app_r HB.out hsz HO.out.2 (Nat.le_refl _) hg8); have HO8 := hide (HAP.out _ _ _ ho8); clear ho8 hg8 hat8)
            go_roundw
            case rel => exact ⟨1, _, _, _, by omega, by omega, by go_num, rfl, HO8.out, HB8.out⟩
            case measure => simp [intOf]
          · obtain ⟨K1, hK1⟩ : ∃ K1 : Nat, k = K1 + 1 := ⟨k - 1, by omega⟩
            have hK1i : (k : Int) - 1 = (K1 : Int) := by omega
            have hpk : p (K1 : Int) = false := by
              have h := HON.out
              unfold onP at h
              rw [decide_eq_true (by omega : 0 < k), Bool.true_and, hK1i] at h
              exact h
            have hd := (HM.out.below HB.out hB).2 K1 (by omega)
            rw [hpk] at hd
            have kk0 : (0 : Int) ≤ (K1 : Int) := by omega
            have kk1 : (K1 : Int) < 12 := by omega
            have kk2 : (0 : Int) < (k : Int) := by omega
            have wK : IntKind.i64.wrap (K1 : Int) = (K1 : Int) := IntWalk.i64_in _ (by omega)
            clear hpk hK1
            go_wp2_with (at_builtin; refine wpList_append_recs extT rfl (.tmp 47) (.tmp 50) rfl w.heap.size n c (wr.heap.size + 1) 1 1 Ao (some ⟨wr.heap.size, 0, none⟩) (fl (runsP p k)) [(k : Int), 1] rfl (HO.out.2.alloc _) rfl (Ints.rec2 wr 42 (k : Int) 1) (by omega) (by simp; omega) ?_; intro A8 c8 w8 ho8 hg8 hat8; have HB8 := hide (below_app_r HB.out hsz HO.out.2 (Nat.le_refl _) hg8); have HO8 := hide (HAP.out _ _ _ ho8); clear ho8 hg8 hat8)
            go_roundw
            case rel => exact ⟨k + 1, _, _, _, by omega, by omega, by go_num, rfl, HO8.out, HB8.out⟩
            case measure => simp [intOf]; omega
        · rw [ho] at HSU
          have hk0 : 0 < k := by
            unfold onP at ho
            rw [Bool.and_eq_true, decide_eq_true_eq] at ho
            exact ho.1
          obtain ⟨K1, hK1⟩ : ∃ K1 : Nat, k = K1 + 1 := ⟨k - 1, by omega⟩
          have hK1i : (k : Int) - 1 = (K1 : Int) := by omega
          have hpk : p (K1 : Int) = true := by
            have h := ho
            unfold onP at h
            rw [decide_eq_true hk0, Bool.true_and, hK1i] at h
            exact h
          have hd := (HM.out.below HB.out hB).2 K1 (by omega)
          rw [hpk] at hd
          have kk0 : (0 : Int) ≤ (K1 : Int) := by omega
          have kk1 : (K1 : Int) < 12 := by omega
          have kk2 : (0 : Int) < (k : Int) := by omega
          have wK : IntKind.i64.wrap (K1 : Int) = (K1 : Int) := IntWalk.i64_in _ (by omega)
          obtain ⟨init, e, hes, hend⟩ := (run_all p k (by omega)).on ho
          have hbd := vE_at (es := init ++ [e]) (by rw [← hes]; exact (run_all p k (by omega)).val) (k := init.length) (e := e) (by simp)
          obtain ⟨L, hL⟩ : ∃ L, n = L + 1 := by
            have := HO.out.1
            rw [hes, List.length_append] at this
            exact ⟨init.length, by simpa using this.symm⟩
          have hLi : (n : Int) - 1 = (L : Int) := by omega
          have l0 : (0 : Int) ≤ (L : Int) := by omega
          have l1 : (L : Int) < (n : Int) := by omega
          have wL : IntKind.i64.wrap (L : Int) = (L : Int) := IntWalk.i64_in _ (by omega)
          obtain ⟨g2, rfl, hg20, hg21⟩ := HO.out.2.shape (by omega)
          have hEX := HO.out
          rw [hes, hL] at hEX
          obtain ⟨hl0, hl1, hl2⟩ := hEX.last
          obtain ⟨f, m⟩ := e
          simp only at hbd hend hl0 hl2
          have wM : IntKind.i64.wrap (m + 1) = m + 1 := IntWalk.i64_in _ (by omega)
          have HO2 : Hid (ExR (wr.setCell ⟨g2, L * 2 + 1, none⟩ (.int .i64 (m + 1))) w.heap.size (some ⟨g2, 0, none⟩) n c (runsP p (k + 1))) := by
            have h := (hl2 (m + 1)).1
            rw [← hL] at h
            rw [HSU.out, hes]
            simp only [if_pos]
            rw [bump_snoc]
            exact h
          have HB2 := hide (HB.out.grown (hl2 (m + 1)).2 hsz (fun b hb => by injection hb with hb; omega))
          clear hp ho hM hpk hes hend hEX hl2 HO HSU hK1 hL
          go_wp2
          go_roundw
          case rel => exact ⟨k + 1, _, _, _, by omega, by omega, by go_num, rfl, HO2.out, HB2.out⟩
          case measure => simp [intOf]; omega
    · obtain rfl : k = 12 := by omega
      go_wp2
      go_ret
      exact ⟨_, _, _, rfl, HO.out, HB.out⟩
end Go.Proofs.Ythpipgcgnhgphaa
