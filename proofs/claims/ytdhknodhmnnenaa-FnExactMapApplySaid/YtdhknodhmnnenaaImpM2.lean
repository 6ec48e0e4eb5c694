/-
  The program's blocksThat with the two closures that it is handed; MapIn, MapTier.
-/
import Derived.Test.YtdhknodhmnnenaaImpM1
import Derived.Test.YtdhknodhmnnenaaSpecM3
namespace Go.Proofs.Ytdhknodhmnnenaa
open Go.RowKit
set_option linter.unusedVariables false
set_option maxRecDepth 100000

set_option maxHeartbeats 800000 in
theorem wantIn_any (x : Wh) (q : Int) (b : Nat) (w : World) (hb : w.cell? ⟨b, 0, none⟩ = some (.int .i64 q)) (hbw : b < w.heap.size) :
    Calls Try.prog 44 #[.agg #[.int .i64 x.1, .int .i64 x.2.1, .int .i64 x.2.2.1, .int .i64 x.2.2.2.1, .int .i64 x.2.2.2.2], .pointer (some ⟨b, 0, none⟩)] w fun e w' => e = .returned (.bool (decide (x.1 ≠ 0) && decide (x.2.1 = q))) ∧ Below w.heap.size w w' := by
  obtain ⟨t, z, a, i, y⟩ := x
  dsimp only
  obtain ⟨W0, hW0⟩ : ∃ W0, w.alloc (.cells #[.int .i64 t, .int .i64 z, .int .i64 a, .int .i64 i, .int .i64 y] 48) = W0 := ⟨_, rfl⟩
  have HB := hide (show Below w.heap.size w W0 by rw [← hW0]; exact below_new w _)
  have hbk : Blk W0 w.heap.size 48 #[.int .i64 t, .int .i64 z, .int .i64 a, .int .i64 i, .int .i64 y] := by rw [← hW0]; exact Blk.new w _ _
  have c0 : W0.cell? ⟨w.heap.size, 0, none⟩ = some (.int .i64 t) := by rw [hbk.cell]; rfl
  have c1 : W0.cell? ⟨w.heap.size, 1, none⟩ = some (.int .i64 z) := by rw [hbk.cell]; rfl
  have c2 : W0.cell? ⟨b, 0, none⟩ = some (.int .i64 q) := (HB.out.cell (p := ⟨b, 0, none⟩) hbw).trans hb
  clear hbk hb
  by_cases t0 : t = 0
  · subst t0
    go_enter Try.func44, Try.ntmps44
    go_wp2
    go_ret
    exact ⟨rfl, HB.out⟩
  · have t0' : (t != 0) = true := by simpa using t0
    have HT := hide t0
    by_cases hz : q = z
    · subst hz
      go_enter Try.func44, Try.ntmps44
      go_wp2
      go_ret
      exact ⟨ret_bool (by simp [HT.out]), HB.out⟩
    · have hz' : (z == q) = false := by simpa using fun e => hz e.symm
      have HZ := hide fun e : z = q => hz e.symm
      clear hz
      go_enter Try.func44, Try.ntmps44
      go_wp2
      go_ret
      exact ⟨ret_bool (by simp [show ¬ z = q from HZ.out]), HB.out⟩

set_option maxHeartbeats 800000 in
theorem wantTier_any (x : Wh) (q : Int) (b : Nat) (w : World) (hb : w.cell? ⟨b, 0, none⟩ = some (.int .i64 q)) (hbw : b < w.heap.size) :
    Calls Try.prog 47 #[.agg #[.int .i64 x.1, .int .i64 x.2.1, .int .i64 x.2.2.1, .int .i64 x.2.2.2.1, .int .i64 x.2.2.2.2], .pointer (some ⟨b, 0, none⟩)] w fun e w' => e = .returned (.bool (decide (x.1 = q))) ∧ Below w.heap.size w w' := by
  obtain ⟨t, z, a, i, y⟩ := x
  dsimp only
  obtain ⟨W0, hW0⟩ : ∃ W0, w.alloc (.cells #[.int .i64 t, .int .i64 z, .int .i64 a, .int .i64 i, .int .i64 y] 48) = W0 := ⟨_, rfl⟩
  have HB := hide (show Below w.heap.size w W0 by rw [← hW0]; exact below_new w _)
  have hbk : Blk W0 w.heap.size 48 #[.int .i64 t, .int .i64 z, .int .i64 a, .int .i64 i, .int .i64 y] := by rw [← hW0]; exact Blk.new w _ _
  have c0 : W0.cell? ⟨w.heap.size, 0, none⟩ = some (.int .i64 t) := by rw [hbk.cell]; rfl
  have c2 : W0.cell? ⟨b, 0, none⟩ = some (.int .i64 q) := (HB.out.cell (p := ⟨b, 0, none⟩) hbw).trans hb
  clear hbk hb
  by_cases hz : q = t
  · subst hz
    go_enter Try.func47, Try.ntmps47
    go_wp2
    go_ret
    exact ⟨ret_bool (by simp), HB.out⟩
  · have hz' : (t == q) = false := by simpa using fun e => hz e.symm
    have HZ := hide fun e : t = q => hz e.symm
    clear hz
    go_enter Try.func47, Try.ntmps47
    go_wp2
    go_ret
    exact ⟨ret_bool (by simp [show ¬ t = q from HZ.out]), HB.out⟩
theorem inM_le (ms : List Wh) (z : Int) : (inM ms z).length ≤ 12 := by
  unfold inM
  split
  · exact blkP_le _ _
  · exact Nat.zero_le _
theorem tierM_le (ms : List Wh) (t : Int) : (tierM ms t).length ≤ 12 := by
  unfold tierM
  split
  · exact blkP_le _ _
  · exact Nat.zero_le _

set_option maxHeartbeats 3200000 in
theorem thatIn_any (A : Option Addr) (n c B b : Nat) (ms : List Wh) (q : Int) (w : World) (hr : MpI w B A n ms) (hB : B ≤ w.heap.size) (hn : n ≤ 1000000000) (hb : w.cell? ⟨b, 0, none⟩ = some (.int .i64 q)) (hbw : b < w.heap.size) :
    Calls Try.prog 43 #[.slice A n c, .func (.func 44) #[] #[.pointer (some ⟨b, 0, none⟩)]] w (ListPost w (inM ms q)) := by
  have HR := hide hr
  have HL := hide hr.1
  have HV := hide (implMV A n c B ms w hr hB hn)
  have HBX := hide fun (W : World) (h : Below w.heap.size w W) => (h.cell (p := ⟨b, 0, none⟩) hbw).trans hb
  clear hr hb
  rcases hv : mpV ms with _ | _
  · rw [hv] at HV
    have HM : Hid (inM ms q = []) := by show _ = _; unfold inM; rw [hv]; rfl
    clear hv
    go_enter Try.func43, Try.ntmps43
    go_wp2_with fail
    refine HV.out.mono ?_
    rintro e w1 ⟨rfl, hb1⟩
    have HB1 := hide hb1
    clear hb1
    go_wp2
    go_ret
    exact ⟨_, _, _, rfl, by rw [HM.out]; exact Own.nil_ _ _, HB1.out⟩
  · rw [hv] at HV
    have HM : Hid (inM ms q = blkP (inZ ms q) 12) := by show _ = _; unfold inM; rw [hv]; rfl
    have hn12 : n = 12 := HL.out.symm.trans (mpV_iff.1 hv).2
    subst hn12
    clear hv
    go_enter Try.func43, Try.ntmps43
    go_wp2_with fail
    refine HV.out.mono ?_
    rintro e w0 ⟨rfl, hb0⟩
    have HB0 := hide hb0
    clear hb0
    go_wp2
    go_loopw [5, 13] (fun o i wr => ∃ (k m d : Nat) (X : Option Addr), k ≤ 12 ∧ m ≤ k ∧ i = .int .i64 k ∧ o = .slice X m d ∧ Hid (Own wr w.heap.size X m d (blkP (inZ ms q) k)) ∧ Hid (Below w.heap.size w wr)) (fun _ i _ => 12 - (intOf i).toNat)
    case atStart => exact ⟨0, 0, 0, none, by omega, by omega, rfl, rfl, Own.nil_ _ _, HB0.out⟩
    case round =>
      clear HB0
      obtain ⟨k, m, d, X, hk, hmk, rfl, rfl, HO, HB⟩ := hrel
      by_cases hlt : k < 12
      · obtain ⟨x, hx⟩ : ∃ x, ms[k]? = some x := ⟨_, List.getElem?_eq_getElem (by rw [HL.out]; exact hlt)⟩
        have HP := hide (inZ_at hx q)
        obtain ⟨ad, p, rfl, hp, hpb, h0, h1, h2, h3, h4⟩ := (HR.out.below HB.out hB).at_ hx
        clear hx
        have k0 : (0 : Int) ≤ (k : Int) := by omega
        have k1 : (k : Int) < 12 := by omega
        have hsz := HB.out.size
        have HC := hide fun (W : World) (h : Below w.heap.size w W) => wantIn_any x q b W (HBX.out W h) (by have := h.size; omega)
        obtain ⟨t, z, a, i, y⟩ := x
        dsimp only at h0 h1 h2 h3 h4 HP HC
        have HOA := hide (HO.out.alloc (.cells #[.int .i64 t, .int .i64 z, .int .i64 a, .int .i64 i, .int .i64 y] 48))
        have HBA := hide (HB.out.alloc hsz (.cells #[.int .i64 t, .int .i64 z, .int .i64 a, .int .i64 i, .int .i64 y] 48))
        go_wp2_with fail
        refine (HC.out _ HBA.out).mono ?_
        rintro e w1 ⟨rfl, hb1⟩
        have HO1 := hide (HOA.out.below hb1)
        have HB1 := hide (HBA.out.trans (hb1.mono HBA.out.size))
        have hsz1 := HB1.out.size
        clear hb1 HO HB hsz HOA HBA HC h0 h1 h2 h3 h4
        rcases hw : (decide (t ≠ 0) && decide (z = q)) with _ | _
        · have HN := hide (blk_no (p := inZ ms q) (k := k) (by rw [HP.out]; exact hw))
          clear hw HP
          go_wp2
          go_roundw
          case rel => exact ⟨k + 1, _, _, _, by omega, by omega, by go_num, rfl, by show Own _ _ _ _ _ _; rw [HN.out]; exact HO1.out, HB1.out⟩
          case measure => simp [intOf]; omega
        · have HN := hide (blk_yes (p := inZ ms q) (k := k) (by rw [HP.out]; exact hw))
          clear hw HP
          go_wp2_with (at_builtin; refine wpList_append_ints rfl (.tmp 21) (.tmp 23) rfl w.heap.size m d (w1.heap.size + 1) 1 1 X (some ⟨w1.heap.size, 0, none⟩) (blkP (inZ ms q) k) [(k : Int)] rfl (HO1.out.alloc _) rfl (Ints.one w1 (k : Int)) (by omega) (by simp; omega) ?_; intro A8 c8 w8 ho8 hg8 hat8; have HB8 := hide (below_app HB1.out hsz1 HO1.out (Nat.le_refl _) hg8); have HO8 := hide ho8; clear ho8 hg8 hat8)
          go_roundw
          case rel => exact ⟨k + 1, m + 1, _, _, by omega, by omega, by go_num, rfl, by show Own _ _ _ _ _ _; rw [HN.out]; exact HO8.out, HB8.out⟩
          case measure => simp [intOf]; omega
      · obtain rfl : k = 12 := by omega
        go_wp2
        go_ret
        exact ⟨_, _, _, rfl, by rw [HM.out]; exact HO.out, HB.out⟩

set_option maxHeartbeats 800000 in
theorem implMI (A : Option Addr) (n c B : Nat) (ms : List Wh) (q : Int) (w : World) (hr : MpI w B A n ms) (hB : B ≤ w.heap.size) (hn : n ≤ 1000000000) :
    Calls Try.prog 22 #[.slice A n c, .int .i64 q] w (ListPost w (inM ms q)) := by
  have HB := hide (below_new w (.cells #[.int .i64 q] 3))
  have HC := hide (thatIn_any A n c B w.heap.size ms q (w.alloc (.cells #[.int .i64 q] 3)) (hr.alloc hB _) (Nat.le_trans hB HB.out.size) hn (by rw [(Blk.new w 3 #[.int .i64 q]).cell]; rfl) (by simp))
  clear hr
  go_enter Try.func22, Try.ntmps22
  go_wp2_with fail
  refine HC.out.mono ?_
  rintro e w1 ⟨A2, m, c2, rfl, ho, hb⟩
  have HO := hide (ho.mono HB.out.size)
  have HB1 := hide (HB.out.trans (hb.mono HB.out.size))
  clear ho hb
  go_wp2
  go_ret
  exact ⟨_, _, _, rfl, HO.out, HB1.out⟩

set_option maxHeartbeats 3200000 in
theorem thatTier_any (A : Option Addr) (n c B b : Nat) (ms : List Wh) (q : Int) (w : World) (hr : MpI w B A n ms) (hB : B ≤ w.heap.size) (hn : n ≤ 1000000000) (hb : w.cell? ⟨b, 0, none⟩ = some (.int .i64 q)) (hbw : b < w.heap.size) :
    Calls Try.prog 43 #[.slice A n c, .func (.func 47) #[] #[.pointer (some ⟨b, 0, none⟩)]] w (ListPost w (tierM ms q)) := by
  have HR := hide hr
  have HL := hide hr.1
  have HV := hide (implMV A n c B ms w hr hB hn)
  have HBX := hide fun (W : World) (h : Below w.heap.size w W) => (h.cell (p := ⟨b, 0, none⟩) hbw).trans hb
  clear hr hb
  rcases hv : mpV ms with _ | _
  · rw [hv] at HV
    have HM : Hid (tierM ms q = []) := by show _ = _; unfold tierM; rw [hv]; rfl
    clear hv
    go_enter Try.func43, Try.ntmps43
    go_wp2_with fail
    refine HV.out.mono ?_
    rintro e w1 ⟨rfl, hb1⟩
    have HB1 := hide hb1
    clear hb1
    go_wp2
    go_ret
    exact ⟨_, _, _, rfl, by rw [HM.out]; exact Own.nil_ _ _, HB1.out⟩
  · rw [hv] at HV
    have HM : Hid (tierM ms q = blkP (inT ms q) 12) := by show _ = _; unfold tierM; rw [hv]; rfl
    have hn12 : n = 12 := HL.out.symm.trans (mpV_iff.1 hv).2
    subst hn12
    clear hv
    go_enter Try.func43, Try.ntmps43
    go_wp2_with fail
    refine HV.out.mono ?_
    rintro e w0 ⟨rfl, hb0⟩
    have HB0 := hide hb0
    clear hb0
    go_wp2
    go_loopw [5, 13] (fun o i wr => ∃ (k m d : Nat) (X : Option Addr), k ≤ 12 ∧ m ≤ k ∧ i = .int .i64 k ∧ o = .slice X m d ∧ Hid (Own wr w.heap.size X m d (blkP (inT ms q) k)) ∧ Hid (Below w.heap.size w wr)) (fun _ i _ => 12 - (intOf i).toNat)
    case atStart => exact ⟨0, 0, 0, none, by omega, by omega, rfl, rfl, Own.nil_ _ _, HB0.out⟩
    case round =>
      clear HB0
      obtain ⟨k, m, d, X, hk, hmk, rfl, rfl, HO, HB⟩ := hrel
      by_cases hlt : k < 12
      · obtain ⟨x, hx⟩ : ∃ x, ms[k]? = some x := ⟨_, List.getElem?_eq_getElem (by rw [HL.out]; exact hlt)⟩
        have HP := hide (inT_at hx q)
        obtain ⟨ad, p, rfl, hp, hpb, h0, h1, h2, h3, h4⟩ := (HR.out.below HB.out hB).at_ hx
        clear hx
        have k0 : (0 : Int) ≤ (k : Int) := by omega
        have k1 : (k : Int) < 12 := by omega
        have hsz := HB.out.size
        have HC := hide fun (W : World) (h : Below w.heap.size w W) => wantTier_any x q b W (HBX.out W h) (by have := h.size; omega)
        obtain ⟨t, z, a, i, y⟩ := x
        dsimp only at h0 h1 h2 h3 h4 HP HC
        have HOA := hide (HO.out.alloc (.cells #[.int .i64 t, .int .i64 z, .int .i64 a, .int .i64 i, .int .i64 y] 48))
        have HBA := hide (HB.out.alloc hsz (.cells #[.int .i64 t, .int .i64 z, .int .i64 a, .int .i64 i, .int .i64 y] 48))
        go_wp2_with fail
        refine (HC.out _ HBA.out).mono ?_
        rintro e w1 ⟨rfl, hb1⟩
        have HO1 := hide (HOA.out.below hb1)
        have HB1 := hide (HBA.out.trans (hb1.mono HBA.out.size))
        have hsz1 := HB1.out.size
        clear hb1 HO HB hsz HOA HBA HC h0 h1 h2 h3 h4
        rcases hw : (decide (t = q)) with _ | _
        · have HN := hide (blk_no (p := inT ms q) (k := k) (by rw [HP.out]; exact hw))
          clear hw HP
          go_wp2
          go_roundw
          case rel => exact ⟨k + 1, _, _, _, by omega, by omega, by go_num, rfl, by show Own _ _ _ _ _ _; rw [HN.out]; exact HO1.out, HB1.out⟩
          case measure => simp [intOf]; omega
        · have HN := hide (blk_yes (p := inT ms q) (k := k) (by rw [HP.out]; exact hw))
          clear hw HP
          go_wp2_with (at_builtin; refine wpList_append_ints rfl (.tmp 21) (.tmp 23) rfl w.heap.size m d (w1.heap.size + 1) 1 1 X (some ⟨w1.heap.size, 0, none⟩) (blkP (inT ms q) k) [(k : Int)] rfl (HO1.out.alloc _) rfl (Ints.one w1 (k : Int)) (by omega) (by simp; omega) ?_; intro A8 c8 w8 ho8 hg8 hat8; have HB8 := hide (below_app HB1.out hsz1 HO1.out (Nat.le_refl _) hg8); have HO8 := hide ho8; clear ho8 hg8 hat8)
          go_roundw
          case rel => exact ⟨k + 1, m + 1, _, _, by omega, by omega, by go_num, rfl, by show Own _ _ _ _ _ _; rw [HN.out]; exact HO8.out, HB8.out⟩
          case measure => simp [intOf]; omega
      · obtain rfl : k = 12 := by omega
        go_wp2
        go_ret
        exact ⟨_, _, _, rfl, by rw [HM.out]; exact HO.out, HB.out⟩

set_option maxHeartbeats 800000 in
theorem implMT (A : Option Addr) (n c B : Nat) (ms : List Wh) (q : Int) (w : World) (hr : MpI w B A n ms) (hB : B ≤ w.heap.size) (hn : n ≤ 1000000000) :
    Calls Try.prog 29 #[.slice A n c, .int .i64 q] w (ListPost w (tierM ms q)) := by
  have HB := hide (below_new w (.cells #[.int .i64 q] 3))
  have HC := hide (thatTier_any A n c B w.heap.size ms q (w.alloc (.cells #[.int .i64 q] 3)) (hr.alloc hB _) (Nat.le_trans hB HB.out.size) hn (by rw [(Blk.new w 3 #[.int .i64 q]).cell]; rfl) (by simp))
  clear hr
  go_enter Try.func29, Try.ntmps29
  go_wp2_with fail
  refine HC.out.mono ?_
  rintro e w1 ⟨A2, m, c2, rfl, ho, hb⟩
  have HO := hide (ho.mono HB.out.size)
  have HB1 := hide (HB.out.trans (hb.mono HB.out.size))
  clear ho hb
  go_wp2
  go_ret
  exact ⟨_, _, _, rfl, HO.out, HB1.out⟩
end Go.Proofs.Ytdhknodhmnnenaa
