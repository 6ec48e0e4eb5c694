/-
  The program's MapIds: sorted and compacted.
-/
import Derived.Test.YtdhknodhmnnenaaImpM2
import Derived.Test.YtdhknodhmnnenaaSpecM4
import Derived.Test.YtdhknodhmnnenaaIdsM
import Derived.Test.YtdhknodhmnnenaaLayM
import Derived.Shelf.SortM.Plain
import Derived.Shelf.SortM.SortNone
import Derived.Shelf.SlicesG.CompactI
import Derived.Sort.Grow
import Derived.Lib.OwnBridge
namespace Go.Proofs.Ytdhknodhmnnenaa
open Go.RowKit Go.Sort Go.Shelf
set_option linter.unusedVariables false
set_option maxRecDepth 100000

theorem below_growW (w : World) (os : Array Obj) : Below w.heap.size w (grow w os) := ⟨rfl, rfl, rfl, by simp, fun k hk => heap_grow_old _ _ hk⟩

/-- slices.Sort, on a row of the call's own -/
theorem sortI_any (base m d : Nat) (X : Option Addr) (zs : List Int) (w : World) (ho : Own w base X m d zs) (hb : base ≤ w.heap.size) (hm : m ≤ 1000000000) :
    Calls Try.prog 45 #[.slice X m d] w fun e w' => e = .returned (.tuple #[]) ∧ Own w' base X m d (zs.mergeSort fun x y => decide (x ≤ y)) ∧ Below base w w' := by
  by_cases h0 : m = 0
  · subst h0
    have hz : zs = [] := List.eq_nil_of_length_eq_zero ho.1
    subst hz
    refine (AnyM.slices_Sort_int_none sortA X d w).mono ?_
    rintro e w' ⟨rfl, rfl⟩
    exact ⟨rfl, by simpa using ho, Below.refl _ _⟩
  · have hnn : (Value.slice X m d) ≠ .slice none 0 0 := by intro e; injection e with _ e; exact h0 e
    obtain ⟨g, cap, he, hbg, hgl, hmc, hcm, hlen, hH⟩ := Lib.holds_of_ownsRow ho.2 hnn
    injection he with e1 _ e3
    subst e1 e3
    have hc := AnyM.slices_Sort_int sortA g 0 d zs w hH hgl (by omega)
    rw [hlen] at hc
    refine hc.mono ?_
    rintro e w' ⟨rfl, nn, os, rfl⟩
    have hl2 : (zs.mergeSort fun x y => decide (x ≤ y)).length = m := by rw [List.length_mergeSort]; exact hlen
    have hp := Lib.ownsRow_putRow (enc := Value.int .i64) (q := nn) (k := m) (ys := zs.mergeSort fun x y => decide (x ≤ y)) ho.2 hl2 (Nat.le_refl _)
    rw [List.take_of_length_le (by rw [hl2]; exact Nat.le_refl _)] at hp
    have hbp : Below base w (putRow (Value.int .i64) (Sort.ahead w nn) g 0 (zs.mergeSort fun x y => decide (x ≤ y)).toArray) := Lib.below_putRow (Below.refl _ _) hbg
    have hg := below_growW (putRow (Value.int .i64) (Sort.ahead w nn) g 0 (zs.mergeSort fun x y => decide (x ≤ y)).toArray) os
    have hown : Own (putRow (Value.int .i64) (Sort.ahead w nn) g 0 (zs.mergeSort fun x y => decide (x ≤ y)).toArray) base (some ⟨g, 0, none⟩) m d (zs.mergeSort fun x y => decide (x ≤ y)) := ⟨hl2, hp⟩
    exact ⟨rfl, hown.below hg, hbp.trans (hg.mono (Nat.le_trans hb hbp.size))⟩

/-- slices.Compact, on a row of the call's own -/
theorem compactI_any (base m d : Nat) (X : Option Addr) (zs : List Int) (w : World) (ho : Own w base X m d zs) (hb : base ≤ w.heap.size) (hm : m ≤ 1000000000) :
    Calls Try.prog 46 #[.slice X m d] w fun e w' => e = .returned (.slice X (Lib.compact zs).length d) ∧ Own w' base X (Lib.compact zs).length d (Lib.compact zs) ∧ Below base w w' := by
  by_cases h0 : m = 0
  · subst h0
    have hz : zs = [] := List.eq_nil_of_length_eq_zero ho.1
    subst hz
    refine (AnyG.slices_Compact_int_empty compactA X d w).mono ?_
    rintro e w' ⟨rfl, rfl⟩
    exact ⟨rfl, ho, Below.refl _ _⟩
  · have hnn : (Value.slice X m d) ≠ .slice none 0 0 := by intro e; injection e with _ e; exact h0 e
    obtain ⟨g, cap, he, hbg, hgl, hmc, hcm, hlen, hH⟩ := Lib.holds_of_ownsRow ho.2 hnn
    injection he with e1 _ e3
    subst e1 e3
    have hc := AnyG.slices_Compact_int compactA g 0 d zs w hH (by omega) (by omega)
    rw [hlen] at hc
    refine hc.mono ?_
    rintro e w' ⟨rfl, q, rfl⟩
    have hle := Lib.compact_length_le zs
    have hp := Lib.ownsRow_putRow (enc := Value.int .i64) (q := q) (k := (Lib.compact zs).length) (ys := Lib.compact zs ++ List.replicate (m - (Lib.compact zs).length) 0) ho.2 (by simp; omega) (by omega)
    rw [List.take_left] at hp
    exact ⟨rfl, ⟨rfl, hp⟩, Lib.below_putRow (Below.refl _ _) hbg⟩

set_option maxHeartbeats 3200000 in
theorem implMD (A : Option Addr) (n c B : Nat) (ms : List Wh) (w : World) (hr : MpI w B A n ms) (hB : B ≤ w.heap.size) (hn : n ≤ 1000000000) :
    Calls Try.prog 27 #[.slice A n c] w (ListPost w (idsM ms)) := by
  have HR := hide hr
  have HL := hide hr.1
  have HT := hide (implMT A n c B ms 2 w hr hB hn)
  clear hr
  rcases hv : mpV ms with _ | _
  · have HM := hide (show tierM ms 2 = [] by unfold tierM; rw [hv]; rfl)
    have HD := hide (show idsM ms = [] by unfold idsM; rw [hv]; rfl)
    clear hv
    go_enter Try.func27, Try.ntmps27
    go_wp2_with fail
    refine HT.out.mono ?_
    rintro e w1 ⟨A1, m1, d1, rfl, ho1, hb1⟩
    have HB1 := hide hb1
    have HS1 := hide (sortI_any w.heap.size 0 0 none [] w1 (Own.nil_ _ _) hb1.size (by omega))
    have HC1 := hide fun (W : World) (h : Below w.heap.size w W) => compactI_any w.heap.size 0 0 none [] W (Own.nil_ _ _) h.size (by omega)
    have hm0 : m1 = 0 := by have := ho1.1; rw [HM.out] at this; exact this.symm
    subst hm0
    clear ho1 hb1
    go_wp2
    go_loopw [3, 9] (fun o i wr => i = .int .i64 0 ∧ o = .slice none 0 0 ∧ w1 = wr) (fun _ _ _ => 0)
    case atStart => exact ⟨rfl, rfl, rfl⟩
    case round =>
      obtain ⟨rfl, rfl, rfl⟩ := hrel
      go_wp2_with fail
      refine HS1.out.mono ?_
      rintro e w2 ⟨rfl, _, hb2⟩
      have HB2 := hide (HB1.out.trans hb2)
      clear hb2
      go_wp2_with fail
      refine (HC1.out w2 HB2.out).mono ?_
      rintro e w3 ⟨rfl, ho3, hb3⟩
      have HO3 := hide ho3
      have HB3 := hide (HB2.out.trans hb3)
      clear ho3 hb3
      go_wp2
      go_ret
      exact ⟨_, _, _, rfl, by rw [HD.out]; exact HO3.out, HB3.out⟩
  · have HMV := hide hv
    have hn12 : n = 12 := HL.out.symm.trans (mpV_iff.1 hv).2
    subst hn12
    clear hv
    go_enter Try.func27, Try.ntmps27
    go_wp2_with fail
    refine HT.out.mono ?_
    rintro e w1 ⟨A1, m1, d1, rfl, ho1, hb1⟩
    have HB1 := hide hb1
    have hm12 : m1 ≤ 12 := by rw [← ho1.1]; exact tierM_le ms 2
    have HO1 := hide ho1
    have HL1 := hide ho1.1
    clear ho1 hb1 HT
    go_wp2
    go_loopw [3, 9] (fun o i wr => ∃ (j d : Nat) (X : Option Addr), j ≤ m1 ∧ i = .int .i64 j ∧ o = .slice X j d ∧ Hid (Own wr w1.heap.size X j d (((tierM ms 2).take j).map (idOf ms))) ∧ Hid (Below w1.heap.size w1 wr)) (fun _ i _ => m1 - (intOf i).toNat)
    case atStart => exact ⟨0, 0, none, Nat.zero_le _, rfl, rfl, Own.nil_ _ _, Below.refl _ _⟩
    case round =>
      obtain ⟨j, d, X, hj, rfl, rfl, HO, HB⟩ := hrel
      by_cases hlt : j < m1
      · have hbm : (tierM ms 2).getD j 0 ∈ tierM ms 2 := by
          have hl : j < (tierM ms 2).length := by rw [HL1.out]; exact hlt
          rw [List.getD, List.getElem?_eq_getElem hl]
          exact List.getElem_mem hl
        obtain ⟨k, x, hk, hk12, hx, ht⟩ := tier_mem HMV.out hbm
        obtain ⟨ad1, rfl, _, hc1⟩ := (HO1.out.ints.below HB.out (Nat.le_refl _)).at_ hlt
        rw [hk] at hc1
        obtain ⟨ad, p, rfl, hp, hpb, h0, h1, h2, h3, h4⟩ := (HR.out.below (HB1.out.trans (HB.out.mono HB1.out.size)) hB).at_ hx
        have HID := hide (idOf_at hx)
        have HTK : Hid (((tierM ms 2).take (j + 1)).map (idOf ms) = ((tierM ms 2).take j).map (idOf ms) ++ [x.2.2.2.1]) := by
          show _ = _
          have hl : j < (tierM ms 2).length := by rw [HL1.out]; exact hlt
          rw [List.take_succ_eq_append_getElem hl, List.map_append, List.map_singleton]
          have e : (tierM ms 2)[j] = (k : Int) := by rw [← hk]; simp [List.getD, hl]
          rw [e, HID.out]
        obtain ⟨t, z, a, i, y⟩ := x
        dsimp only at h0 h1 h2 h3 h4 HTK
        have k0 : (0 : Int) ≤ (k : Int) := by omega
        have k1 : (k : Int) < 12 := by omega
        have j0 : (0 : Int) ≤ (j : Int) := by omega
        have j1 : (j : Int) < (m1 : Int) := by omega
        have hsz := HB.out.size
        clear hbm hk hx ht h0 h1 h2 h4 HID
        go_wp2_with (at_builtin; refine wpList_append_ints rfl (.tmp 13) (.tmp 19) rfl w1.heap.size j d (wr.heap.size + 1) 1 1 X (some ⟨wr.heap.size, 0, none⟩) (((tierM ms 2).take j).map (idOf ms)) [i] rfl (HO.out.alloc _) rfl (Ints.one wr i) (by omega) (by simp; omega) ?_; intro A8 c8 w8 ho8 hg8 hat8; have HB8 := hide (below_app HB.out hsz HO.out (Nat.le_refl _) hg8); have HO8 := hide ho8; clear ho8 hg8 hat8)
        go_roundw
        case rel => exact ⟨j + 1, _, _, by omega, by go_num, rfl, by show Own _ _ _ _ _ _; rw [HTK.out]; exact HO8.out, HB8.out⟩
        case measure => simp [intOf]; omega
      · obtain rfl : j = m1 := by omega
        have hown := HO.out
        rw [List.take_of_length_le (by rw [HL1.out]; exact Nat.le_refl _)] at hown
        have HS1 := hide (sortI_any w1.heap.size j d X _ wr hown HB.out.size (by omega))
        have hlen : (Lib.compact (((tierM ms 2).map (idOf ms)).mergeSort fun x y => decide (x ≤ y))).length ≤ j := by
          have := Lib.compact_length_le (((tierM ms 2).map (idOf ms)).mergeSort fun x y => decide (x ≤ y))
          rw [List.length_mergeSort, List.length_map, HL1.out] at this
          exact this
        have HSRT := hide (ids_sorted HMV.out)
        clear hown hlen HO
        generalize ((tierM ms 2).map (idOf ms)).mergeSort (fun x y => decide (x ≤ y)) = srt at HS1 HSRT
        go_wp2_with fail
        refine HS1.out.mono ?_
        rintro e w2 ⟨rfl, ho2, hb2⟩
        have HB2 := hide (HB.out.trans hb2)
        have HC2 := hide (compactI_any w1.heap.size j d X srt w2 ho2 (Nat.le_trans HB.out.size (Nat.le_trans hb2.size (Nat.le_refl _))) (by omega))
        clear ho2 hb2 HS1
        rw [HSRT.out] at HC2
        go_wp2_with fail
        refine HC2.out.mono ?_
        rintro e w3 ⟨rfl, ho3, hb3⟩
        have HO3 := hide (ho3.mono HB1.out.size)
        have HB3 := hide (HB1.out.trans ((HB2.out.trans hb3).mono HB1.out.size))
        clear ho3 hb3
        go_wp2
        go_ret
        exact ⟨_, _, _, rfl, HO3.out, HB3.out⟩
end Go.Proofs.Ytdhknodhmnnenaa
