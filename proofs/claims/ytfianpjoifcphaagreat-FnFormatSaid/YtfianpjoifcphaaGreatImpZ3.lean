/-
  The program's (*grid).device: the device of a grid, in new memory.
-/
import Derived.Test.YtfianpjoifcphaaGreatImpZ2
import Derived.Deep.MidRow
namespace Go.Proofs.YtfianpjoifcphaaGreat
open Go.RowKit
set_option linter.unusedVariables false
set_option maxRecDepth 100000

def zq0 : Zq := ⟨[], 0, false, none, 0⟩
theorem OwnZ.make4 (w : World) (base : Nat) (hb : base ≤ w.heap.size) (cs : Array Value) (hcs : cs.toList = flat (List.replicate 4 zq0)) : OwnZ (w.alloc (.cells cs 69)) base (some ⟨w.heap.size, 0, none⟩) 4 4 (List.replicate 4 zq0) := by
  have get : ∀ {k q}, (List.replicate 4 zq0)[k]? = some q → q = zq0 := fun h => by
    have := List.mem_of_getElem? h
    exact (List.mem_replicate.1 this).2
  refine ⟨rfl, ?_, fun k q hk => ?_, fun i j q r hi hj hij g hg => ?_⟩
  · have := World.ownsRow_lit (base := base) (e := 69) (size := 3) w cs 4 hb (by decide) (by rw [← Array.length_toList, hcs]; rfl)
    rw [hcs] at this
    exact this
  · rw [get hk]; exact Own.nil_ _ _
  · rw [get hi] at hg
    simp [zq0, Zq.sl, Value.ownBlock] at hg

/-- the words of a grid's zone, where they lie -/
theorem GB.ints {w : World} {g k n : Nat} {W : List Int} {M : List Mk} (h : GB w g W M) (hk : k < 4) (hn : n ≤ 64) : Ints w (g + 1) (some ⟨g, k * 64, none⟩) n ((W.drop (k * 64)).take n) := by
  refine ⟨by rw [List.length_take, List.length_drop, h.2.words]; omega, fun hp => ⟨_, rfl, by simp, fun j hj => ?_⟩⟩
  have e : (⟨g, k * 64, none⟩ : Addr).add j = ⟨g, k * 64 + j, none⟩ := Addr.add_mid _ _ _
  rw [e, h.1.cell]
  have := gcells_word h.2 (j := k * 64 + j) (by omega)
  rw [getD_take' _ _ _ hj, getD_drop']
  simpa using this
theorem GB.marks {w : World} {g : Nat} {W : List Int} {M : List Mk} (h : GB w g W M) : w.rangeAt g 256 (mksV M) := by
  intro j v hv
  rw [h.1.cell]
  have e : (gcells W M)[256 + j]? = (mksV M)[j]? := by
    unfold gcells
    rw [List.getElem?_append_right (by rw [List.length_map, h.2.words]; omega), List.length_map, h.2.words]
    congr 1
    omega
  rw [← e] at hv
  simpa using hv

theorem info52 : (Tryz.prog.info? 75).map (·.size) = some 12 := by kernel_rfl

theorem make4_cells : madeCells #[.slice none 0 0, .int .i64 0, .bool false] 12 = (flat (List.replicate 4 zq0)).toArray := by kernel_rfl
theorem run_make4 (w : World) : (Instr.makeSlice 23 (.int .i64 4) (.int .i64 4)).run Tryz.prog w = .ok (.slice (some ⟨w.heap.size, 0, none⟩) 4 4) (w.alloc (.cells (flat (List.replicate 4 zq0)).toArray 69)) := by
  obtain ⟨i0, hi, hz0, hz1, hz2⟩ := info_parts zoneT.info
  have h := run_make (P := Tryz.prog) w 23 69 i0 _ Tryz.underlying23 hi hz0 .i64 .i64 4 4 (by decide) (by decide) (by rw [hz2]; decide) (by decide)
  rw [hz1] at h
  rw [← make4_cells]
  exact h

theorem run_index_mark {M : List Mk} (hM : M.length = 4) {k : Nat} {m : Mk} (h : M[k]? = some m) (w : World) :
    (Instr.index 75 (.agg (mksV M).toArray) (.int .i64 k)).run Tryz.prog w = .ok (.agg #[.int .i64 m.1, .int .i64 m.2.1, .bool m.2.2]) w := by
  match M, hM with
  | [a, b, c, d], _ =>
    rcases k with _ | _ | _ | _ | k
    · simp at h; subst h; show _ = _; kernel_rfl
    · simp at h; subst h; show _ = _; kernel_rfl
    · simp at h; subst h; show _ = _; kernel_rfl
    · simp at h; subst h; show _ = _; kernel_rfl
    · simp at h

set_option maxHeartbeats 6400000 in
theorem implDevice (g : Nat) (W : List Int) (M : List Mk) (w : World) (hg : GB w g W M) :
    Calls Tryz.prog 96 #[.pointer (some ⟨g, 0, none⟩)] w fun e w' => ∃ A2 c2 qs2, e = .returned (.slice A2 4 c2) ∧ OwnZ w' w.heap.size A2 4 c2 qs2 ∧ zns qs2 = devG W M ∧ Below w.heap.size w w' := by
  have HG := hide hg
  have HI := hide info52
  have HR := hide hg.marks
  have hgl := hg.1.lt
  clear hg
  go_enter Tryz.func96, Tryz.ntmps96
  have HB0 := hide (below_box w (.cells (flat (List.replicate 4 zq0)).toArray 69))
  have HO0 := hide (OwnZ.make4 w w.heap.size (Nat.le_refl _) (flat (List.replicate 4 zq0)).toArray rfl)
  have HM := hide (run_make4 w)
  have hmk := HM.out
  go_upto_region 2 with (fail)
  clear hmk
  have HGA := hide (HG.out.alloc (.cells (flat (List.replicate 4 zq0)).toArray 69))
  have HRA := hide HGA.out.marks
  have HLM := hide (show (mksV M).length = 12 by rw [mksV_length, HG.out.2.marks])
  go_wp2_with (refine wpList_load_mid rfl 75 _ rfl g 256 rfl (mksV M) _ HRA.out Tryz.underlying75 rfl (by rw [HI.out, HLM.out]) ?_)
  go_loopw [12] (fun i wr => ∃ (k : Nat) (rs : List Zq), k ≤ 4 ∧ i = .int .i64 k ∧ Hid (OwnZ wr w.heap.size (some ⟨w.heap.size, 0, none⟩) 4 4 rs) ∧ Hid (∀ j, j < k → (zns rs)[j]? = (devG W M)[j]?) ∧ Hid (Below w.heap.size w wr)) (fun i _ => 4 - (intOf i).toNat)
  case atStart => exact ⟨0, _, Nat.zero_le _, rfl, HO0.out, (fun j hj => absurd hj (by omega)), HB0.out⟩
  case round =>
    obtain ⟨k, rs, hk, rfl, HO, HD, HB⟩ := hrel
    have hs := HB.out.size
    by_cases hlt : k < 4
    · obtain ⟨mk, hmk, hmk0, hmk1⟩ := HG.out.2.at_ hlt
      obtain ⟨mi, sy, fu⟩ := mk
      simp only at hmk0 hmk1
      obtain ⟨m, rfl⟩ : ∃ m : Nat, mi = (m : Int) := ⟨mi.toNat, by omega⟩
      have hix := run_index_mark HG.out.2.marks hmk wr
      simp only at hix
      have HDV := hide (devG_get (W := W) hmk)
      have hGB := HG.out.below (w' := wr) HB.out
      have HBo := hide (Blk.new wr 74 #[.int .i64 m, .int .i64 sy, .bool fu])
      have HIN := hide ((hGB.alloc (.cells #[.int .i64 m, .int .i64 sy, .bool fu] 74)).ints hlt (n := m) (by omega))
      have HOA := hide (HO.out.alloc (.cells #[.int .i64 m, .int .i64 sy, .bool fu] 74))
      obtain ⟨q, hq⟩ : ∃ q, rs[k]? = some q := ⟨_, List.getElem?_eq_getElem (by rw [HO.out.len]; exact hlt)⟩
      have HAN := hide fun (w3 : World) (c3 : Nat) (A3 : Option Addr) (ws3 : List Int) hg ho hat => HOA.out.anew (w3 := w3) (c3 := c3) (A3 := A3) (ws3 := ws3) (row := none) hq hg (by simp) ho hat sy fu
      have k0 : (0 : Int) ≤ (k : Int) := by omega
      have k1 : (k : Int) < ((4 : Nat) : Int) := by omega
      have k2 : (k : Int) < 4 := by omega
      have m1 : (m : Int) ≤ 64 := by omega
      have HCF := hide (cell_facts HBo.out)
      have hz0 := HCF.out.1
      have hz1 := HCF.out.2.1
      have hz2 := HCF.out.2.2
      clear hmk hq hGB
      go_upto_region 5 with (fail)
      have HNIL := hide (Own.nil_ (wr.alloc (.cells #[.int .i64 m, .int .i64 sy, .bool fu] 74)) w.heap.size)
      have hnm : 0 + m ≤ 17592186044416 := by omega
      have hbs : w.heap.size ≤ (wr.alloc (.cells #[.int .i64 m, .int .i64 sy, .bool fu] 74)).heap.size := by simp; omega
      go_region_law (refine step_append_ints ?_ (.const (.slice none 0 0)) (.tmp 23) ?_ w.heap.size 0 0 (g + 1) m 64 none (some ⟨g, k * 64, none⟩) [] ((W.drop (k * 64)).take m) ?_ ?_ ?_ ?_ ?_ ?_ ?_; rfl; rfl; rfl; exact HNIL.out; rfl; exact HIN.out; exact hnm; exact hbs; intro A3 c3 w3 ho3 hg3 hat3; simp only [Nat.zero_add, List.nil_append] at ho3 hat3 ⊢)
      all_goals
        have hg5 := grown_undrawn hg3
        have hlm := HIN.out.1
        have HE := hide (HAN.out w3 c3 A3 ((W.drop (k * 64)).take m) hg5 (by rw [hlm]; exact ho3) (fun b hb => by
          rw [hlm] at hb
          rcases hat3 with e | e
          · rw [hb] at e; cases e
          · rw [hb] at e; injection e with e; rw [e]; exact Nat.le_refl _))
        rw [hlm] at HE
        have HB5 := hide (HBo.out.grown hg5 (by show _ ≠ none; simp))
        have HC5 := hide (cell_facts HB5.out)
        have hy0 := HC5.out.1
        have hy1 := HC5.out.2.1
        have hy2 := HC5.out.2.2
        have HOK := hide (HOA.out.kept hg5 (fun g' h => by cases h))
        obtain ⟨q5, hq5⟩ : ∃ q, rs[k]? = some q := ⟨_, List.getElem?_eq_getElem (by rw [HO.out.len]; exact hlt)⟩
        obtain ⟨hm0, hm1, hm2⟩ := HOK.out.at_ hq5
        have hf0 := HOK.out.free (j := k * 3)
        have hf1 := HOK.out.free (j := k * 3 + 1)
        have hf2 := HOK.out.free (j := k * 3 + 2)
        have HB6 := hide (((HB.out.alloc hs (.cells #[.int .i64 m, .int .i64 sy, .bool fu] 74)).grown hg5 (by simp; omega) (fun b hb => by cases hb)).grown HE.out.2 (Nat.le_trans (Nat.le_trans hs (by simp)) hg5.size) (fun b hb => by injection hb with hb; omega))
        clear hat3 ho3 hg3 hg5 hlm hz0 hz1 hz2 hq5 hix
        go_wp2
        go_roundw
        case rel =>
          refine ⟨k + 1, _, by omega, by go_num, HE.out.1, ?_, HB6.out⟩
          show ∀ j, j < k + 1 → _
          intro j hj
          rw [zns_set, List.getElem?_set]
          by_cases e : k = j
          · subst e
            rw [if_pos rfl, if_pos (by unfold zns; rw [List.length_map, HO.out.len]; exact hlt), HDV.out]
            unfold zoneG Zq.zn
            simp
          · rw [if_neg e]
            exact HD.out j (by omega)
        case measure => simp [intOf]; omega
    · obtain rfl : k = 4 := by omega
      go_wp2
      go_ret
      refine ⟨_, _, _, rfl, HO.out, ?_, HB.out⟩
      apply List.ext_getElem?
      intro j
      by_cases hj : j < 4
      · exact HD.out j hj
      · rw [List.getElem?_eq_none (by unfold zns; rw [List.length_map, HO.out.len]; omega), List.getElem?_eq_none (by rw [devG_length, HG.out.2.marks]; omega)]
end Go.Proofs.YtfianpjoifcphaaGreat
