/-
  The program's gridOf, gridWith: a device's grid, by value.
-/
import Derived.Test.YtfianpjoifcphaaGreatGrid
import Derived.Test.YtfianpjoifcphaaGreatG3
import Derived.Deep.RegionLaw
import Derived.Test.YtfianpjoifcphaaGreatG4
import Derived.Deep.DeepCutAuto
import Derived.Deep.CutBlock
namespace Go.Proofs.YtfianpjoifcphaaGreat
open Go.RowKit
set_option linter.unusedVariables false
set_option maxRecDepth 100000

/-- a grid by value, and whether there is one -/
def GridPost (w : World) (v : Bool) (ds : Dev) (e : Ending) (w' : World) : Prop :=
  ∃ cs : List Value, e = .returned (.tuple #[.agg cs.toArray, .bool v]) ∧ cs.length = 268 ∧ (∀ u ∈ cs, u.oneCell' = true) ∧ (v = true → ∃ W M, cs = gcells W M ∧ GrOk W M ∧ devG W M = ds) ∧ Below w.heap.size w w'

theorem zero_post {w w' : World} (ds : Dev) (hb : Below w.heap.size w w') : GridPost w false ds (.returned (.tuple #[.agg (gcells zeroW zeroM).toArray, .bool false])) w' :=
  ⟨_, rfl, gcells_length zeroOk, gcells_one, (fun h => absurd h (by decide)), hb⟩

/-- behind k rounds of gridOf -/
structure GIn (w wr : World) (R G k : Nat) (ds : Dev) (W : List Int) (M : List Mk) : Prop where
  grid : GB wr G W M
  res : Blk wr R 77 (gcells zeroW zeroM).toArray
  below : Below w.heap.size w wr
  done : ∀ i, i < k → (devG W M)[i]? = ds[i]?

theorem GIn.next {w wr w4 : World} {R G k m : Nat} {qs : List Zq} {W : List Int} {M : List Mk} {q : Zq} (h : GIn w wr R G k (zns qs) W M) (hR : w.heap.size ≤ R) (hRG : R < G) (hk : k < 4) (hq : qs[k]? = some q) (hm : q.words.length = m) (h64 : m ≤ 64) (o : Obj)
    (hb : Blk w4 G 77 (splice (gcells W M) (k * 64) (q.words.map (Value.int .i64))).toArray) (hg : (wr.alloc o).grownBy w4 (some G)) :
    GIn w (((w4.setCell ⟨G, 256 + k * 3, none⟩ (.int .i64 m)).setCell ⟨G, 256 + k * 3 + 1, none⟩ (.int .i64 q.synced)).setCell ⟨G, 256 + k * 3 + 2, none⟩ (.bool q.full)) R G (k + 1) (zns qs) (splice W (k * 64) q.words) (M.set k ((m : Int), q.synced, q.full)) := by
  subst hm
  obtain ⟨mk, hmk, _⟩ := h.grid.2.at_ hk
  have g4 : GB w4 G (splice W (k * 64) q.words) M := ⟨by rw [← splice_gcells h.grid.2 _ _ (by omega)]; exact hb, h.grid.2.splice _ _ (by omega)⟩
  refine ⟨g4.set3 hmk _ _ _ (by omega) (by omega), ?_, ?_, fun i hi => ?_⟩
  · exact ((h.res.alloc o).grown hg (by simp; omega)).grown (grown3 _ _ _ _ _ _ _ _) (by simp; omega)
  · have hs := h.below.size
    have hlt := h.grid.1.lt
    exact ((h.below.alloc hs o).grown hg (by simp; omega) (fun b hb => by injection hb with hb; omega)).grown (grown3 _ _ _ _ _ _ _ _) (Nat.le_trans (Nat.le_trans hs (by simp)) hg.size) (fun b hb => by injection hb with hb; omega)
  · rw [devG_set]
    have hl : (devG (splice W (k * 64) q.words) M).length = 4 := by rw [devG_length, h.grid.2.marks]
    rw [List.getElem?_set]
    by_cases e : k = i
    · subst e
      rw [if_pos rfl, if_pos (by omega)]
      have := zoneG_splice_at h.grid.2 (k := k) (n := 0) q.words q.synced q.full hk (by omega)
      simp only [Nat.add_zero, List.take_zero, List.nil_append] at this
      have e0 : ((0 : Nat) : Int) + (q.words.length : Int) = (q.words.length : Int) := by omega
      rw [e0] at this
      rw [this]
      unfold zns
      rw [List.getElem?_map, hq]
      rfl
    · rw [if_neg e, ← h.done i (by omega)]
      obtain ⟨mi, hmi, hi1⟩ := h.grid.2.at_ (k := i) (by omega)
      rw [devG_get hmi, devG_get hmi]
      have := zoneG_splice h.grid.2 (k := k) (i := i) (n := 0) mi q.words hk (by omega) hi1 (by omega) (fun e2 => absurd e2.symm e)
      rw [Nat.add_zero] at this
      rw [this]

theorem GIn.end_ {w wr : World} {R G : Nat} {qs : List Zq} {W : List Int} {M : List Mk} (h : GIn w wr R G 4 (zns qs) W M) (h4 : qs.length = 4) : devG W M = zns qs := by
  apply List.ext_getElem?
  intro i
  by_cases hi : i < 4
  · exact h.done i hi
  · rw [List.getElem?_eq_none (by rw [devG_length, h.grid.2.marks]; omega), List.getElem?_eq_none (by unfold zns; rw [List.length_map]; omega)]

theorem cell_facts {w : World} {g : Nat} {t : TypeId} {a b c : Value} (h : Blk w g t #[a, b, c]) : w.cell? ⟨g, 0, none⟩ = some a ∧ w.cell? ⟨g, 1, none⟩ = some b ∧ w.cell? ⟨g, 2, none⟩ = some c :=
  ⟨by rw [h.cell]; rfl, by rw [h.cell]; rfl, by rw [h.cell]; rfl⟩

theorem info1 : (Tryz.prog.info? 3).map (·.size) = some 1 := by kernel_rfl

set_option maxHeartbeats 6400000 in
theorem implGridOf (A : Option Addr) (n c B : Nat) (qs : List Zq) (w : World) (hr : Zns w B A n qs) (hB : B ≤ w.heap.size) (hn : n ≤ 1000000000000) :
    Calls Tryz.prog 102 #[.slice A n c] w (GridPost w (devV (zns qs)) (zns qs)) := by
  have HV := hide fun (W : World) (h : Zns W B A n qs) (hW : B ≤ W.heap.size) => implDV A n c B qs W h hW hn
  have HR := hide hr
  have HT := hide gridI
  rcases hv : devV (zns qs) with _ | _
  · rw [hv] at HV
    clear hv hr
    go_enter Tryz.func102, Tryz.ntmps102
    have HV1 := hide (HV.out _ (HR.out.alloc hB (.cells ZG 77)) (by simp; omega))
    have HZ0 := hide (show Blk (w.alloc (.cells ZG 77)) w.heap.size 77 (gcells zeroW zeroM).toArray by rw [← zeroG]; exact Blk.new _ _ _)
    have HB0 := hide (below_box w (.cells ZG 77))
    go_wp2_with (first | (with_reducible refine wpList_alloc_grid rfl rfl ?_) | (with_reducible refine wpList_build_grid rfl rfl ?_))
    refine HV1.out.mono ?_
    rintro e w1 ⟨rfl, hb1⟩
    have HB1 := hide (HB0.out.trans (hb1.mono (by simp)))
    have HZ1 := hide (HZ0.out.below hb1 (by simp))
    clear hb1
    have HZG := hide zeroG
    go_wp2_with (first | (with_reducible refine wpList_alloc_grid rfl rfl ?_) | (with_reducible refine wpList_build_grid rfl rfl ?_) | (refine wpList_store_blk rfl 77 _ _ rfl w.heap.size rfl 77 _ (gcells zeroW zeroM) (by show Value.agg _ = _; rw [HZG.out]) HZ1.out rfl (by rw [HT.out, gcells_length zeroOk]) gcells_one ?_; intro w2 hw2 hg2; have HB2 := hide (HB1.out.grown hg2 HB1.out.size (fun b hb => by injection hb with hb; omega)); clear hg2))
    exact bodyPost_ret (results_blk2 Tryz.results102 _ _ w.heap.size 77 (gcells zeroW zeroM) _ rfl hw2.out Tryz.underlying77 rfl (by rw [HT.out, gcells_length zeroOk])) rfl (zero_post _ HB2.out)
  · rw [hv] at HV
    have h4 : n = 4 := by rw [← hr.1]; exact devV_four hv
    subst h4
    have HL := hide (devV_len hv)
    clear hv hr
    go_enter Tryz.func102, Tryz.ntmps102
    have HV1 := hide (HV.out _ (HR.out.alloc hB (.cells ZG 77)) (by simp; omega))
    have HZ0 := hide (show Blk (w.alloc (.cells ZG 77)) w.heap.size 77 (gcells zeroW zeroM).toArray by rw [← zeroG]; exact Blk.new _ _ _)
    have HB0 := hide (below_box w (.cells ZG 77))
    go_wp2_with (first | (with_reducible refine wpList_alloc_grid rfl rfl ?_) | (with_reducible refine wpList_build_grid rfl rfl ?_))
    refine HV1.out.mono ?_
    rintro e w1 ⟨rfl, hb1⟩
    have HB1 := hide (HB0.out.trans (hb1.mono (by simp)))
    have HZ1 := hide (HZ0.out.below hb1 (by simp))
    clear hb1 HV HV1 HZ0 HB0
    have hRG : w.heap.size < w1.heap.size := HZ1.out.lt
    have HG0 := hide (show Blk (w1.alloc (.cells ZG 77)) w1.heap.size 77 (gcells zeroW zeroM).toArray by rw [← zeroG]; exact Blk.new _ _ _)
    have HI0 := hide (GIn.mk (k := 0) (ds := zns qs) ⟨HG0.out, zeroOk⟩ (HZ1.out.alloc (.cells ZG 77)) (HB1.out.alloc HB1.out.size (.cells ZG 77)) (fun i hi => absurd hi (by omega)))
    go_wp2_with (with_reducible refine wpList_alloc_grid rfl rfl ?_)
    go_loopw [13] (fun i wr => ∃ (k : Nat) (W : List Int) (M : List Mk), k ≤ 4 ∧ i = .int .i64 k ∧ Hid (GIn w wr w.heap.size w1.heap.size k (zns qs) W M)) (fun i _ => 4 - (intOf i).toNat)
    case atStart => exact ⟨0, zeroW, zeroM, Nat.zero_le _, rfl, HI0.out⟩
    case round =>
      obtain ⟨k, W, M, hk, rfl, HI⟩ := hrel
      by_cases hlt : k < 4
      · obtain ⟨q, hq⟩ : ∃ q, qs[k]? = some q := ⟨_, List.getElem?_eq_getElem (by rw [HR.out.1]; exact hlt)⟩
        have hR := HR.out.below HI.out.below hB
        obtain ⟨ad, p, rfl, hp, hb, hc0, hc1, hc2⟩ := hR.at_ hq
        obtain ⟨hi, hle, hcm⟩ := hR.words hq
        have h64 := HL.out q (List.mem_of_getElem? hq)
        have HNX := hide fun (w4 : World) (o : Obj) (m : Nat) (hm : q.words.length = m) (h64 : m ≤ 64) hb hg => HI.out.next (w4 := w4) (Nat.le_refl _) hRG hlt hq hm h64 o hb hg
        clear hR hq
        obtain ⟨ws, sy, fu, qa, qc⟩ := q
        simp only [Zq.sl] at hc0 hc1 hc2 hi hle hcm h64 HNX
        obtain ⟨m, hm⟩ : ∃ m, ws.length = m := ⟨_, rfl⟩
        rw [hm] at hc0 hi hle h64
        have HM := hide hm
        have hBr : B ≤ wr.heap.size := Nat.le_trans hB HI.out.below.size
        have HIo := hide (hi.alloc hBr (.cells #[.slice qa m qc, .int .i64 sy, .bool fu] 69))
        have HBo := hide (Blk.new wr 69 #[.slice qa m qc, .int .i64 sy, .bool fu])
        have HGo := hide (HI.out.grid.1.alloc (.cells #[.slice qa m qc, .int .i64 sy, .bool fu] 69))
        have hGr : w1.heap.size < wr.heap.size := HI.out.grid.1.lt
        have k0 : (0 : Int) ≤ (k : Int) := by omega
        have k1 : (k : Int) < ((4 : Nat) : Int) := by omega
        have k2 : (k : Int) < 4 := by omega
        have hmx : m ≤ 9223372036854775807 := by omega
        have HCF := hide (cell_facts HBo.out)
        have hz0 := HCF.out.1
        have hz1 := HCF.out.2.1
        have hz2 := HCF.out.2.2
        clear hm hi hle hcm
        have HN := hide (show (ws.map (Value.int .i64)).length = Nat.min m 64 by rw [List.length_map, HM.out]; exact (Nat.min_eq_left h64).symm)
        have HF := hide (show k * 64 + (ws.map (Value.int .i64)).length ≤ (gcells W M).length by rw [List.length_map, HM.out, gcells_length HI.out.grid.2]; omega)
        have HSZ := hide info1
        obtain ⟨mk, hmk, _⟩ := HI.out.grid.2.at_ hlt
        have HMK := hide fun (w4 : World) (hb : Blk w4 w1.heap.size 77 (splice (gcells W M) (k * 64) (ws.map (Value.int .i64))).toArray) => GB.mark (W := splice W (k * 64) ws) (M := M) ⟨by rw [← splice_gcells HI.out.grid.2 _ _ (by have := HM.out; omega)]; exact hb, HI.out.grid.2.splice _ _ (by have := HM.out; omega)⟩ hmk
        clear hmk
        go_upto_region 7 with (fail)
        go_region_law (refine step_copy_blk ?_ (.tmp 21) (.tmp 23) 27 27 ?_ 3 Tryz.underlying27 ?_ (some ⟨w1.heap.size, k * 64, none⟩) qa 64 64 m qc ?_ ?_ w1.heap.size (k * 64) (gcells W M) 77 HGo.out (ws.map (Value.int .i64)) ?_ ?_ ?_ ?_ ?_; rfl; rfl; exact HSZ.out; rfl; rfl; exact HN.out; exact words_src HIo.out _ _ _ rfl; exact HF.out; exact ints_one _; intro w4 hb4 hg4)
        have hg5 := grown_undrawn hg4
        have HB5 := hide (HBo.out.grown hg5 (by simp; omega))
        have HC5 := hide (cell_facts HB5.out)
        have hy0 := HC5.out.1
        have hy1 := HC5.out.2.1
        have hy2 := HC5.out.2.2
        have HM5 := hide (HMK.out w4 hb4.out)
        have hm0 := HM5.out.1
        have hm1 := HM5.out.2.1
        have hm2 := HM5.out.2.2
        have hf0 := hb4.out.frozen (256 + k * 3)
        have hf1 := hb4.out.frozen (256 + k * 3 + 1)
        have hf2 := hb4.out.frozen (256 + k * 3 + 2)
        have HEND := hide (HNX.out w4 _ m HM.out h64 hb4.out hg5)
        clear hg4 hg5 hz0 hz1 hz2 hc0 hc1 hc2
        go_wp2
        go_roundw
        case rel => exact ⟨k + 1, _, _, by omega, by go_num, HEND.out⟩
        case measure => simp [intOf]; omega
      · obtain rfl : k = 4 := by omega
        have HE := hide (HI.out.end_ HR.out.1)
        have HGL := hide (gcells_length HI.out.grid.2)
        have hRw : w.heap.size ≤ wr.heap.size := HI.out.below.size
        go_wp2_with (first
          | (refine wpList_load_blk rfl 77 _ rfl w1.heap.size rfl 77 (gcells W M) _ HI.out.grid.1 Tryz.underlying77 rfl (by rw [HT.out, HGL.out]) ?_)
          | (refine wpList_store_blk rfl 77 _ _ rfl w.heap.size rfl 77 (gcells zeroW zeroM) (gcells W M) rfl HI.out.res (by rw [HGL.out, gcells_length zeroOk]) (by rw [HT.out, HGL.out]) gcells_one ?_; intro w2 hw2 hg2; have HB2 := hide (HI.out.below.grown hg2 hRw (fun b hb => by injection hb with hb; omega)); clear hg2))
        exact bodyPost_ret (results_blk2 Tryz.results102 _ _ w.heap.size 77 (gcells W M) _ rfl hw2.out Tryz.underlying77 rfl (by rw [HT.out, HGL.out])) rfl ⟨_, rfl, HGL.out, gcells_one, (fun _ => ⟨W, M, rfl, HI.out.grid.2, HE.out⟩), HB2.out⟩
end Go.Proofs.YtfianpjoifcphaaGreat
