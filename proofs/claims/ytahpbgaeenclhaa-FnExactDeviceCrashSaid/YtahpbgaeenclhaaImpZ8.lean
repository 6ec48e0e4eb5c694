/-
  The program's DeviceCrash.
-/
import Derived.Test.YtahpbgaeenclhaaImpZ7
import Derived.Test.YtahpbgaeenclhaaSpecZ7
import Derived.StillTailTactics
import Derived.IntWalk
namespace Go.Proofs.Ytahpbgaeenclhaa
open Go.RowKit
set_option linter.unusedVariables false
set_option maxRecDepth 100000

theorem crashG {W : List Int} {M : List Mk} {k x : Nat} {mi sy n : Int} {fu : Bool} (h : GrOk W M) (hk : k < 4) (h0 : 0 ≤ mi) (h1 : mi ≤ 64) (hx : sy + min n (mi - sy) = (x : Int)) (hxm : (x : Int) ≤ mi) :
    crashZ (zoneG W k (mi, sy, fu)) n = zoneG W k ((x : Int), (x : Int), fu) := by
  have hl := zoneG_len h hk (m := (mi, sy, fu)) h1
  have e : keepN (zoneG W k (mi, sy, fu)) n = (x : Int) := by
    unfold keepN
    rw [hl, Int.toNat_of_nonneg h0]
    exact hx
  unfold crashZ
  rw [e]
  unfold zoneG
  simp only [Int.toNat_natCast, List.take_take]
  rw [Nat.min_eq_left (by omega)]

set_option maxHeartbeats 3200000 in
theorem implCrash_no (A K : Option Addr) (n c m d : Nat) (v : Bool) (ds : Dev) (w : World)
    (hw : Calls Try.prog 51 #[.slice A n c] w (GridPost w v ds)) (hm : m ≤ maxLen) (hno : v = false ∨ m ≠ 4) :
    Calls Try.prog 34 #[.slice A n c, .slice K m d] w (DevPost w false []) := by
  have HW := hide hw
  have HT := hide gridI
  have HZ0 := hide fun (w1 : World) => (show Blk (w1.alloc (.cells ZG 61)) w1.heap.size 61 (gcells zeroW zeroM).toArray by rw [← zeroG]; exact Blk.new _ _ _)
  have hm' : m ≤ 9223372036854775807 := by unfold maxLen at hm; omega
  clear hw
  go_enter Try.func34, Try.ntmps34
  go_wp2_with fail
  refine HW.out.mono ?_
  rintro e w1 ⟨cs, rfl, hlen, hone, hgood, hb1⟩
  have HL := hide hlen
  have HO := hide hone
  have HB1 := hide hb1
  clear hlen hone hgood hb1
  go_upto_region 2 with (first | (with_reducible refine wpList_alloc_grid rfl rfl ?_) | (refine wpList_store_blk rfl 61 _ _ rfl w1.heap.size rfl 61 (gcells zeroW zeroM) cs rfl (HZ0.out w1) (by rw [HL.out, gcells_length zeroOk]) (by rw [HT.out, HL.out]) HO.out ?_; intro w2 hw2 hg2; have HB2 := hide ((HB1.out.alloc HB1.out.size _).grown hg2 (by have := HB1.out.size; simp; omega) (fun b hb => by injection hb with hb; have := HB1.out.size; omega)); clear hg2))
  rcases v with _ | _
  · clear hno
    go_wp2
    go_ret2
    exact devpost_nil HB2.out
  · have h4 : m ≠ 4 := by rcases hno with h | h; cases h; exact h
    have h4' : ((m : Int) != 4) = true := by simp; omega
    have h4'' : ((m : Int) == 4) = false := by simp; omega
    clear hno h4
    go_wp2
    go_ret2
    exact devpost_nil HB2.out

set_option maxHeartbeats 6400000 in
theorem implCrash_yes (A K : Option Addr) (c C d : Nat) (ds : Dev) (ks : List Int) (w : World)
    (hw : Calls Try.prog 51 #[.slice A 4 c] w (GridPost w true ds)) (hx : Ints w C K 4 ks) (hC : C ≤ w.heap.size) (hv : devV ds = true) :
    Calls Try.prog 34 #[.slice A 4 c, .slice K 4 d] w (DevPost w (crashOk ds ks) (crashD ds ks)) := by
  have HW := hide hw
  have HT := hide gridI
  have HZ0 := hide fun (w1 : World) => (show Blk (w1.alloc (.cells ZG 61)) w1.heap.size 61 (gcells zeroW zeroM).toArray by rw [← zeroG]; exact Blk.new _ _ _)
  have HX := hide hx
  have HVV := hide hv
  have HL4 := hide (devV_iff.1 hv).2
  clear hw hx hv
  go_enter Try.func34, Try.ntmps34
  go_wp2_with fail
  refine HW.out.mono ?_
  rintro e w1 ⟨cs, rfl, hlen, hone, hgood, hb1⟩
  have HL := hide hlen
  have HO := hide hone
  obtain ⟨W, M, hWM⟩ := hgood rfl
  have HMK := hide fun (w2 : World) (hw : Blk w2 w1.heap.size 61 cs.toArray) (hg : (w1.alloc (.cells ZG 61)).grownBy w2 (some w1.heap.size)) => Gd.mk' hb1 hWM _ hw hg
  clear hlen hone hgood hb1 hWM
  go_upto_region 4 with (first | (with_reducible refine wpList_alloc_grid rfl rfl ?_) | (refine wpList_store_blk rfl 61 _ _ rfl w1.heap.size rfl 61 (gcells zeroW zeroM) cs rfl (HZ0.out w1) (by rw [HL.out, gcells_length zeroOk]) (by rw [HT.out, HL.out]) HO.out ?_; intro w2 hw2 hg2; have HGD := hide (HMK.out w2 hw2.out hg2); clear hg2))
  clear hw2 HMK
  go_wp2
  go_loopw [25] (fun i wr => ∃ (k : Nat) (M' : List Mk) (ds' : Dev), k ≤ 4 ∧ i = .int .i64 k ∧ Hid (Gd w wr w1.heap.size ds' W M') ∧ Hid (ds' = (List.zipWith crashZ ds ks).take k ++ ds.drop k) ∧ Hid (∀ i, i < k → 0 ≤ ks.getD i 0)) (fun i _ => 4 - (intOf i).toNat)
  case atStart => exact ⟨0, M, ds, Nat.zero_le _, rfl, HGD.out, by show _ = _; simp, fun i hi => absurd hi (by omega)⟩
  case round =>
    obtain ⟨k, M', ds', hk, rfl, HR, HE, HNN⟩ := hrel
    by_cases hlt : k < 4
    · have k0 : (0 : Int) ≤ (k : Int) := by omega
      have k1 : (k : Int) < ((4 : Nat) : Int) := by omega
      have k2 : (k : Int) < 4 := by omega
      obtain ⟨adk, e2, hkb, hkc⟩ := (HX.out.below HR.out.below hC).at_ hlt
      subst e2
      have HKN := hide fun (h : ks.getD k 0 < 0) => crashOk_neg (ds := ds) (by rw [HX.out.1]; exact hlt) h
      obtain ⟨n, hn⟩ : ∃ n, ks.getD k 0 = n := ⟨_, rfl⟩
      rw [hn] at hkc HKN
      have HN := hide hn
      clear hn
      by_cases hneg : n < 0
      · have HF := hide (HKN.out hneg)
        clear HKN
        go_wp2
        go_ret2
        rw [show crashD ds ks = [] by unfold crashD; rw [HF.out]; rfl, HF.out]
        exact devpost_nil HR.out.below
      · clear HKN
        obtain ⟨q, hq⟩ : ∃ q, ds[k]? = some q := ⟨_, List.getElem?_eq_getElem (by rw [HL4.out]; exact hlt)⟩
        have HST := hide (crash_step HL4.out HX.out.1 hq HE.out)
        rw [HN.out] at HST
        obtain ⟨mk, hmk, hmk0, hmk1⟩ := HR.out.grid.2.at_ hlt
        obtain ⟨mi, sy, fu⟩ := mk
        simp only at hmk0 hmk1
        have hqz : q = zoneG W k (mi, sy, fu) := by
          have h1 := HST.out.1
          rw [← HR.out.dev, devG_get hmk] at h1
          injection h1 with h1
          exact h1.symm
        have hzok : zoneOk q = true := (devV_iff.1 HVV.out).1 q (List.mem_of_getElem? hq)
        have hkr := keep_rng hzok (n := n) (by omega)
        have hql : (q.1.length : Int) = mi := by rw [hqz, zoneG_len HR.out.grid.2 hlt hmk1]; simp; omega
        have hqs : q.2.1 = sy := by rw [hqz]; rfl
        unfold keepN at hkr
        rw [hql, hqs] at hkr
        obtain ⟨hr0, hr1, hr2, hr3, hr4⟩ := hkr
        obtain ⟨x, hx⟩ : ∃ x : Nat, sy + min n (mi - sy) = (x : Int) := ⟨(sy + min n (mi - sy)).toNat, by omega⟩
        rw [hx] at hr3 hr4
        have HCG := hide (crashG HR.out.grid.2 hlt hmk0 hmk1 hx hr4 (fu := fu))
        have hl : k < M'.length := (List.getElem?_eq_some_iff.1 hmk).1
        have hmin : min sy (x : Int) = sy := by omega
        have HCU := hide (fun (i : Nat) => hmin ▸ implMarkCut w1.heap.size k x mi sy fu W M' (wr.drewN i) ⟨HR.out.grid.1, HR.out.grid.2⟩ hmk (by omega) (by omega))
        have HSY := hide (fun (w3 : World) (h : GB w3 w1.heap.size W (M'.set k ((x : Int), sy, fu))) => implMarkSync w1.heap.size k x sy fu W _ w3 h (by rw [List.getElem?_set_self hl]))
        have HSS := hide (show (M'.set k ((x : Int), sy, fu)).set k ((x : Int), (x : Int), fu) = M'.set k ((x : Int), (x : Int), fu) by rw [List.set_set])
        have HNX := hide fun (w3 w4 : World) (h3 : wr.grownBy w3 (some w1.heap.size)) (hg : GB w4 w1.heap.size W (M'.set k ((x : Int), (x : Int), fu))) (h4 : w3.grownBy w4 (some w1.heap.size)) => HR.out.next hg (grown_trans' h3 h4) (ds' := (List.zipWith crashZ ds ks).take (k + 1) ++ ds.drop (k + 1)) (by
          rw [← HST.out.2, hqz, HCG.out, ← HR.out.dev, devG_set])
        have HCL := hide (HR.out.grid.mark hmk)
        have hc0 := HCL.out.1
        have hc1 := HCL.out.2.1
        simp only at hc0 hc1
        have HNN' : Hid (∀ i, i < k + 1 → 0 ≤ ks.getD i 0) := by
          intro i hi
          by_cases e : i = k
          · subst e; rw [HN.out]; omega
          · exact HNN.out i (by omega)
        clear hmk hqz hzok hql hqs hq hmin hl
        rcases (show n ≤ mi - sy ∨ mi - sy < n by omega) with hmn | hmn
        · have hsum : sy + n = (x : Int) := by omega
          have hw1 : IntKind.i64.wrap (mi - sy) = mi - sy := IntWalk.i64_in _ (by omega)
          have hw2 : IntKind.i64.wrap (sy + n) = (x : Int) := (IntWalk.i64_in _ (by omega)).trans hsum
          clear hx hsum
          go_upto_region 10 with (fail)
          go_still_tail 17, (by kernel_rfl)
          change wpList _ _ _ _ _ (wr.drewN 1)
          go_wp2_with fail
          refine (HCU.out 1).mono ?_
          rintro e w3 ⟨rfl, hg3, hgr3⟩
          have HSY3 := hide (HSY.out w3 hg3)
          have HGR3 := hide (show wr.grownBy w3 (some w1.heap.size) from ⟨hgr3.os, hgr3.tape, hgr3.output, hgr3.size, hgr3.block⟩)
          clear hg3 hgr3 hc0 hc1 hw1 hw2
          go_wp2_with fail
          refine HSY3.out.mono ?_
          rintro e w4 ⟨rfl, hg4, hgr4⟩
          have HN4 := hide (HNX.out w3 w4 HGR3.out (HSS.out ▸ hg4) hgr4)
          clear hg4 hgr4
          go_wp2
          go_roundw
          case rel => exact ⟨k + 1, _, _, by omega, by go_num, HN4.out, rfl, HNN'.out⟩
          case measure => simp [intOf]; omega
        · have hsum : sy + (mi - sy) = (x : Int) := by omega
          have hw1 : IntKind.i64.wrap (mi - sy) = mi - sy := IntWalk.i64_in _ (by omega)
          have hw2 : IntKind.i64.wrap (sy + (mi - sy)) = (x : Int) := (IntWalk.i64_in _ (by omega)).trans hsum
          clear hx hsum
          go_upto_region 10 with (fail)
          go_still_tail 17, (by kernel_rfl)
          change wpList _ _ _ _ _ (wr.drewN 1)
          go_wp2_with fail
          refine (HCU.out 1).mono ?_
          rintro e w3 ⟨rfl, hg3, hgr3⟩
          have HSY3 := hide (HSY.out w3 hg3)
          have HGR3 := hide (show wr.grownBy w3 (some w1.heap.size) from ⟨hgr3.os, hgr3.tape, hgr3.output, hgr3.size, hgr3.block⟩)
          clear hg3 hgr3 hc0 hc1 hw1 hw2
          go_wp2_with fail
          refine HSY3.out.mono ?_
          rintro e w4 ⟨rfl, hg4, hgr4⟩
          have HN4 := hide (HNX.out w3 w4 HGR3.out (HSS.out ▸ hg4) hgr4)
          clear hg4 hgr4
          go_wp2
          go_roundw
          case rel => exact ⟨k + 1, _, _, by omega, by go_num, HN4.out, rfl, HNN'.out⟩
          case measure => simp [intOf]; omega
    · obtain rfl : k = 4 := by omega
      have HOK := hide (crashOk_all HVV.out HX.out.1 HNN.out)
      have hfin : ds' = crashD ds ks := by
        rw [show crashD ds ks = List.zipWith crashZ ds ks by unfold crashD; rw [HOK.out]; rfl, HE.out, List.take_of_length_le (by rw [crash_len HL4.out HX.out.1]; exact Nat.le_refl _), List.drop_of_length_le (by rw [HL4.out]; exact Nat.le_refl _), List.append_nil]
      have HGE := hide (hfin ▸ HR.out : Gd w wr w1.heap.size (crashD ds ks) W M')
      have HDV := hide (implDevice w1.heap.size _ _ _ HR.out.grid)
      clear hfin
      go_wp2_with fail
      refine HDV.out.mono ?_
      rintro e w3 ⟨A2, c2, qs2, rfl, ho, hz, hb3⟩
      have HO3 := hide ho
      have HZ3 := hide hz
      have HB3 := hide hb3
      clear ho hz hb3
      go_wp2
      go_ret2
      rw [HOK.out]
      exact HGE.out.done HO3.out HZ3.out HB3.out

theorem implCrash (A K : Option Addr) (n c B C m d : Nat) (qs : List Zq) (ks : List Int) (w : World) (hr : Zns w B A n qs) (hB : B ≤ w.heap.size) (hn : n ≤ 1000000000) (hx : Ints w C K m ks) (hC : C ≤ w.heap.size) (hm : m ≤ maxLen) :
    Calls Try.prog 34 #[.slice A n c, .slice K m d] w (DevPost w (crashOk (zns qs) ks) (crashD (zns qs) ks)) := by
  have hw := implGridOf A n c B qs w hr hB (by omega)
  by_cases h : devV (zns qs) = true ∧ m = 4
  · obtain ⟨hv, rfl⟩ := h
    have h4 : n = 4 := by rw [← hr.1]; exact devV_four hv
    subst h4
    rw [hv] at hw
    exact implCrash_yes A K c C d (zns qs) ks w hw hx hC hv
  · have hno : crashOk (zns qs) ks = false := by
      rcases e : crashOk (zns qs) ks with _ | _
      · rfl
      · have h2 := crashOk_iff.1 e
        exact absurd ⟨h2.1, by rw [← hx.1]; exact h2.2.1⟩ h
    rw [hno, show crashD (zns qs) ks = [] by unfold crashD; rw [hno]; rfl]
    refine implCrash_no A K n c m d _ (zns qs) w hw hm ?_
    rcases hv : devV (zns qs) with _ | _
    · exact .inl rfl
    · exact .inr fun h2 => h ⟨hv, h2⟩
end Go.Proofs.Ytahpbgaeenclhaa
