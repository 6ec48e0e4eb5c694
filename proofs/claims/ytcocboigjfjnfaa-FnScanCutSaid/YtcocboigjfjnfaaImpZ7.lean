/-
  The program's DeviceCut.
-/
import Derived.Test.YtcocboigjfjnfaaImpZ6
import Derived.Test.YtcocboigjfjnfaaSpecZ6
namespace Go.Proofs.Ytcocboigjfjnfaa
open Go.RowKit
set_option linter.unusedVariables false
set_option maxRecDepth 100000

theorem cutG {W : List Int} {k : Nat} {mi sy x : Int} {fu : Bool} (h0 : 0 ≤ x) (h1 : x ≤ mi) : cutZ x (zoneG W k (mi, sy, fu)) = zoneG W k (x, min sy x, fu) := by
  unfold cutZ zoneG
  simp only [List.take_take]
  rw [Nat.min_eq_left (by omega)]

set_option maxHeartbeats 3200000 in
theorem implCut_no0 (A : Option Addr) (n c : Nat) (z x : Int) (ds : Dev) (w : World)
    (hw : Calls Try.prog 34 #[.slice A n c, .int .i64 z] w (GridPost w false ds)) :
    Calls Try.prog 15 #[.slice A n c, .int .i64 z, .int .i64 x] w (DevPost w false []) := by
  have HW := hide hw
  have HT := hide gridI
  have HZ0 := hide fun (w1 : World) => (show Blk (w1.alloc (.cells ZG 69)) w1.heap.size 69 (gcells zeroW zeroM).toArray by rw [← zeroG]; exact Blk.new _ _ _)
  clear hw
  go_enter Try.func15, Try.ntmps15
  go_wp2_with (first | (with_reducible refine wpList_alloc_grid rfl rfl ?_) | (with_reducible refine wpList_build_grid rfl rfl ?_))
  refine HW.out.mono ?_
  rintro e w1 ⟨cs, rfl, hlen, hone, hgood, hb1⟩
  have HL := hide hlen
  have HO := hide hone
  have HB1 := hide hb1
  clear hlen hone hgood hb1
  go_wp2_with (first | (with_reducible refine wpList_alloc_grid rfl rfl ?_) | (with_reducible refine wpList_build_grid rfl rfl ?_) | (refine wpList_store_blk rfl 69 _ _ rfl w1.heap.size rfl 69 (gcells zeroW zeroM) cs rfl (HZ0.out w1) (by rw [HL.out, gcells_length zeroOk]) (by rw [HT.out, HL.out]) HO.out ?_; intro w2 hw2 hg2; have HB2 := hide ((HB1.out.alloc HB1.out.size _).grown hg2 (by have := HB1.out.size; simp; omega) (fun b hb => by injection hb with hb; have := HB1.out.size; omega)); clear hg2))
  go_ret2
  exact devpost_nil HB2.out

set_option maxHeartbeats 3200000 in
theorem implCut_at (A : Option Addr) (n c k : Nat) (x : Int) (q : List Int × Int × Bool) (ds : Dev) (w : World)
    (hw : Calls Try.prog 34 #[.slice A n c, .int .i64 k] w (GridPost w true ds)) (hk4 : k < 4) (hq : ds[k]? = some q) :
    Calls Try.prog 15 #[.slice A n c, .int .i64 k, .int .i64 x] w (DevPost w (inB x 0 q.1.length) (if inB x 0 q.1.length then modD ds k (cutZ x) else [])) := by
  have HW := hide hw
  have HT := hide gridI
  have HZ0 := hide fun (w1 : World) => (show Blk (w1.alloc (.cells ZG 69)) w1.heap.size 69 (gcells zeroW zeroM).toArray by rw [← zeroG]; exact Blk.new _ _ _)
  obtain ⟨v, hv⟩ : ∃ v, inB x 0 q.1.length = v := ⟨_, rfl⟩
  obtain ⟨D, hD⟩ : ∃ D : Dev, (if inB x 0 q.1.length then modD ds k (cutZ x) else []) = D := ⟨_, rfl⟩
  rw [hD, hv]
  have HD := hide hD
  have HV := hide hv
  have HQ := hide hq
  clear hw hD hv hq
  have k0 : (0 : Int) ≤ (k : Int) := by omega
  have k2 : (k : Int) < 4 := by omega
  go_enter Try.func15, Try.ntmps15
  go_wp2_with (first | (with_reducible refine wpList_alloc_grid rfl rfl ?_) | (with_reducible refine wpList_build_grid rfl rfl ?_))
  refine HW.out.mono ?_
  rintro e w1 ⟨cs, rfl, hlen, hone, hgood, hb1⟩
  have HL := hide hlen
  have HO := hide hone
  have HB1 := hide hb1
  obtain ⟨W, M, hWM⟩ := hgood rfl
  have HMK := hide fun (w2 : World) (hw : Blk w2 w1.heap.size 69 cs.toArray) (hg : (w1.alloc (.cells ZG 69)).grownBy w2 (some w1.heap.size)) => Gd.mk' hb1 hWM _ hw hg
  clear hlen hone hgood hb1 hWM
  go_upto_region 2 with (first | (with_reducible refine wpList_alloc_grid rfl rfl ?_) | (with_reducible refine wpList_build_grid rfl rfl ?_) | (refine wpList_store_blk rfl 69 _ _ rfl w1.heap.size rfl 69 (gcells zeroW zeroM) cs rfl (HZ0.out w1) (by rw [HL.out, gcells_length zeroOk]) (by rw [HT.out, HL.out]) HO.out ?_; intro w2 hw2 hg2; have HGD := hide (HMK.out w2 hw2.out hg2); clear hg2))
  clear hw2 HMK
  obtain ⟨mk, hmk, hmk0, hmk1⟩ := HGD.out.grid.2.at_ hk4
  obtain ⟨mi, sy, fu⟩ := mk
  simp only at hmk0 hmk1
  have hqz : q = zoneG W k (mi, sy, fu) := by
    have h1 := HQ.out
    rw [← HGD.out.dev, devG_get hmk] at h1
    injection h1 with h1
    exact h1.symm
  have hql : (q.1.length : Int) = mi := by rw [hqz, zoneG_len HGD.out.grid.2 hk4 hmk1]; simp; omega
  have HCL := hide (HGD.out.grid.mark hmk)
  have hc0 := HCL.out.1
  simp only at hc0
  have hvv := HV.out
  rw [hql] at hvv
  have hDD := HD.out
  rw [hql, hvv] at hDD
  by_cases h0 : x < 0
  · obtain rfl : v = false := by rw [← hvv]; unfold inB; simp; omega
    have HDD := hide hDD
    clear hvv hDD hql hqz hmk HV HD HQ
    go_wp2
    go_ret2
    rw [← HDD.out, if_neg (by decide)]
    exact devpost_nil HGD.out.below
  · by_cases h1 : mi < x
    · obtain rfl : v = false := by rw [← hvv]; unfold inB; simp; omega
      have HDD := hide hDD
      clear hvv hDD hql hqz hmk HV HD HQ
      go_wp2
      go_ret2
      rw [← HDD.out, if_neg (by decide)]
      exact devpost_nil HGD.out.below
    · obtain rfl : v = true := by rw [← hvv]; exact inB_true (by omega) (by omega)
      rw [if_pos rfl] at hDD
      have HCU := hide (implMarkCut w1.heap.size k x mi sy fu W M w2 HGD.out.grid hmk (by omega) (by omega))
      have HNX := hide fun (w4 : World) (hg : GB w4 w1.heap.size W (M.set k (x, min sy x, fu))) (hgr : w2.grownBy w4 (some w1.heap.size)) => HGD.out.next hg hgr (ds' := D) ((modG HGD.out.dev hmk (cutZ x) (x, min sy x, fu) (cutG (by omega) (by omega))).trans hDD)
      clear hvv hDD hql hqz hmk HV HD HQ
      go_wp2_with (first | (with_reducible refine wpList_alloc_grid rfl rfl ?_) | (with_reducible refine wpList_build_grid rfl rfl ?_))
      refine HCU.out.mono ?_
      rintro e w4 ⟨rfl, hg4, hgr4⟩
      have HN4 := hide (HNX.out w4 hg4 hgr4)
      have HDV := hide (implDevice w1.heap.size _ _ _ hg4)
      clear hg4 hgr4
      go_wp2_with (first | (with_reducible refine wpList_alloc_grid rfl rfl ?_) | (with_reducible refine wpList_build_grid rfl rfl ?_))
      refine HDV.out.mono ?_
      rintro e w5 ⟨A2, c2, qs2, rfl, ho, hz, hb3⟩
      have HO3 := hide ho
      have HZ3 := hide hz
      have HB3 := hide hb3
      clear ho hz hb3
      go_wp2
      go_ret2
      exact HN4.out.done HO3.out HZ3.out HB3.out

theorem implCut (A : Option Addr) (n c B : Nat) (z x : Int) (qs : List Zq) (w : World) (hr : Zns w B A n qs) (hB : B ≤ w.heap.size) (hn : n ≤ 1000000000000) :
    Calls Try.prog 15 #[.slice A n c, .int .i64 z, .int .i64 x] w (DevPost w (cutOk (zns qs) z x) (cutD (zns qs) z x)) := by
  have hw := implGridWith A n c B z qs w hr hB hn
  unfold cutD
  rcases hv : zoneV (zns qs) z with _ | _
  · rw [cutOk_no hv, if_neg (by decide)]
    rw [hv] at hw
    exact implCut_no0 A n c z x _ w hw
  · obtain ⟨k, q, rfl, hk4, h4, hq, hl⟩ := zone_parts hr hv
    rw [hv] at hw
    rw [cutOk_at hv (zns_get hq)]
    exact implCut_at A n c k x q.zn _ w hw hk4 (zns_get hq)
end Go.Proofs.Ytcocboigjfjnfaa
