/-
  The program's DeviceAppend, DeviceCut.
-/
import Derived.Test.YtahpbgaeenclhaaImpZ5
namespace Go.Proofs.Ytahpbgaeenclhaa
open Go.RowKit
set_option linter.unusedVariables false
set_option maxRecDepth 100000

theorem addG {W ws : List Int} {M : List Mk} {ds : Dev} {k n m : Nat} {sy : Int} {fu : Bool} (h : GrOk W M) (hd : devG W M = ds) (hk : k < 4) (hm : M[k]? = some ((n : Int), sy, fu)) (hw : ws.length = m) (hnm : n + m ≤ 64) :
    devG (splice W (k * 64 + n) ws) (M.set k ((n : Int) + m, sy, fu)) = ds.set k ((zoneG W k ((n : Int), sy, fu)).1 ++ ws, sy, fu) := by
  subst hw
  subst hd
  rw [devG_set]
  apply List.ext_getElem?
  intro i
  have hl1 : (devG (splice W (k * 64 + n) ws) M).length = 4 := by rw [devG_length, h.marks]
  have hl2 : (devG W M).length = 4 := by rw [devG_length, h.marks]
  rw [List.getElem?_set, List.getElem?_set]
  by_cases e : k = i
  · subst e
    rw [if_pos rfl, if_pos rfl, if_pos (by omega), if_pos (by omega), zoneG_splice_at h ws sy fu hk hnm]
    unfold zoneG
    simp
  · rw [if_neg e, if_neg e]
    by_cases hi : i < 4
    · obtain ⟨mi, hmi, h0, h1⟩ := h.at_ hi
      rw [devG_get hmi, devG_get hmi, zoneG_splice h mi ws hk hi ⟨h0, h1⟩ hnm (fun e2 => absurd e2.symm e)]
    · rw [List.getElem?_eq_none (by omega), List.getElem?_eq_none (by omega)]

theorem devposti_nil {w w' : World} (hb : Below w.heap.size w w') : DevPostI w 2 [] (.returned (.tuple #[.slice none 0 0, .int .i64 2])) w' := ⟨_, _, _, [], rfl, OwnZ.nil_ _ _, rfl, hb⟩

set_option maxHeartbeats 3200000 in
theorem implAppend_no (A X : Option Addr) (n c C m d : Nat) (z : Int) (v : Bool) (ds : Dev) (ws : List Int) (w : World)
    (hw : Calls Try.prog 47 #[.slice A n c, .int .i64 z] w (GridPost w v ds)) (hx : Ints w C X m ws) (hC : C ≤ w.heap.size) (hm : m ≤ maxLen) (hno : (v && allW ws) = false) :
    Calls Try.prog 22 #[.slice A n c, .int .i64 z, .slice X m d] w (DevPostI w 2 []) := by
  have HW := hide hw
  have HT := hide gridI
  have HZ0 := hide fun (w1 : World) => (show Blk (w1.alloc (.cells ZG 61)) w1.heap.size 61 (gcells zeroW zeroM).toArray by rw [← zeroG]; exact Blk.new _ _ _)
  have HWV := hide fun (W : World) (h : Below w.heap.size w W) => implWords X m d C ws W (hx.below h hC) hm
  clear hw hx
  generalize allW ws = u at HWV hno
  go_enter Try.func22, Try.ntmps22
  go_wp2_with (first | (with_reducible refine wpList_alloc_grid rfl rfl ?_) | (with_reducible refine wpList_build_grid rfl rfl ?_))
  refine HW.out.mono ?_
  rintro e w1 ⟨cs, rfl, hlen, hone, hgood, hb1⟩
  have HL := hide hlen
  have HO := hide hone
  have HB1 := hide hb1
  clear hlen hone hgood hb1
  go_upto_region 2 with (first | (with_reducible refine wpList_alloc_grid rfl rfl ?_) | (with_reducible refine wpList_build_grid rfl rfl ?_) | (refine wpList_store_blk rfl 61 _ _ rfl w1.heap.size rfl 61 (gcells zeroW zeroM) cs rfl (HZ0.out w1) (by rw [HL.out, gcells_length zeroOk]) (by rw [HT.out, HL.out]) HO.out ?_; intro w2 hw2 hg2; have HB2 := hide ((HB1.out.alloc HB1.out.size _).grown hg2 (by have := HB1.out.size; simp; omega) (fun b hb => by injection hb with hb; have := HB1.out.size; omega)); clear hg2))
  rcases v with _ | _
  · clear hno
    go_wp2
    go_ret2
    exact devposti_nil HB2.out
  · obtain rfl : u = false := by simpa using hno
    clear hno
    go_wp2_with (first | (with_reducible refine wpList_alloc_grid rfl rfl ?_) | (with_reducible refine wpList_build_grid rfl rfl ?_))
    refine (HWV.out _ HB2.out).mono ?_
    rintro e w3 ⟨rfl, rfl⟩
    go_wp2
    go_ret2
    exact devposti_nil HB2.out

set_option maxHeartbeats 3200000 in
theorem implAppend_yes (A X : Option Addr) (n c C k m d : Nat) (q : List Int × Int × Bool) (ds : Dev) (ws : List Int) (w : World)
    (hw : Calls Try.prog 47 #[.slice A n c, .int .i64 k] w (GridPost w true ds)) (hx : Ints w C X m ws) (hC : C ≤ w.heap.size) (hm : m ≤ 1000000000000) (hk4 : k < 4) (hq : ds[k]? = some q) (hws : allW ws = true) :
    Calls Try.prog 22 #[.slice A n c, .int .i64 k, .slice X m d] w (DevPostI w (if !q.2.2 && decide (q.1.length + m ≤ 64) then 0 else 1) (if !q.2.2 && decide (q.1.length + m ≤ 64) then ds.set k (q.1 ++ ws, q.2.1, q.2.2) else ds)) := by
  have HW := hide hw
  have HT := hide gridI
  have HZ0 := hide fun (w1 : World) => (show Blk (w1.alloc (.cells ZG 61)) w1.heap.size 61 (gcells zeroW zeroM).toArray by rw [← zeroG]; exact Blk.new _ _ _)
  have HWV := hide fun (W : World) (h : Below w.heap.size w W) => hws ▸ implWords X m d C ws W (hx.below h hC) (by unfold maxLen; omega)
  have HX := hide hx
  obtain ⟨N, hN⟩ : ∃ N : Int, (if !q.2.2 && decide (q.1.length + m ≤ 64) then 0 else 1) = N := ⟨_, rfl⟩
  obtain ⟨D, hD⟩ : ∃ D : Dev, (if !q.2.2 && decide (q.1.length + m ≤ 64) then ds.set k (q.1 ++ ws, q.2.1, q.2.2) else ds) = D := ⟨_, rfl⟩
  rw [hN, hD]
  have HND := hide (And.intro hN hD)
  have HQ := hide hq
  clear hw hx hN hD hws hq
  go_enter Try.func22, Try.ntmps22
  go_wp2_with (first | (with_reducible refine wpList_alloc_grid rfl rfl ?_) | (with_reducible refine wpList_build_grid rfl rfl ?_))
  refine HW.out.mono ?_
  rintro e w1 ⟨cs, rfl, hlen, hone, hgood, hb1⟩
  have HL := hide hlen
  have HO := hide hone
  have HB1 := hide hb1
  obtain ⟨W, M, hWM⟩ := hgood rfl
  have HMK := hide fun (w2 : World) (hw : Blk w2 w1.heap.size 61 cs.toArray) (hg : (w1.alloc (.cells ZG 61)).grownBy w2 (some w1.heap.size)) => Gd.mk' hb1 hWM _ hw hg
  clear hlen hone hgood hb1 hWM
  go_upto_region 2 with (first | (with_reducible refine wpList_alloc_grid rfl rfl ?_) | (with_reducible refine wpList_build_grid rfl rfl ?_) | (refine wpList_store_blk rfl 61 _ _ rfl w1.heap.size rfl 61 (gcells zeroW zeroM) cs rfl (HZ0.out w1) (by rw [HL.out, gcells_length zeroOk]) (by rw [HT.out, HL.out]) HO.out ?_; intro w2 hw2 hg2; have HGD := hide (HMK.out w2 hw2.out hg2); clear hg2))
  clear hw2 HMK
  go_wp2_with (first | (with_reducible refine wpList_alloc_grid rfl rfl ?_) | (with_reducible refine wpList_build_grid rfl rfl ?_))
  refine (HWV.out _ HGD.out.below).mono ?_
  rintro e w3 ⟨rfl, rfl⟩
  obtain ⟨mk, hmk, hmk0, hmk1⟩ := HGD.out.grid.2.at_ hk4
  obtain ⟨mi, sy, fu⟩ := mk
  simp only at hmk0 hmk1
  obtain ⟨nn, rfl⟩ : ∃ nn : Nat, mi = (nn : Int) := ⟨mi.toNat, by omega⟩
  have hqz : q = zoneG W k ((nn : Int), sy, fu) := by
    have h1 := HQ.out
    rw [← HGD.out.dev, devG_get hmk] at h1
    injection h1 with h1
    exact h1.symm
  have hql : q.1.length = nn := by rw [hqz, zoneG_len HGD.out.grid.2 hk4 hmk1]; simp
  have hqf : q.2.2 = fu ∧ q.2.1 = sy := by rw [hqz]; exact ⟨rfl, rfl⟩
  have hnd := HND.out
  rw [hql, hqf.1, hqf.2] at hnd
  obtain ⟨hN, hD⟩ := hnd
  have HXI := hide (HX.out.below HGD.out.below hC)
  by_cases hroom : (!fu && decide (nn + m ≤ 64)) = true
  · rw [if_pos hroom] at hN hD
    have HD := hide hD
    subst hN
    simp only [Bool.and_eq_true, Bool.not_eq_true', decide_eq_true_eq] at hroom
    obtain ⟨rfl, hnm⟩ := hroom
    have HAD := hide (implAdd_yes w1.heap.size k nn m d C X sy ws W M w2 HGD.out.grid hk4 hmk HXI.out hnm)
    have HNX := hide fun (w4 : World) (hg : GB w4 w1.heap.size (splice W (k * 64 + nn) ws) (M.set k ((nn : Int) + m, sy, false))) (hgr : w2.grownBy w4 (some w1.heap.size)) => HGD.out.next hg hgr (ds' := D) (by
      rw [addG HGD.out.grid.2 HGD.out.dev hk4 hmk HX.out.1 hnm, ← HD.out, hqz])
    clear hD hmk hqz hql hqf HND HQ
    go_wp2_with (first | (with_reducible refine wpList_alloc_grid rfl rfl ?_) | (with_reducible refine wpList_build_grid rfl rfl ?_))
    refine HAD.out.mono ?_
    rintro e w4 ⟨rfl, hg4, hgr4⟩
    have HN4 := hide (HNX.out w4 hg4 hgr4)
    have HDV := hide (implDevice w1.heap.size _ _ _ hg4)
    clear hg4 hgr4
    go_wp2_with (first | (with_reducible refine wpList_alloc_grid rfl rfl ?_) | (with_reducible refine wpList_build_grid rfl rfl ?_))
    refine HDV.out.mono ?_
    rintro e w5 ⟨A2, c2, qs2, rfl, ho, hz, hb3⟩
    have HO3 := hide ho
    have HZ3 := hide hz
    have HB3 := hide hb3
    clear ho hz hb3
    go_wp2
    go_ret2
    exact HN4.out.doneI HO3.out HZ3.out HB3.out 0
  · have hroom' : (!fu && decide (nn + m ≤ 64)) = false := by simpa using hroom
    rw [if_neg hroom] at hN hD
    subst hN
    have HD := hide hD
    have HAD := hide (implAdd_no w1.heap.size k m d X nn sy fu W M w2 HGD.out.grid hk4 hmk hm (by rw [← hroom']; congr 1; exact decide_eq_decide.2 (by omega)))
    have HNX := hide fun (w4 : World) (hg : GB w4 w1.heap.size W M) (hgr : w2.grownBy w4 (some w1.heap.size)) => HGD.out.next hg hgr (ds' := D) (by rw [HGD.out.dev]; exact HD.out)
    clear hD hmk hqz hql hqf HND HQ hroom hroom'
    go_wp2_with (first | (with_reducible refine wpList_alloc_grid rfl rfl ?_) | (with_reducible refine wpList_build_grid rfl rfl ?_))
    refine HAD.out.mono ?_
    rintro e w4 ⟨rfl, hg4, hgr4⟩
    have HN4 := hide (HNX.out w4 hg4 hgr4)
    have HDV := hide (implDevice w1.heap.size _ _ _ hg4)
    clear hg4 hgr4
    go_wp2_with (first | (with_reducible refine wpList_alloc_grid rfl rfl ?_) | (with_reducible refine wpList_build_grid rfl rfl ?_))
    refine HDV.out.mono ?_
    rintro e w5 ⟨A2, c2, qs2, rfl, ho, hz, hb3⟩
    have HO3 := hide ho
    have HZ3 := hide hz
    have HB3 := hide hb3
    clear ho hz hb3
    go_wp2
    go_ret2
    exact HN4.out.doneI HO3.out HZ3.out HB3.out 1

theorem implAppend (A X : Option Addr) (n c B C m d : Nat) (z : Int) (qs : List Zq) (ws : List Int) (w : World) (hr : Zns w B A n qs) (hB : B ≤ w.heap.size) (hn : n ≤ 1000000000000) (hx : Ints w C X m ws) (hC : C ≤ w.heap.size) (hm : m ≤ 1000000000000) :
    Calls Try.prog 22 #[.slice A n c, .int .i64 z, .slice X m d] w (DevPostI w (appendN (zns qs) z ws) (appendD (zns qs) z ws)) := by
  have hw := implGridWith A n c B z qs w hr hB hn
  by_cases hok : (devV (zns qs) && inB z 0 3 && allW ws) = true
  · have h2 := hok
    rw [Bool.and_eq_true] at h2
    have hv : zoneV (zns qs) z = true := h2.1
    obtain ⟨k, q, rfl, hk4, h4, hq, hl⟩ := zone_parts hr hv
    rw [hv] at hw
    rw [appendD_yes hok (zns_get hq), appendN_yes hok (zns_get hq), hx.1]
    exact implAppend_yes A X n c C k m d q.zn (zns qs) ws w hw hx hC hm hk4 (zns_get hq) h2.2
  · have hno := Bool.eq_false_iff.2 hok
    rw [appendD_no hno, appendN_no hno]
    exact implAppend_no A X n c C m d z _ (zns qs) ws w hw hx hC (by unfold maxLen; omega) hno
end Go.Proofs.Ytahpbgaeenclhaa
