/-
  Texts in one: HeapI, HeapD, HeapP, HeapT, ImpN5, ImpV4, ImpV5, ImpV6, ImpV7, LawVF. Plain.
-/
import Derived.Test.YtfianpjoifcphaaGreatMeth
import Derived.Test.YtfianpjoifcphaaGreatSortF
import Derived.Test.YtfianpjoifcphaaGreatG5
import Derived.Test.YtfianpjoifcphaaGreatG6
import Derived.Test.YtfianpjoifcphaaGreatImpV3
import Derived.Test.YtfianpjoifcphaaGreatDraft
import Derived.Test.YtfianpjoifcphaaGreatImpZ3
/- HeapI -/
namespace Go.Proofs.YtfianpjoifcphaaGreat
open Go.RowKit
set_option linter.unusedVariables false
set_option maxRecDepth 100000

/-- the merger behind the interface -/
def hpV (b : Nat) : Value := .iface 204 (.pointer (some ⟨b, 0, none⟩))

/-- lists exchanged: the same lists, in a heap -/
structure HeapPost (w : World) (base b n : Nat) (A : Option Addr) (c : Nat) (hs : List Hq) (m : Nat) (w' : World) (hs' : List Hq) : Prop where
  mg : Mg w' base b A n c hs'
  perm : hs'.Perm hs
  rest : ∀ k, m ≤ k → hs'[k]? = hs[k]?
  heap : HpOk (keyL (fnH hs')) m
  trn : Trn base w w'

theorem keyL_swp {hs : List Hq} {i j : Nat} (hi : i < hs.length) (hj : j < hs.length) : keyL (fnH (swL hs i j)) = swK (keyL (fnH hs)) i j := by
  unfold fnH
  rw [swL_map]
  exact keyL_sw (by rw [List.length_map]; exact hi) (by rw [List.length_map]; exact hj)
theorem swL_rest {α : Type} (l : List α) {i j k : Nat} (hi : i < l.length) (hj : j < l.length) (h1 : k ≠ i) (h2 : k ≠ j) : (swL l i j)[k]? = l[k]? := by rw [swL_get l hi hj, if_neg h1, if_neg h2]

theorem rest_none {w : World} {base b n c : Nat} {A : Option Addr} {ls hs : List Hq} (h : Mg w base b A n c ls) (hp : ls.Perm hs) {q : Nat} (hq : n ≤ q) : ls[q]? = hs[q]? := by
  rw [List.getElem?_eq_none (by rw [h.len]; exact hq), List.getElem?_eq_none (by rw [← hp.length_eq, h.len]; exact hq)]

set_option maxHeartbeats 6400000 in
theorem up_any (base b n c j : Nat) (A : Option Addr) (hs : List Hq) (w : World) (hm : Mg w base b A n c hs) (hj : j < n) (hu : HpUp (keyL (fnH hs)) n j) :
    Calls Tryz.prog 209 #[hpV b, .int .i64 j] w fun e w' => e = .returned (.tuple #[]) ∧ ∃ hs', HeapPost w base b n A c hs n w' hs' := by
  have hn := hm.small
  have HM := hide hm
  have HU := hide hu
  clear hm hu
  unfold hpV
  go_enter Tryz.func209, Tryz.ntmps209
  go_wp2
  go_loopw [1] (fun jv wr => ∃ (k : Nat) (ls : List Hq), k < n ∧ jv = .int .i64 k ∧ Hid (Mg wr base b A n c ls) ∧ Hid (ls.Perm hs) ∧ Hid (HpUp (keyL (fnH ls)) n k) ∧ Hid (Trn base w wr)) (fun jv _ => (intOf jv).toNat)
  case atStart => exact ⟨j, hs, hj, rfl, HM.out, List.Perm.refl _, HU.out, Trn.refl _ _⟩
  case round =>
    obtain ⟨k, ls, hk, rfl, HL, HP, HH, HT⟩ := hrel
    have c0 := HL.out.cell.cell 0
    simp only [List.getElem?_toArray, List.getElem?_cons_zero] at c0
    have hml := meth_less b n c A wr c0
    clear c0
    by_cases h0 : k = 0
    · subst h0
      have e1 : IntKind.i64.wrap (((0 : Nat) : Int) - 1) = -1 := rfl
      have e2 : ((-1 : Int)).tdiv 2 = 0 := rfl
      have e3 : IntKind.i64.wrap 0 = 0 := rfl
      go_wp2
      exact bodyPost_end (results_none Tryz.results209 _ _ _) rfl ⟨rfl, ls, HL.out, HP.out, fun q hq => rest_none HL.out HP.out hq, HH.out.done0, HT.out⟩
    · obtain ⟨m, hm⟩ : ∃ m, k = m + 1 := ⟨k - 1, by omega⟩
      obtain ⟨i, hi⟩ : ∃ i, m / 2 = i := ⟨_, rfl⟩
      have hik : i < k := by omega
      have e1 : IntKind.i64.wrap ((k : Int) - 1) = (m : Int) := IntWalk.i64_in _ (by omega) |>.trans (by omega)
      have e2 : ((m : Int)).tdiv 2 = (i : Int) := by rw [← hi]; rfl
      have e3 : IntKind.i64.wrap (i : Int) = (i : Int) := IntWalk.i64_in _ (by omega)
      have e4 : ((i : Int) == (k : Int)) = false := by simp; omega
      have hki : (k - 1) / 2 = i := by omega
      have HKI := hide hki
      have HLS := hide (less_any base b n c k i A ls wr HL.out hk (by omega))
      clear hm hi hki h0
      by_cases hl : ltF (keyL (fnH ls) k) (keyL (fnH ls) i)
      · have hd : decide (cmpF (keyL (fnH ls) k) (keyL (fnH ls) i) < 0) = true := decide_eq_true (cmpF_lt.2 hl)
        rw [hd] at HLS
        have HSTEP := hide (HH.out.step (show 0 < k by omega) hk HKI.out hl)
        clear hl hd
        go_wp2_with fail
        refine HLS.out.mono ?_
        rintro e w1 ⟨rfl, hb1⟩
        have HL1 := hide (HL.out.below hb1 HL.out.bw)
        have HT1 := hide (HT.out.trans (.of_below hb1 HL.out.bw))
        have c1 := HL1.out.cell.cell 0
        simp only [List.getElem?_toArray, List.getElem?_cons_zero] at c1
        have hms := meth_swap b n c A w1 c1
        clear c1 hb1 hml
        have HSW := hide (swap_any base b n c i k A ls w1 HL1.out (by omega) hk)
        go_wp2_with fail
        refine HSW.out.mono ?_
        rintro e w2 ⟨rfl, hm2, ht2⟩
        have HL2 := hide hm2
        have HT2 := hide (HT1.out.trans ht2)
        clear hm2 ht2 hms
        go_wp2
        go_roundw
        case rel => exact ⟨i, swL ls i k, by omega, rfl, HL2.out, (swL_perm ls i k).trans HP.out, by show HpUp _ _ _; rw [keyL_swp (by rw [HL.out.len]; omega) (by rw [HL.out.len]; exact hk)]; exact HSTEP.out, HT2.out⟩
        case measure => simp [intOf]; omega
      · have hd : decide (cmpF (keyL (fnH ls) k) (keyL (fnH ls) i) < 0) = false := decide_eq_false (fun h => hl (cmpF_lt.1 h))
        rw [hd] at HLS
        have HDONE := hide (HH.out.done (by rw [HKI.out]; exact hl))
        clear hl hd
        go_wp2_with fail
        refine HLS.out.mono ?_
        rintro e w1 ⟨rfl, hb1⟩
        have HL1 := hide (HL.out.below hb1 HL.out.bw)
        have HT1 := hide (HT.out.trans (.of_below hb1 HL.out.bw))
        clear hb1 hml
        go_wp2
        exact bodyPost_end (results_none Tryz.results209 _ _ _) rfl ⟨rfl, ls, HL1.out, HP.out, fun q hq => rest_none HL.out HP.out hq, HDONE.out, HT1.out⟩
end Go.Proofs.YtfianpjoifcphaaGreat

/- HeapD -/
namespace Go.Proofs.YtfianpjoifcphaaGreat
open Go.RowKit
set_option linter.unusedVariables false
set_option maxRecDepth 100000

theorem mg_cell {w : World} {base b n c : Nat} {A : Option Addr} {hs : List Hq} (h : Mg w base b A n c hs) : w.cell? ⟨b, 0, none⟩ = some (.slice A n c) := by
  have c0 := h.cell.cell 0
  simpa only [List.getElem?_toArray, List.getElem?_cons_zero] using c0

def DownRet (e : Ending) : Prop := ∃ v, e = .returned (.bool v)
set_option maxHeartbeats 12800000 in
theorem down_any (base b n c m : Nat) (A : Option Addr) (hs : List Hq) (w : World) (hm : Mg w base b A n c hs) (hmn : m ≤ n) (hd : HpDn (keyL (fnH hs)) m 0) :
    Calls Tryz.prog 210 #[hpV b, .int .i64 0, .int .i64 m] w fun e w' => DownRet e ∧ ∃ hs', HeapPost w base b n A c hs m w' hs' := by
  have hn := hm.small
  have HM := hide hm
  have HD := hide hd
  clear hm hd
  unfold hpV
  go_enter Tryz.func210, Tryz.ntmps210
  go_wp2
  go_loopw [7] (fun iv wr => ∃ (k : Nat) (ls : List Hq), k ≤ m ∧ iv = .int .i64 k ∧ Hid (Mg wr base b A n c ls) ∧ Hid (ls.Perm hs) ∧ Hid (∀ q, m ≤ q → ls[q]? = hs[q]?) ∧ Hid (HpDn (keyL (fnH ls)) m k) ∧ Hid (Trn base w wr)) (fun iv _ => m - (intOf iv).toNat)
  case atStart => exact ⟨0, hs, Nat.zero_le _, rfl, HM.out, List.Perm.refl _, fun q _ => rfl, HD.out, Trn.refl _ _⟩
  case round =>
    obtain ⟨k, ls, hk, rfl, HL, HP, HR, HH, HT⟩ := hrel
    obtain ⟨J1, hJ1⟩ : ∃ J, 2 * k + 1 = J := ⟨_, rfl⟩
    obtain ⟨J2, hJ2⟩ : ∃ J, 2 * k + 2 = J := ⟨_, rfl⟩
    have e1 : IntKind.i64.wrap (2 * (k : Int)) = 2 * (k : Int) := IntWalk.i64_in _ (by omega)
    have e2 : IntKind.i64.wrap (2 * (k : Int) + 1) = (J1 : Int) := IntWalk.i64_in _ (by omega) |>.trans (by omega)
    have e3 : IntKind.i64.wrap ((J1 : Int) + 1) = (J2 : Int) := IntWalk.i64_in _ (by omega) |>.trans (by omega)
    have e4 : ¬ (J1 : Int) < 0 := by omega
    by_cases h1 : J1 < m
    · have h1' : ¬ (m : Int) ≤ (J1 : Int) := by omega
      by_cases h2 : J2 < m
      · have h2' : (J2 : Int) < (m : Int) := by omega
        have hml := meth_less b n c A wr (mg_cell HL.out)
        have HLS := hide (less_any base b n c J2 J1 A ls wr HL.out (by omega) (by omega))
        by_cases hl : ltF (keyL (fnH ls) J2) (keyL (fnH ls) J1)
        · have hd : decide (cmpF (keyL (fnH ls) J2) (keyL (fnH ls) J1) < 0) = true := decide_eq_true (cmpF_lt.2 hl)
          rw [hd] at HLS
          have HCH : Hid (Child (keyL (fnH ls)) m k J2) := by show Child _ _ _ _; rw [← hJ2]; exact child_right (by omega) (by rw [show 2 * k + 2 = J2 from hJ2, show 2 * k + 1 = J1 from hJ1]; exact hl)
          clear hl hd hJ1 hJ2
          go_wp2_with fail
          refine HLS.out.mono ?_
          rintro e w1 ⟨rfl, hb1⟩
          have HL1 := hide (HL.out.below hb1 HL.out.bw)
          have HT1 := hide (HT.out.trans (.of_below hb1 HL.out.bw))
          clear hb1 hml
          have hJm : J2 < m := HCH.out.lt
          have hJk : k < J2 := by have := HCH.out.par; have := HCH.out.pos; omega
          have hml2 := meth_less b n c A w1 (mg_cell HL1.out)
          have HLS2 := hide (less_any base b n c J2 k A ls w1 HL1.out (by omega) (by omega))
          by_cases hl2 : ltF (keyL (fnH ls) J2) (keyL (fnH ls) k)
          · have hd2 : decide (cmpF (keyL (fnH ls) J2) (keyL (fnH ls) k) < 0) = true := decide_eq_true (cmpF_lt.2 hl2)
            rw [hd2] at HLS2
            have HSTEP := hide (HH.out.step HCH.out hl2)
            clear hl2 hd2
            go_wp2_with fail
            refine HLS2.out.mono ?_
            rintro e w2 ⟨rfl, hb2⟩
            have HL2 := hide (HL1.out.below hb2 HL1.out.bw)
            have HT2 := hide (HT1.out.trans (.of_below hb2 HL1.out.bw))
            have hms := meth_swap b n c A w2 (mg_cell HL2.out)
            clear hb2 hml2
            have HSW := hide (swap_any base b n c k J2 A ls w2 HL2.out (by omega) (by omega))
            go_wp2_with fail
            refine HSW.out.mono ?_
            rintro e w3 ⟨rfl, hm3, ht3⟩
            have HL3 := hide hm3
            have HT3 := hide (HT2.out.trans ht3)
            clear hm3 ht3 hms
            go_wp2
            go_roundw
            case rel => exact ⟨J2, swL ls k J2, by omega, rfl, HL3.out, (swL_perm ls k J2).trans HP.out, fun q hq => (swL_rest ls (by rw [HL.out.len]; omega) (by rw [HL.out.len]; omega) (by omega) (by omega)).trans (HR.out q hq), by show HpDn _ _ _; rw [keyL_swp (by rw [HL.out.len]; omega) (by rw [HL.out.len]; omega)]; exact HSTEP.out, HT3.out⟩
            case measure => simp [intOf]; omega
          · have hd2 : decide (cmpF (keyL (fnH ls) J2) (keyL (fnH ls) k) < 0) = false := decide_eq_false (fun h => hl2 (cmpF_lt.1 h))
            rw [hd2] at HLS2
            have HDONE := hide (HH.out.done HCH.out hl2)
            clear hl2 hd2
            go_wp2_with fail
            refine HLS2.out.mono ?_
            rintro e w2 ⟨rfl, hb2⟩
            have HL2 := hide (HL1.out.below hb2 HL1.out.bw)
            have HT2 := hide (HT1.out.trans (.of_below hb2 HL1.out.bw))
            clear hb2 hml2
            go_wp2
            go_ret
            exact ⟨⟨_, rfl⟩, ls, HL2.out, HP.out, HR.out, HDONE.out, HT2.out⟩
        · have hd : decide (cmpF (keyL (fnH ls) J2) (keyL (fnH ls) J1) < 0) = false := decide_eq_false (fun h => hl (cmpF_lt.1 h))
          rw [hd] at HLS
          have HCH : Hid (Child (keyL (fnH ls)) m k J1) := by show Child _ _ _ _; rw [← hJ1]; exact child_left (by omega) (by rw [show 2 * k + 2 = J2 from hJ2, show 2 * k + 1 = J1 from hJ1]; exact hl)
          clear hl hd hJ1 hJ2
          go_wp2_with fail
          refine HLS.out.mono ?_
          rintro e w1 ⟨rfl, hb1⟩
          have HL1 := hide (HL.out.below hb1 HL.out.bw)
          have HT1 := hide (HT.out.trans (.of_below hb1 HL.out.bw))
          clear hb1 hml
          have hJm : J1 < m := HCH.out.lt
          have hJk : k < J1 := by have := HCH.out.par; have := HCH.out.pos; omega
          have hml2 := meth_less b n c A w1 (mg_cell HL1.out)
          have HLS2 := hide (less_any base b n c J1 k A ls w1 HL1.out (by omega) (by omega))
          by_cases hl2 : ltF (keyL (fnH ls) J1) (keyL (fnH ls) k)
          · have hd2 : decide (cmpF (keyL (fnH ls) J1) (keyL (fnH ls) k) < 0) = true := decide_eq_true (cmpF_lt.2 hl2)
            rw [hd2] at HLS2
            have HSTEP := hide (HH.out.step HCH.out hl2)
            clear hl2 hd2
            go_wp2_with fail
            refine HLS2.out.mono ?_
            rintro e w2 ⟨rfl, hb2⟩
            have HL2 := hide (HL1.out.below hb2 HL1.out.bw)
            have HT2 := hide (HT1.out.trans (.of_below hb2 HL1.out.bw))
            have hms := meth_swap b n c A w2 (mg_cell HL2.out)
            clear hb2 hml2
            have HSW := hide (swap_any base b n c k J1 A ls w2 HL2.out (by omega) (by omega))
            go_wp2_with fail
            refine HSW.out.mono ?_
            rintro e w3 ⟨rfl, hm3, ht3⟩
            have HL3 := hide hm3
            have HT3 := hide (HT2.out.trans ht3)
            clear hm3 ht3 hms
            go_wp2
            go_roundw
            case rel => exact ⟨J1, swL ls k J1, by omega, rfl, HL3.out, (swL_perm ls k J1).trans HP.out, fun q hq => (swL_rest ls (by rw [HL.out.len]; omega) (by rw [HL.out.len]; omega) (by omega) (by omega)).trans (HR.out q hq), by show HpDn _ _ _; rw [keyL_swp (by rw [HL.out.len]; omega) (by rw [HL.out.len]; omega)]; exact HSTEP.out, HT3.out⟩
            case measure => simp [intOf]; omega
          · have hd2 : decide (cmpF (keyL (fnH ls) J1) (keyL (fnH ls) k) < 0) = false := decide_eq_false (fun h => hl2 (cmpF_lt.1 h))
            rw [hd2] at HLS2
            have HDONE := hide (HH.out.done HCH.out hl2)
            clear hl2 hd2
            go_wp2_with fail
            refine HLS2.out.mono ?_
            rintro e w2 ⟨rfl, hb2⟩
            have HL2 := hide (HL1.out.below hb2 HL1.out.bw)
            have HT2 := hide (HT1.out.trans (.of_below hb2 HL1.out.bw))
            clear hb2 hml2
            go_wp2
            go_ret
            exact ⟨⟨_, rfl⟩, ls, HL2.out, HP.out, HR.out, HDONE.out, HT2.out⟩
      · have h2' : ¬ (J2 : Int) < (m : Int) := by omega
        have HCH : Hid (Child (keyL (fnH ls)) m k J1) := by show Child _ _ _ _; rw [← hJ1]; exact child_one (by omega) (by omega)
        clear hJ1 hJ2
        have hJm : J1 < m := HCH.out.lt
        have hJk : k < J1 := by have := HCH.out.par; have := HCH.out.pos; omega
        have hml2 := meth_less b n c A wr (mg_cell HL.out)
        have HLS2 := hide (less_any base b n c J1 k A ls wr HL.out (by omega) (by omega))
        by_cases hl2 : ltF (keyL (fnH ls) J1) (keyL (fnH ls) k)
        · have hd2 : decide (cmpF (keyL (fnH ls) J1) (keyL (fnH ls) k) < 0) = true := decide_eq_true (cmpF_lt.2 hl2)
          rw [hd2] at HLS2
          have HSTEP := hide (HH.out.step HCH.out hl2)
          clear hl2 hd2
          go_wp2_with fail
          refine HLS2.out.mono ?_
          rintro e w2 ⟨rfl, hb2⟩
          have HL2 := hide (HL.out.below hb2 HL.out.bw)
          have HT2 := hide (HT.out.trans (.of_below hb2 HL.out.bw))
          have hms := meth_swap b n c A w2 (mg_cell HL2.out)
          clear hb2 hml2
          have HSW := hide (swap_any base b n c k J1 A ls w2 HL2.out (by omega) (by omega))
          go_wp2_with fail
          refine HSW.out.mono ?_
          rintro e w3 ⟨rfl, hm3, ht3⟩
          have HL3 := hide hm3
          have HT3 := hide (HT2.out.trans ht3)
          clear hm3 ht3 hms
          go_wp2
          go_roundw
          case rel => exact ⟨J1, swL ls k J1, by omega, rfl, HL3.out, (swL_perm ls k J1).trans HP.out, fun q hq => (swL_rest ls (by rw [HL.out.len]; omega) (by rw [HL.out.len]; omega) (by omega) (by omega)).trans (HR.out q hq), by show HpDn _ _ _; rw [keyL_swp (by rw [HL.out.len]; omega) (by rw [HL.out.len]; omega)]; exact HSTEP.out, HT3.out⟩
          case measure => simp [intOf]; omega
        · have hd2 : decide (cmpF (keyL (fnH ls) J1) (keyL (fnH ls) k) < 0) = false := decide_eq_false (fun h => hl2 (cmpF_lt.1 h))
          rw [hd2] at HLS2
          have HDONE := hide (HH.out.done HCH.out hl2)
          clear hl2 hd2
          go_wp2_with fail
          refine HLS2.out.mono ?_
          rintro e w2 ⟨rfl, hb2⟩
          have HL2 := hide (HL.out.below hb2 HL.out.bw)
          have HT2 := hide (HT.out.trans (.of_below hb2 HL.out.bw))
          clear hb2 hml2
          go_wp2
          go_ret
          exact ⟨⟨_, rfl⟩, ls, HL2.out, HP.out, HR.out, HDONE.out, HT2.out⟩
    · have h1' : (m : Int) ≤ (J1 : Int) := by omega
      have HDONE := hide (HH.out.leaf (by omega))
      clear hJ1 hJ2
      go_wp2
      go_ret
      exact ⟨⟨_, rfl⟩, ls, HL.out, HP.out, HR.out, HDONE.out, HT.out⟩
end Go.Proofs.YtfianpjoifcphaaGreat

/- HeapP -/
namespace Go.Proofs.YtfianpjoifcphaaGreat
open Go.RowKit
set_option linter.unusedVariables false
set_option maxRecDepth 100000

theorem fnH_append (hs hs2 : List Hq) : fnH (hs ++ hs2) = fnH hs ++ fnH hs2 := by unfold fnH; rw [List.map_append]
theorem keyL_left {hs : List Hq} {x : Hq} {k : Nat} (hk : k < hs.length) : keyL (fnH (hs ++ [x])) k = keyL (fnH hs) k := by
  rw [fnH_append]
  unfold keyL
  simp only [List.getD, List.getElem?_append_left (show k < (fnH hs).length by rw [fnH_length]; exact hk)]

set_option maxHeartbeats 3200000 in
theorem hpush_any (base b n c : Nat) (A : Option Addr) (hs : List Hq) (x : Hq) (w : World) (hm : Mg w base b A n c hs) (hx : LstOk w base x) (hn : n < 1000) (hk : HpOk (keyL (fnH hs)) n) :
    Calls Tryz.prog 166 #[hpV b, .iface 86 x.sl] w fun e w' => e = .returned (.tuple #[]) ∧ ∃ A2 c2 hs', HeapPost w base b (n + 1) A2 c2 (hs ++ [x]) (n + 1) w' hs' := by
  have HP := hide (push_any base b n c A hs x w hm hx hn)
  have hmp := meth_push b w
  have hl := hm.len
  have HK : Hid (HpUp (keyL (fnH (hs ++ [x]))) (n + 1) n) := hk.last _ fun k hk2 => keyL_left (by rw [hl]; exact hk2)
  clear hm hx hk hl
  generalize x.sl = xv at *
  unfold hpV
  go_enter Tryz.func166, Tryz.ntmps166
  go_wp2_with fail
  refine HP.out.mono ?_
  rintro e w1 ⟨rfl, A2, c2, hm1, ht1⟩
  have HM := hide hm1
  have HT := hide ht1
  have hml := meth_len b (n + 1) c2 A2 w1 (mg_cell hm1)
  have kw : IntKind.i64.wrap (((n + 1 : Nat) : Int) - 1) = (n : Int) := IntWalk.i64_in _ (by omega) |>.trans (by omega)
  have HU := hide (up_any base b (n + 1) c2 n A2 (hs ++ [x]) w1 hm1 (by omega) HK.out)
  obtain ⟨N1, hN1⟩ : ∃ N1, n + 1 = N1 := ⟨_, rfl⟩
  rw [hN1] at hml kw HU
  have HLN := hide (len_any A2 N1 c2 w1)
  have HNN := hide hN1
  clear hm1 ht1 hmp hN1
  unfold hpV at HU
  go_wp2_with fail
  refine HLN.out.mono ?_
  rintro e w2 ⟨rfl, rfl⟩
  go_wp2_with fail
  refine HU.out.mono ?_
  rintro e w3 ⟨rfl, hs', h⟩
  have HH := hide (show HeapPost w base b (n + 1) A2 c2 (hs ++ [x]) (n + 1) w3 hs' by rw [HNN.out]; exact ⟨h.mg, h.perm, h.rest, h.heap, HT.out.trans h.trn⟩)
  clear h
  go_wp2
  exact bodyPost_end (results_none Tryz.results166 _ _ _) rfl ⟨rfl, A2, c2, hs', HH.out⟩

/-- the first list of a heap is taken: it begins with the first frame of all -/
structure TakePost (w : World) (base b n : Nat) (hs : List Hq) (w' : World) (A2 : Option Addr) (c2 : Nat) (x : Hq) (hs' : List Hq) : Prop where
  mg : Mg w' base b A2 n c2 hs'
  perm : (x :: hs').Perm hs
  heap : HpOk (keyL (fnH hs')) n
  low : ∀ y ∈ hs', leF (hdF x.fs) (hdF y.fs)
  trn : Trn base w w'

theorem take_of {w w1 w2 w3 : World} {base b n c : Nat} {A : Option Addr} {hs hs2 ls : List Hq} {x : Hq} (hx : hs[0]? = some x) (hk : HpOk (keyL (fnH hs)) (n + 1)) (hl : hs.length = n + 1)
    (ht1 : Trn base w w1) (h2 : HeapPost w1 base b (n + 1) A c (swL hs 0 n) n w2 hs2) (he : hs2 = ls ++ [x]) (hm3 : Mg w3 base b A n c ls) (ht3 : Trn base w2 w3) : TakePost w base b n hs w3 A c x ls := by
  have hp : (ls ++ [x]).Perm hs := by rw [← he]; exact h2.perm.trans (swL_perm hs 0 n)
  have hp' : (x :: ls).Perm hs := List.perm_append_comm.trans hp
  refine ⟨hm3, hp', fun cc h0 hn => ?_, fun y hy => ?_, (ht1.trans h2.trn).trans ht3⟩
  · have := h2.heap cc h0 hn
    rw [he] at this
    rwa [keyL_left (by rw [hm3.len]; exact hn), keyL_left (by rw [hm3.len]; omega)] at this
  · have hy2 : y ∈ hs := hp'.mem_iff.1 (List.mem_cons_of_mem _ hy)
    obtain ⟨k, hky⟩ := List.getElem?_of_mem hy2
    have hkl : k < n + 1 := by rw [← hl]; exact (List.getElem?_eq_some_iff.1 hky).1
    have := hk.root k hkl
    rw [keyL_at hky, keyL_at hx] at this
    exact this
theorem last_of {α : Type} {hs2 : List α} {n : Nat} {x : α} (h : hs2[n]? = some x) (hl : hs2.length = n + 1) : ∃ ls, hs2 = ls ++ [x] ∧ ls.length = n := by
  refine ⟨hs2.take n, ?_, by rw [List.length_take]; omega⟩
  have e := List.take_append_drop n hs2
  rw [List.drop_eq_getElem_cons (by omega), List.drop_eq_nil_of_le (by omega)] at e
  rw [List.getElem?_eq_getElem (by omega)] at h
  injection h with h
  rw [h] at e
  exact e.symm

set_option maxHeartbeats 6400000 in
theorem hpop_any (base b n c : Nat) (A : Option Addr) (hs : List Hq) (x : Hq) (w : World) (hm : Mg w base b A (n + 1) c hs) (hx : hs[0]? = some x) (hk : HpOk (keyL (fnH hs)) (n + 1)) :
    Calls Tryz.prog 167 #[hpV b] w fun e w' => e = .returned (.iface 86 x.sl) ∧ ∃ A2 c2 hs', TakePost w base b n hs w' A2 c2 x hs' := by
  have hsm := hm.small
  have hlen := hm.len
  have HX := hide hx
  have HK := hide hk
  have HTOP := hide (show HpDn (keyL (fnH (swL hs 0 n))) n 0 by rw [keyL_swp (by omega) (by omega)]; exact hk.top)
  have hml := meth_len b (n + 1) c A w (mg_cell hm)
  have hms := meth_swap b (n + 1) c A w (mg_cell hm)
  have kw : IntKind.i64.wrap (((n + 1 : Nat) : Int) - 1) = (n : Int) := IntWalk.i64_in _ (by omega) |>.trans (by omega)
  have HSW := hide (swap_any base b (n + 1) c 0 n A hs w hm (by omega) (by omega))
  have HLEN := hide hlen
  obtain ⟨N1, hN1⟩ : ∃ N1, n + 1 = N1 := ⟨_, rfl⟩
  rw [hN1] at hml hms kw HSW
  have HLN := hide (len_any A N1 c w)
  have HNN := hide hN1
  clear hm hx hk hN1 hlen
  unfold hpV
  go_enter Tryz.func167, Tryz.ntmps167
  go_wp2_with fail
  refine HLN.out.mono ?_
  rintro e w0 ⟨rfl, rfl⟩
  go_wp2_with fail
  refine HSW.out.mono ?_
  rintro e w1 ⟨rfl, hm1, ht1⟩
  have HM1 := hide hm1
  have HT1 := hide ht1
  clear hm1 ht1 hml hms
  have HDN := hide (down_any base b N1 c n A (swL hs 0 n) w1 HM1.out (by have := HNN.out; omega) HTOP.out)
  unfold hpV at HDN
  go_wp2_with fail
  refine HDN.out.mono ?_
  rintro e w2 ⟨⟨v, rfl⟩, hs2, h2⟩
  have hsl : hs2[n]? = some x := by
    rw [h2.rest n (Nat.le_refl _), swL_get hs (by rw [HLEN.out]; omega) (by rw [HLEN.out]; omega) n]
    by_cases h0 : n = 0
    · rw [if_pos h0, h0]; exact HX.out
    · rw [if_neg h0, if_pos rfl]; exact HX.out
  obtain ⟨ls, hls, hll⟩ := last_of hsl (by rw [h2.mg.len, ← HNN.out])
  have HLS := hide hls
  have HH2 := hide h2
  have hmp := meth_pop b w2
  have hm2 := h2.mg
  rw [hls, ← HNN.out] at hm2
  have HPP := hide (pop_any base b n c A ls x w2 hm2)
  clear h2 hsl hls hll hm2
  go_wp2_with fail
  refine HPP.out.mono ?_
  rintro e w3 ⟨rfl, hm3, ht3⟩
  have h2' := HH2.out
  rw [← HNN.out] at h2'
  have HF := hide (take_of HX.out HK.out HLEN.out HT1.out h2' HLS.out hm3 ht3)
  clear hm3 ht3 h2' hmp
  go_wp2
  go_ret
  exact ⟨rfl, A, c, ls, HF.out⟩
end Go.Proofs.YtfianpjoifcphaaGreat

/- HeapT -/
namespace Go.Proofs.YtfianpjoifcphaaGreat
open Go.RowKit
set_option linter.unusedVariables false
set_option maxRecDepth 100000

set_option maxHeartbeats 3200000 in
theorem add_none (b c : Nat) (A : Option Addr) (w : World) : Calls Tryz.prog 112 #[.pointer (some ⟨b, 0, none⟩), .slice A 0 c] w fun e w' => e = .returned (.tuple #[]) ∧ w' = w := by
  go_enter Tryz.func112, Tryz.ntmps112
  go_wp2
  exact bodyPost_end (results_none Tryz.results112 _ _ _) rfl ⟨rfl, rfl⟩
set_option maxHeartbeats 3200000 in
theorem add_any (base b n c : Nat) (A : Option Addr) (hs : List Hq) (x : Hq) (w : World) (hm : Mg w base b A n c hs) (hx : LstOk w base x) (hn : n < 1000) (hk : HpOk (keyL (fnH hs)) n) :
    Calls Tryz.prog 112 #[.pointer (some ⟨b, 0, none⟩), x.sl] w fun e w' => e = .returned (.tuple #[]) ∧ ∃ A2 c2 hs', HeapPost w base b (n + 1) A2 c2 (hs ++ [x]) (n + 1) w' hs' := by
  have HP := hide (hpush_any base b n c A hs x w hm hx hn hk)
  have hl : 0 < x.qs.length := List.length_pos_iff.2 hx.full
  unfold hpV at HP
  clear hm hx hk
  unfold Hq.sl at *
  generalize x.addr = xa at *
  generalize x.cap = xc at *
  obtain ⟨l, hl2⟩ : ∃ l, x.qs.length = l := ⟨_, rfl⟩
  rw [hl2] at hl HP ⊢
  clear hl2
  have hl0 : (0 : Int) < (l : Int) := by omega
  go_enter Tryz.func112, Tryz.ntmps112
  go_wp2_with fail
  refine HP.out.mono ?_
  rintro e w1 ⟨rfl, A2, c2, hs', h⟩
  have HH := hide h
  clear h
  go_wp2
  exact bodyPost_end (results_none Tryz.results112 _ _ _) rfl ⟨rfl, A2, c2, hs', HH.out⟩

/-- all frames of the lists -/
def poolH (hs : List Hq) : List Fq := (hs.map Hq.qs).flatten
theorem poolH_perm {hs hs' : List Hq} (h : hs.Perm hs') : (poolH hs).Perm (poolH hs') := (h.map Hq.qs).flatten
theorem poolH_cons (h : Hq) (hs : List Hq) : poolH (h :: hs) = h.qs ++ poolH hs := rfl
theorem poolH_append (hs hs2 : List Hq) : poolH (hs ++ hs2) = poolH hs ++ poolH hs2 := by unfold poolH; rw [List.map_append, List.flatten_append]
/-- the blocks of lists -/
def inBlk (hs : List Hq) (x : Hq) : Prop := ∃ y ∈ hs, ∃ ad ad' : Addr, x.addr = some ad ∧ y.addr = some ad' ∧ ad.block = ad'.block

/-- what take does: the first frame is q -/
structure TookPost (w : World) (base b n : Nat) (hs : List Hq) (q : Fq) (w' : World) (A2 : Option Addr) (n2 c2 : Nat) (hs2 : List Hq) : Prop where
  mg : Mg w' base b A2 n2 c2 hs2
  heap : HpOk (keyL (fnH hs2)) n2
  trn : Trn base w w'
  pool : (q :: poolH hs2).Perm (poolH hs)
  blks : ∀ x ∈ hs2, inBlk hs x
  mrg : ∀ out all, Mrg out (fnH hs) all → Mrg (out ++ [q.fn]) (fnH hs2) all

theorem mrg_took {hs hs' : List Hq} {x : Hq} {q : Fq} {t : List Fq} (hq : x.qs = q :: t) (hp : (x :: hs').Perm hs) (hlow : ∀ y ∈ hs', leF (hdF x.fs) (hdF y.fs)) {out all : List Fn} (h : Mrg out (fnH hs) all) :
    Mrg (out ++ [q.fn]) (if fns t = [] then fnH hs' else fnH hs' ++ [fns t]) all := by
  have h2 := h.perms (ls' := fnH (x :: hs')) (by unfold fnH; exact hp.map _)
  have e : fnH (x :: hs') = (q.fn :: fns t) :: fnH hs' := by unfold fnH Hq.fs; simp [hq, fns]
  rw [e] at h2
  refine h2.take (fun g hg y hy => ?_)
  unfold fnH at hg
  obtain ⟨z, hz, rfl⟩ := List.mem_map.1 hg
  have := hlow z hz
  have e1 : hdF x.fs = q.fn := by unfold Hq.fs; exact hd_of hq
  have e2 : hdF z.fs = y := by
    unfold hdF
    rw [List.headD_eq_head?_getD, hy]
    rfl
  rw [e1, e2] at this
  exact this

theorem res_cell (w : World) : Blk (w.alloc (.cells #[.int .i64 0, .int .i64 0, .int .i64 0, .int .i64 0, .slice none 0 0] 156)) w.heap.size 156 #[.int .i64 0, .int .i64 0, .int .i64 0, .int .i64 0, .slice none 0 0] := Blk.new w _ _

theorem LstOk.head_at {w : World} {base : Nat} {h : Hq} {q : Fq} {t : List Fq} {ad : Addr} (hl : LstOk w base h) (hq : h.qs = q :: t) (ha : h.addr = some ad) : w.cell? ad = some (.int .i64 q.zone) ∧
    w.cell? ⟨ad.block, ad.off + 1, none⟩ = some (.int .i64 q.word) ∧ w.cell? ⟨ad.block, ad.off + 2, none⟩ = some (.int .i64 q.kind) ∧ w.cell? ⟨ad.block, ad.off + 3, none⟩ = some (.int .i64 q.seq) ∧ w.cell? ⟨ad.block, ad.off + 4, none⟩ = some q.sl := by
  obtain ⟨p, q', t', hp, hq', _, _, b0, b1, b2, b3, b4⟩ := hl.head
  rw [ha] at hp
  injection hp with hp
  subst hp
  rw [hq] at hq'
  injection hq' with hq' _
  subst hq'
  exact ⟨b0, b1, b2, b3, b4⟩
theorem LstOk.spot {w : World} {base : Nat} {h : Hq} {ad : Addr} (hl : LstOk w base h) (ha : h.addr = some ad) : ad.add 5 = ⟨ad.block, ad.off + 5, none⟩ := by
  obtain ⟨ad', _, e, _⟩ := hl.mem
  rw [ha] at e
  injection e with e
  subst e
  simp [Addr.add]

/-- the result's variable is set: five stores -/
def res5 (w : World) (R : Nat) (v0 v1 v2 v3 v4 : Value) : World := ((((w.setCell ⟨R, 0, none⟩ v0).setCell ⟨R, 1, none⟩ v1).setCell ⟨R, 2, none⟩ v2).setCell ⟨R, 3, none⟩ v3).setCell ⟨R, 4, none⟩ v4
theorem box5 {w : World} {R : Nat} {t : TypeId} {u0 u1 u2 u3 u4 : Value} (h : Blk w R t #[u0, u1, u2, u3, u4]) (v0 v1 v2 v3 v4 : Value) :
    w.cell? ⟨R, 0, none⟩ = some u0 ∧ w.frozen? ⟨R, 0, none⟩ = false ∧ (w.setCell ⟨R, 0, none⟩ v0).cell? ⟨R, 1, none⟩ = some u1 ∧ (w.setCell ⟨R, 0, none⟩ v0).frozen? ⟨R, 1, none⟩ = false ∧
      ((w.setCell ⟨R, 0, none⟩ v0).setCell ⟨R, 1, none⟩ v1).cell? ⟨R, 2, none⟩ = some u2 ∧ ((w.setCell ⟨R, 0, none⟩ v0).setCell ⟨R, 1, none⟩ v1).frozen? ⟨R, 2, none⟩ = false ∧
      (((w.setCell ⟨R, 0, none⟩ v0).setCell ⟨R, 1, none⟩ v1).setCell ⟨R, 2, none⟩ v2).cell? ⟨R, 3, none⟩ = some u3 ∧ (((w.setCell ⟨R, 0, none⟩ v0).setCell ⟨R, 1, none⟩ v1).setCell ⟨R, 2, none⟩ v2).frozen? ⟨R, 3, none⟩ = false ∧
      ((((w.setCell ⟨R, 0, none⟩ v0).setCell ⟨R, 1, none⟩ v1).setCell ⟨R, 2, none⟩ v2).setCell ⟨R, 3, none⟩ v3).cell? ⟨R, 4, none⟩ = some u4 ∧ ((((w.setCell ⟨R, 0, none⟩ v0).setCell ⟨R, 1, none⟩ v1).setCell ⟨R, 2, none⟩ v2).setCell ⟨R, 3, none⟩ v3).frozen? ⟨R, 4, none⟩ = false ∧
      Blk (res5 w R v0 v1 v2 v3 v4) R t #[v0, v1, v2, v3, v4] ∧ w.grownBy (res5 w R v0 v1 v2 v3 v4) (some R) := by
  have h1 := h.set_ 0 v0
  have h2 := h1.set_ 1 v1
  have h3 := h2.set_ 2 v2
  have h4 := h3.set_ 3 v3
  have h5 := h4.set_ 4 v4
  simp at h1 h2 h3 h4 h5
  refine ⟨h.cell 0, h.frozen 0, h1.cell 1, h1.frozen 1, h2.cell 2, h2.frozen 2, h3.cell 3, h3.frozen 3, h4.cell 4, h4.frozen 4, h5, ?_⟩
  unfold res5
  exact ((((grown1M _ _ _ _).trans (grown1M _ _ _ _)).trans (grown1M _ _ _ _)).trans (grown1M _ _ _ _)).trans (grown1M _ _ _ _)
theorem Trn.turn_new {base R : Nat} {w w1 w2 : World} (h : Trn base w w1) (hg : w1.grownBy w2 (some R)) (hR : w.heap.size ≤ R) (hb : base ≤ w.heap.size) : Trn base w w2 :=
  ⟨h.below.grown hg (Nat.le_trans hb h.size) (by intro q hq; injection hq with hq; omega), fun k cs t e h1 h2 => (h.keep k cs t e h1 h2).grown hg (by intro e2; injection e2 with e2; have := e.lt; omega)⟩
theorem Mg.turn_new {base b n c R : Nat} {A : Option Addr} {hs : List Hq} {w w2 : World} {cs : Array Value} (h : Mg w base b A n c hs) (hg : w.grownBy w2 (some R)) (hR : Blk w R 156 cs) (hl : ∀ x ∈ hs, ∀ ad, x.addr = some ad → ad.block ≠ R) : Mg w2 base b A n c hs := by
  have ne : ∀ {k : Nat} {t : TypeId} {cs' : Array Value}, Blk w k t cs' → t ≠ 156 → k ≠ R := by
    intro k t cs' hk ht e
    subst e
    unfold Blk at hk hR
    rw [hR] at hk
    injection hk with hk
    injection hk with _ e4
    exact ht e4.symm
  refine ⟨h.cell.grown hg (by intro e; injection e with e; exact ne h.cell (by decide) e), ⟨h.row.1, ?_⟩, h.len, h.bb, fun x hx => ?_, h.small⟩
  · rcases h.row.2 with h0 | ⟨g, cap, cur, e1, e2, e3, e4⟩
    · exact .inl h0
    · have hb : Blk w g 86 cur := e3
      exact .inr ⟨g, cap, cur, e1, e2, hb.grown hg (by intro e; injection e with e; exact ne hb (by decide) e), e4⟩
  · obtain ⟨ad, cs', e, e2, hb, hk, hc⟩ := (h.lst x hx).mem
    have hne := hl x hx ad e
    have hk' := hk.grown hg (by intro e3; injection e3 with e3; exact hne e3)
    exact ⟨(h.lst x hx).full, (h.lst x hx).cap, ad, cs', e, e2, hb, hk', fun j u hu => (World.cell?_of_block (by rw [block_of_add]; unfold Blk at hk hk'; rw [hk, hk'])).trans (hc j u hu)⟩

/-- all of it together: behind the first frame's list the others, with what is left of it -/
theorem took_of {w w2 w3 : World} {base b n n2 c2 R : Nat} {A2 : Option Addr} {hs hs' hs2 : List Hq} {x : Hq} {q : Fq} {t : List Fq} {cs : Array Value} (hw : ∀ y ∈ hs, LstOk w base y) (hbw : base ≤ w.heap.size) (hq : x.qs = q :: t) (hp : (x :: hs').Perm hs) (hR : w.heap.size ≤ R)
    (hm : Mg w2 base b A2 n2 c2 hs2) (hk : HpOk (keyL (fnH hs2)) n2) (ht : Trn base w w2) (hRb : Blk w2 R 156 cs) (hg : w2.grownBy w3 (some R))
    (hmr : ∀ out all, Mrg out (fnH hs) all → Mrg (out ++ [q.fn]) (if fns t = [] then fnH hs' else fnH hs' ++ [fns t]) all)
    (hcase : (t = [] ∧ hs2 = hs') ∨ (t ≠ [] ∧ ∃ x' : Hq, hs2.Perm (hs' ++ [x']) ∧ x'.qs = t ∧ inBlk [x] x')) : TookPost w base b n hs q w3 A2 n2 c2 hs2 := by
  have hxs : ∀ y ∈ x :: hs', y ∈ hs := fun y hy => hp.mem_iff.1 hy
  have self : ∀ y ∈ hs, inBlk hs y := fun y hy => by
    obtain ⟨ad, _, e, _⟩ := (hw y hy).mem
    exact ⟨y, hy, ad, ad, e, e, rfl⟩
  have hblk : ∀ y ∈ hs2, inBlk hs y := by
    rcases hcase with ⟨_, rfl⟩ | ⟨_, x', hp2, _, z, hz, ad, ad', e1, e2, e3⟩
    · exact fun y hy => self y (hxs y (List.mem_cons_of_mem _ hy))
    · intro y hy
      have := hp2.mem_iff.1 hy
      simp only [List.mem_append, List.mem_singleton] at this
      rcases this with h | rfl
      · exact self y (hxs y (List.mem_cons_of_mem _ h))
      · simp only [List.mem_singleton] at hz
        subst hz
        exact ⟨z, hxs z List.mem_cons_self, ad, ad', e1, e2, e3⟩
  have hpool : (q :: poolH hs2).Perm (poolH hs) := by
    refine List.Perm.trans ?_ (poolH_perm hp)
    rw [poolH_cons, hq]
    rcases hcase with ⟨rfl, rfl⟩ | ⟨_, x', hp2, rfl, _⟩
    · exact List.Perm.refl _
    · refine List.Perm.cons q ((poolH_perm hp2).trans ?_)
      rw [poolH_append]
      have e : poolH [x'] = x'.qs := by simp [poolH]
      rw [e]
      exact List.perm_append_comm
  refine ⟨hm.turn_new hg hRb (fun y hy ad e => ?_), hk, ht.turn_new hg hR hbw, hpool, hblk, fun out all h => ?_⟩
  · obtain ⟨z, hz, ad1, ad2, e1, e2, e3⟩ := hblk y hy
    obtain ⟨ad3, e4, hlt⟩ := (hw z hz).lt
    rw [e] at e1
    injection e1 with e1
    rw [e2] at e4
    injection e4 with e4
    rw [e1, e3, e4]
    omega
  · have h2 := hmr out all h
    rcases hcase with ⟨rfl, rfl⟩ | ⟨hne, x', hp2, rfl, _⟩
    · rw [if_pos (show fns [] = [] from rfl)] at h2; exact h2
    · rw [if_neg (by unfold fns; simpa using hne)] at h2
      refine h2.perms ?_
      have e : fnH hs' ++ [fns x'.qs] = fnH (hs' ++ [x']) := by rw [fnH_append]; rfl
      rw [e]
      unfold fnH
      exact hp2.map _

set_option maxHeartbeats 6400000 in
theorem take_any (base b n c : Nat) (A : Option Addr) (hs : List Hq) (x : Hq) (q : Fq) (t : List Fq) (w : World) (hm : Mg w base b A (n + 1) c hs) (hx : hs[0]? = some x) (hk : HpOk (keyL (fnH hs)) (n + 1)) (hq : x.qs = q :: t) :
    Calls Tryz.prog 113 #[.pointer (some ⟨b, 0, none⟩)] w fun e w' => e = .returned (.agg #[.int .i64 q.zone, .int .i64 q.word, .int .i64 q.kind, .int .i64 q.seq, q.sl]) ∧ ∃ A2 n2 c2 hs2, TookPost w base b n hs q w' A2 n2 c2 hs2 := by
  obtain ⟨W0, hW0⟩ : ∃ W0, w.alloc (.cells #[.int .i64 0, .int .i64 0, .int .i64 0, .int .i64 0, .slice none 0 0] 156) = W0 := ⟨_, rfl⟩
  have HB0 := hide (show Below w.heap.size w W0 by rw [← hW0]; exact below_new w _)
  have HRC := hide (show Blk W0 w.heap.size 156 #[.int .i64 0, .int .i64 0, .int .i64 0, .int .i64 0, .slice none 0 0] by rw [← hW0]; exact res_cell w)
  have HM0 := hide (hm.below HB0.out hm.bw)
  have HT0 := hide (Trn.of_below HB0.out hm.bw)
  have HWL := hide hm.lst
  have HLX := hide ((hm.lst x (List.mem_of_getElem? hx)).trn HT0.out)
  have HPOP := hide (hpop_any base b n c A hs x W0 HM0.out hx hk)
  have hsm := hm.small
  have HQ := hide hq
  have HXI := hide (List.mem_of_getElem? hx)
  have hbw := hm.bw
  clear hm hx hk hq
  obtain ⟨ad, hxa⟩ : ∃ ad, x.addr = some ad := by obtain ⟨ad, _, e, _⟩ := HLX.out.mem; exact ⟨ad, e⟩
  have HXA := hide hxa
  have hTA : ∀ W, Sem.run Tryz.prog (Instr.typeAssert (.iface 86 (.slice (some ad) x.qs.length x.cap)) 20 86 false) W = .ok (.slice (some ad) x.qs.length x.cap) W := fun W => by kernel_rfl
  unfold hpV at HPOP
  unfold Hq.sl at HPOP
  rw [hxa] at HPOP
  have hcap := HLX.out.cap
  have hlq : x.qs.length = t.length + 1 := by rw [HQ.out]; rfl
  clear hxa
  have c1 : (1 : Int) ≤ (x.qs.length : Int) := by omega
  have c2' : (x.qs.length : Int) ≤ (x.cap : Int) := by omega
  have c3 : (1 : Int) ≤ (x.cap : Int) := by omega
  have HLQ := hide hlq
  have HCAP := hide hcap
  clear hlq hcap
  obtain ⟨L, hL⟩ : ∃ L, x.qs.length = L := ⟨_, rfl⟩
  obtain ⟨C, hC⟩ : ∃ C, x.cap = C := ⟨_, rfl⟩
  rw [hL, hC] at hTA
  rw [hL, hC] at HPOP
  rw [hL] at c1
  rw [hL, hC] at c2'
  rw [hC] at c3
  have HLL := hide hL
  have HCC := hide hC
  clear hL hC
  go_enter Tryz.func113, Tryz.ntmps113
  go_wp2_with fail
  refine HPOP.out.mono ?_
  rintro e w1 ⟨rfl, A2, c2, hs', hp⟩
  have HTP := hide hp
  have HT1 := hide (HT0.out.trans hp.trn)
  have HX1 := hide (HLX.out.trn hp.trn)
  have HR1 := hide (hp.trn.blk HRC.out (by decide) (by decide))
  have HMR := hide fun (out all : List Fn) (h : Mrg out (fnH hs) all) => mrg_took HQ.out hp.perm hp.low h
  have hsz : w.heap.size + 1 ≤ w1.heap.size := by have := hp.trn.size; have e : W0.heap.size = w.heap.size + 1 := (by rw [← hW0]; simp)
                                                  omega
  clear hp
  rcases t with _ | ⟨q2, t⟩
  · have hL1 : L = 1 := by rw [← HLL.out, HLQ.out]; rfl
    subst hL1
    go_wp2_with fail
    all_goals
      refine (add_none _ _ _ _).mono ?_
      rintro e w2 ⟨rfl, rfl⟩
      have HX2 := hide HX1.out
      have HR2 := hide HR1.out
      have HM2 := hide HTP.out.mg
      have HK2 := hide HTP.out.heap
      have HT2 := hide HT1.out
      have HCASE : Hid ((([] : List Fq) = [] ∧ hs' = hs') ∨ (([] : List Fq) ≠ [] ∧ ∃ x' : Hq, hs'.Perm (hs' ++ [x']) ∧ x'.qs = [] ∧ inBlk [x] x')) := .inl ⟨rfl, rfl⟩
      have hx2 := (HX2.out.head_at HQ.out HXA.out)
      obtain ⟨d0, d1, d2, d3, d4⟩ := hx2
      have HF := hide (fun v0 v1 v2 v3 v4 => box5 HR2.out v0 v1 v2 v3 v4)
      obtain ⟨qz, qa, qk, qs, qv, qp, qc⟩ := q
      simp only [Fq.sl] at d0 d1 d2 d3 d4
      obtain ⟨ql, hql⟩ : ∃ l, qv.length = l := ⟨_, rfl⟩
      rw [hql] at d4
      obtain ⟨r0, f0, r1, f1, r2, f2, r3, f3, r4, f4, hfb, hfg⟩ := HF.out (.int .i64 qz) (.int .i64 qa) (.int .i64 qk) (.int .i64 qs) (.slice qp ql qc)
      have HFB := hide hfb
      have z0 := hfb.cell 0
      have z1 := hfb.cell 1
      have z2 := hfb.cell 2
      have z3 := hfb.cell 3
      have z4 := hfb.cell 4
      simp only [List.getElem?_toArray, List.getElem?_cons_zero, List.getElem?_cons_succ] at z0 z1 z2 z3 z4
      have HTOOK := hide (took_of (n := n) HWL.out hbw HQ.out HTP.out.perm (Nat.le_refl _) HM2.out HK2.out HT2.out HR2.out hfg HMR.out HCASE.out)
      unfold res5 at z0 z1 z2 z3 z4 HTOOK
      have HQL := hide hql
      clear hfb hfg hql HF
      go_wp2
      refine bodyPost_ret (v := .agg #[.int .i64 qz, .int .i64 qa, .int .i64 qk, .int .i64 qs, .slice qp ql qc]) (by simp [results, Tryz.results113, go_sem, z0, z1, z2, z3, z4]) rfl ?_
      exact ⟨by rw [← HQL.out]; rfl, _, _, _, _, HTOOK.out⟩
  · have hL2 : 1 < L := by rw [← HLL.out, HLQ.out]; simp
    have hC2 : C ≠ 1 := by have := HCAP.out.1; rw [HLL.out, HCC.out] at this; omega
    have hl2 : (q2 :: t).length = L - 1 := by rw [← HLL.out, HLQ.out]; rfl
    have HAD := hide (add_any base b n c2 A2 hs' ⟨some (ad.add 5), x.cap - 1, q2 :: t⟩ w1 HTP.out.mg (HX1.out.tail HQ.out ad HXA.out) (by omega) HTP.out.heap)
    unfold Hq.sl at HAD
    simp only at HAD
    rw [hl2, HCC.out, HX1.out.spot HXA.out] at HAD
    clear hl2
    go_wp2_with fail
    refine HAD.out.mono ?_
    rintro e w2 ⟨rfl, A3, c4, hs3, h3⟩
    have HM2 := hide h3.mg
    have HK2 := hide h3.heap
    have HT2 := hide (HT1.out.trans h3.trn)
    have HX2 := hide (HX1.out.trn h3.trn)
    have HR2 := hide (h3.trn.blk HR1.out (by decide) (by decide))
    have HCASE : Hid (((q2 :: t : List Fq) = [] ∧ hs3 = hs') ∨ ((q2 :: t : List Fq) ≠ [] ∧ ∃ x' : Hq, hs3.Perm (hs' ++ [x']) ∧ x'.qs = q2 :: t ∧ inBlk [x] x')) :=
      .inr ⟨by simp, ⟨some ⟨ad.block, ad.off + 5, none⟩, C - 1, q2 :: t⟩, h3.perm, rfl, x, List.mem_singleton.2 rfl, ⟨ad.block, ad.off + 5, none⟩, ad, rfl, HXA.out, rfl⟩
    clear h3 HAD
    have hx2 := (HX2.out.head_at HQ.out HXA.out)
    obtain ⟨d0, d1, d2, d3, d4⟩ := hx2
    have HF := hide (fun v0 v1 v2 v3 v4 => box5 HR2.out v0 v1 v2 v3 v4)
    obtain ⟨qz, qa, qk, qs, qv, qp, qc⟩ := q
    simp only [Fq.sl] at d0 d1 d2 d3 d4
    obtain ⟨ql, hql⟩ : ∃ l, qv.length = l := ⟨_, rfl⟩
    rw [hql] at d4
    obtain ⟨r0, f0, r1, f1, r2, f2, r3, f3, r4, f4, hfb, hfg⟩ := HF.out (.int .i64 qz) (.int .i64 qa) (.int .i64 qk) (.int .i64 qs) (.slice qp ql qc)
    have HFB := hide hfb
    have z0 := hfb.cell 0
    have z1 := hfb.cell 1
    have z2 := hfb.cell 2
    have z3 := hfb.cell 3
    have z4 := hfb.cell 4
    simp only [List.getElem?_toArray, List.getElem?_cons_zero, List.getElem?_cons_succ] at z0 z1 z2 z3 z4
    have HTOOK := hide (took_of (n := n) HWL.out hbw HQ.out HTP.out.perm (Nat.le_refl _) HM2.out HK2.out HT2.out HR2.out hfg HMR.out HCASE.out)
    unfold res5 at z0 z1 z2 z3 z4 HTOOK
    have HQL := hide hql
    clear hfb hfg hql HF
    go_wp2
    refine bodyPost_ret (v := .agg #[.int .i64 qz, .int .i64 qa, .int .i64 qk, .int .i64 qs, .slice qp ql qc]) (by simp [results, Tryz.results113, go_sem, z0, z1, z2, z3, z4]) rfl ?_
    exact ⟨by rw [← HQL.out]; rfl, _, _, _, _, HTOOK.out⟩
end Go.Proofs.YtfianpjoifcphaaGreat

/- ImpN5 -/
namespace Go.Proofs.YtfianpjoifcphaaGreat
open Go.RowKit
set_option linter.unusedVariables false
set_option maxRecDepth 100000

/-! ### Plain: the order of the scans is the document's -/
theorem scan_ah (z : Int) (xs : List Int) : ∀ a, (scanW z xs a).1.Pairwise ahF ∧ ∀ f ∈ (scanW z xs a).1, f.1 = z ∧ (a : Int) ≤ f.2.1 :=
  scan_ind (fun a h => by rw [scanW_no z h]; exact ⟨List.Pairwise.nil, by simp⟩) (fun a h ih => by
    rw [scanW_yes z h]
    refine ⟨List.pairwise_cons.2 ⟨fun g hg => ?_, ih.1⟩, fun f hf => ?_⟩
    · have := ih.2 g hg
      exact .inr ⟨this.1.symm, by show ((a : Nat) : Int) < g.2.1; have := this.2; omega⟩
    · simp only [List.mem_cons] at hf
      rcases hf with rfl | hf
      · exact ⟨rfl, Int.le_refl _⟩
      · have := ih.2 f hf; exact ⟨this.1, by omega⟩)
theorem scansZ_at (d : Dev) {k i : Nat} {g : List Fn} (h : (scansZ d k)[i]? = some g) : i < k ∧ g = (scanW (i : Int) (d.getD i ([], 0, false)).1 0).1 := by
  unfold scansZ at h
  rw [List.getElem?_map] at h
  rcases hr : (List.range k)[i]? with _ | j
  · rw [hr] at h; cases h
  · rw [hr] at h
    obtain ⟨hl, e⟩ := List.getElem?_eq_some_iff.1 hr
    rw [List.getElem_range] at e
    subst e
    rw [List.length_range] at hl
    injection h with h
    exact ⟨hl, h.symm⟩
theorem devF_le (d : Dev) : (devF d).Pairwise leF := by
  refine orderF_le _ (fun i j a b hij ha hb f hf g hg => ?_) (fun g hg => ?_)
  · obtain ⟨_, rfl⟩ := scansZ_at d ha
    obtain ⟨_, rfl⟩ := scansZ_at d hb
    have h1 := ((scan_ah _ _ 0).2 f hf).1
    have h2 := ((scan_ah _ _ 0).2 g hg).1
    omega
  · obtain ⟨k, hk⟩ := List.getElem?_of_mem hg
    obtain ⟨_, rfl⟩ := scansZ_at d hk
    exact (scan_ah _ _ 0).1
theorem scan_key (d : Dev) (k : Nat) : ∀ f ∈ (scansZ d k).flatten, ∀ g ∈ (scansZ d k).flatten, f.1 = g.1 → f.2.1 = g.2.1 → f = g := by
  intro f hf g hg h1 h2
  obtain ⟨a, ha, hfa⟩ := List.mem_flatten.1 hf
  obtain ⟨b, hb, hgb⟩ := List.mem_flatten.1 hg
  obtain ⟨i, hi⟩ := List.getElem?_of_mem ha
  obtain ⟨j, hj⟩ := List.getElem?_of_mem hb
  obtain ⟨_, rfl⟩ := scansZ_at d hi
  obtain ⟨_, rfl⟩ := scansZ_at d hj
  have e1 := ((scan_ah _ _ 0).2 f hfa).1
  have e2 := ((scan_ah _ _ 0).2 g hgb).1
  obtain rfl : i = j := by omega
  obtain ⟨x, _, rfl⟩ := scan_mem _ _ _ f hfa
  obtain ⟨y, _, rfl⟩ := scan_mem _ _ _ g hgb
  have : (x : Int) = (y : Int) := h2
  obtain rfl : x = y := by omega
  rfl
theorem mrg_devF {out : List Fn} {d : Dev} {all : List Fn} (h : Mrg out [] all) (ha : all.Perm (scansZ d d.length).flatten) : out = devF d := by
  obtain ⟨h1, h2⟩ := h.end_
  exact orderF_eq (devF_le d) (scan_key d d.length) (h1.trans ha) h2

/-! ### What ScanDevice knows -/
/-- frames with bodies of their own, apart from each other -/
def Apart (qs : List Fq) : Prop := qs.Pairwise fun q r => ∀ g, q.sl.ownBlock = some g → r.sl.ownBlock ≠ some g
theorem Apart.perm {qs rs : List Fq} (h : Apart qs) (hp : rs.Perm qs) : Apart rs := (hp.symm.pairwise_iff (fun {a b} hab g hb e => hab g e hb)).1 h
theorem OwnF.apart {w : World} {base n c : Nat} {A : Option Addr} {qs : List Fq} (h : OwnF w base A n c qs) : Apart qs := by
  unfold Apart
  rw [List.pairwise_iff_getElem]
  intro i j hi hj hij g1 hg1
  exact h.sep i j _ _ (List.getElem?_eq_getElem hi) (List.getElem?_eq_getElem hj) (by omega) g1 hg1
theorem OwnF.owns {w : World} {base n c : Nat} {A : Option Addr} {qs : List Fq} (h : OwnF w base A n c qs) : ∀ q ∈ qs, Own w base q.addr q.vals.length q.cap q.vals := fun q hq => by
  obtain ⟨k, hk⟩ := List.getElem?_of_mem hq
  exact h.own k q hk

/-- the lists that are in the heap: their bodies are the call's own -/
structure Pool (w : World) (base b : Nat) (A : Option Addr) (n c : Nat) (hs : List Hq) : Prop where
  mg : Mg w base b A n c hs
  heap : HpOk (keyL (fnH hs)) n
  own : ∀ q ∈ poolH hs, Own w base q.addr q.vals.length q.cap q.vals
  apart : Apart (poolH hs)
theorem Pool.below {w w' : World} {base b n c : Nat} {A : Option Addr} {hs : List Hq} (h : Pool w base b A n c hs) (hb : Below w.heap.size w w') : Pool w' base b A n c hs :=
  ⟨h.mg.below hb h.mg.bw, h.heap, fun q hq => (h.own q hq).below hb, h.apart⟩

/-- a row of the call's own as a list of the heap -/
theorem OwnF.lst {w : World} {base n c : Nat} {A : Option Addr} {qs : List Fq} (h : OwnF w base A n c qs) (hn : 0 < n) : LstOk w base ⟨A, c, qs⟩ := by
  rcases h.row.2 with ⟨hv, h0⟩ | ⟨g, cap, cur, hv, hb, hh, hc, hm, hs, ht⟩
  · omega
  · injection hv with h1 h2 h3
    subst h1
    refine ⟨fun e => ?_, ⟨by show qs.length ≤ c; rw [h.len]; exact h.cap.1, h.cap.2⟩, ⟨g, 0, none⟩, cur, rfl, rfl, hb, hh, fun j u hu => h.row.cells rfl j u hu⟩
    have hl := h.len
    have e' : qs = [] := e
    rw [e'] at hl
    simp at hl
    omega
theorem HeapPost.pool {w w' : World} {base b n c : Nat} {A : Option Addr} {hs hs' : List Hq} {x : Hq} (h : HeapPost w base b n A c (hs ++ [x]) n w' hs') (hown : ∀ q ∈ poolH hs ++ x.qs, Own w base q.addr q.vals.length q.cap q.vals) (hap : Apart (poolH hs ++ x.qs)) :
    Pool w' base b A n c hs' ∧ (poolH hs').Perm (poolH hs ++ x.qs) := by
  have e : (poolH hs').Perm (poolH hs ++ x.qs) := by
    have h1 := poolH_perm h.perm
    rw [poolH_append] at h1
    have e2 : poolH [x] = x.qs := by simp [poolH]
    rwa [e2] at h1
  exact ⟨⟨h.mg, h.heap, fun q hq => h.trn.own (hown q (e.mem_iff.1 hq)), hap.perm e⟩, e⟩

theorem poolH_none : poolH [] = [] := rfl
/-- a new heap: its cell alone -/
theorem Mg.new (w : World) : Mg (w.alloc (.cells #[.slice none 0 0] 152)) w.heap.size w.heap.size none 0 0 [] :=
  ⟨Blk.new w _ _, World.ownsRow_nil _ _ _ _, rfl, Nat.le_refl _, by simp, by omega⟩

/-- what the second loop knows: what is in the heap, what was taken -/
structure Run_ImpN5 (wr : World) (b : Nat) (A2 : Option Addr) (m2 c2 : Nat) (hs : List Hq) (A8 : Option Addr) (j c8 : Nat) (rs : List Fq) (all : List Fn) (N : Nat) : Prop where
  pool : Pool wr b b A2 m2 c2 hs
  own : OwnF wr b A8 j c8 rs
  apart : Apart (rs ++ poolH hs)
  far : ∀ x ∈ hs, ∀ ad, x.addr = some ad → (Value.slice A8 j c8).ownBlock ≠ some ad.block
  mrg : Mrg (fns rs) (fnH hs) all
  num : j + (poolH hs).length = N
section
variable {wr w1 w2 : World} {b m2 c2 j c8 N n n3 c3 c9 : Nat} {A2 A3 A8 A9 : Option Addr} {hs hs2 : List Hq} {rs : List Fq} {all : List Fn} {q : Fq}
theorem Run_ImpN5.news (h : Run_ImpN5 wr b A2 m2 c2 hs A8 j c8 rs all N) (ht : TookPost wr b b n hs q w1 A3 n3 c3 hs2) :
    NewF (w1.alloc (.cells #[.int .i64 q.zone, .int .i64 q.word, .int .i64 q.kind, .int .i64 q.seq, q.sl] 156)) b j A8 c8 rs (some ⟨w1.heap.size, 0, none⟩) 1 [q] := by
  have hq : q ∈ poolH hs := ht.pool.mem_iff.1 List.mem_cons_self
  refine NewF.one ((ht.trn.ownF h.own).alloc _) (fnd_cells w1 q) ((ht.trn.own (h.pool.own q hq)).alloc _) (fun k r hk g hg => ?_)
  have hp := List.pairwise_append.1 h.apart
  exact hp.2.2 r (List.mem_of_getElem? hk) q hq g hg
theorem Mg.app {w w' : World} {base b n c j c8 : Nat} {A A8 : Option Addr} {hs : List Hq} {rs : List Fq} (h : Mg w base b A n c hs) (ho : OwnF w base A8 j c8 rs) (hg : w.grownBy w' (Value.slice A8 j c8).ownBlock)
    (far : ∀ x ∈ hs, ∀ ad, x.addr = some ad → (Value.slice A8 j c8).ownBlock ≠ some ad.block) : Mg w' base b A n c hs := by
  rcases ho.row.2 with ⟨hv, h0⟩ | ⟨g, cap, cur, hv, hb, hh, hc, hm, hs', ht⟩
  · rw [hv] at hg
    refine h.below ⟨hg.os, hg.tape, hg.output, hg.size, fun k hk => hg.block k hk (by simp [Value.ownBlock])⟩ h.bw
  · have hbl : Blk w g 156 cur := hh
    rw [hv] at hg far
    exact h.turn_new hg hbl (fun x hx ad e e2 => far x hx ad e (by rw [e2]; rfl))
theorem Run_ImpN5.step (h : Run_ImpN5 wr b A2 m2 c2 hs A8 j c8 rs all N) (ht : TookPost wr b b n hs q w1 A3 n3 c3 hs2) {o : Obj} (ho : OwnF w2 b A9 (j + 1) c9 (rs ++ [q])) (hg : (w1.alloc o).grownBy w2 (Value.slice A8 j c8).ownBlock)
    (hat : (Value.slice A9 (j + 1) c9).ownBlock = (Value.slice A8 j c8).ownBlock ∨ (Value.slice A9 (j + 1) c9).ownBlock = some (w1.alloc o).heap.size) : Run_ImpN5 w2 b A3 n3 c3 hs2 A9 (j + 1) c9 (rs ++ [q]) all N := by
  have hb1 : Below w1.heap.size w1 (w1.alloc o) := (Below.refl _ w1).alloc (Nat.le_refl _) o
  have ho1 : OwnF (w1.alloc o) b A8 j c8 rs := (ht.trn.ownF h.own).alloc o
  have hfar : ∀ x ∈ hs2, ∀ ad, x.addr = some ad → (Value.slice A8 j c8).ownBlock ≠ some ad.block ∧ ad.block < wr.heap.size := by
    intro x hx ad e
    obtain ⟨y, hy, a1, a2, e1, e2, e3⟩ := ht.blks x hx
    rw [e] at e1
    injection e1 with e1
    subst e1
    obtain ⟨a3, e4, hlt⟩ := (h.pool.mg.lst y hy).lt
    rw [e2] at e4
    injection e4 with e4
    subst e4
    exact ⟨by rw [e3]; exact h.far y hy _ e2, by rw [e3]; exact hlt⟩
  have hmg := (ht.mg.below hb1 ht.mg.bw).app ho1 hg (fun x hx ad e => (hfar x hx ad e).1)
  have hmem : ∀ r ∈ poolH hs2, r ∈ poolH hs := fun r hr => ht.pool.mem_iff.1 (List.mem_cons_of_mem _ hr)
  have hpp : (rs ++ [q] ++ poolH hs2).Perm (rs ++ poolH hs) := by
    rw [List.append_assoc]
    exact List.Perm.append_left rs ht.pool
  have hap := h.apart.perm hpp
  have hlen := ht.pool.length_eq
  refine ⟨⟨hmg, ht.heap, fun r hr => ((ht.trn.own (h.pool.own r (hmem r hr))).alloc o).kept hg (fun g hg2 => ?_), (List.pairwise_append.1 hap).2.1⟩, ho, hap, fun x hx ad e => ?_, ?_, ?_⟩
  · have hb := (ht.trn.own (h.pool.own r (hmem r hr))).alloc o
    exact rows_neF ho1.row hb.2 (by decide) hg2
  · obtain ⟨h1, h2⟩ := hfar x hx ad e
    rcases hat with h3 | h3
    · rw [h3]; exact h1
    · rw [h3]
      intro e2
      injection e2 with e2
      have := ht.trn.size
      have := hb1.size
      omega
  · rw [fns_append]
    exact ht.mrg _ _ h.mrg
  · have := h.num
    simp only [List.length_cons] at hlen
    omega
end
theorem sum_leN {zs : List (List Fn)} {K : Nat} (h : ∀ g ∈ zs, g.length ≤ K) : sumL zs ≤ zs.length * K := by
  induction zs with
  | nil => exact Nat.zero_le _
  | cons g gs ih =>
    have h1 := h g List.mem_cons_self
    have h2 := ih fun x hx => h x (List.mem_cons_of_mem _ hx)
    simp only [sumL, List.length_cons, Nat.succ_mul]
    omega
def sliceLen_ImpN5 : Value → Nat
  | .slice _ n _ => n
  | _ => 0

set_option maxHeartbeats 12800000 in
theorem implDeviceF (A : Option Addr) (n c B : Nat) (qs : List Zq) (w : World) (hr : Zns w B A n qs) (hB : B ≤ w.heap.size) (hn : n ≤ 1000000000000) (hv : devV (zns qs) = true) :
    Calls Tryz.prog 50 #[.slice A n c] w fun e w' => ∃ A2 c2 m rs, e = .returned (.slice A2 m c2) ∧ OwnF w' w.heap.size A2 m c2 rs ∧ fns rs = devF (zns qs) ∧ Below w.heap.size w w' := by
  have HR := hide hr
  have HBB := hide hB
  have hd := implDV A n c B qs w hr hB hn
  rw [hv] at hd
  have HD := hide hd
  obtain rfl : n = 4 := devV_is4 hv hr.1
  have HL4 : Hid ((zns qs).length = 4) := by show _ = _; rw [zns, List.length_map]; exact hr.1
  have HV := hide fun (k : Nat) (q : Zq) (h : qs[k]? = some q) => devV_words hv h
  clear hr hd hv hn
  go_enter Tryz.func50, Tryz.ntmps50
  go_wp2_with fail
  refine HD.out.mono ?_
  rintro e w1 ⟨rfl, hb1⟩
  have HB1 := hide hb1
  clear hb1
  have HNEW := hide (Mg.new w1)
  obtain ⟨W0, hW0⟩ : ∃ W0, w1.alloc (.cells #[.slice none 0 0] 152) = W0 := ⟨_, rfl⟩
  obtain ⟨b, hb⟩ : ∃ b, w1.heap.size = b := ⟨_, rfl⟩
  rw [hW0, hb] at HNEW
  have HW0 := hide (show Below w.heap.size w W0 by rw [← hW0]; exact HB1.out.alloc HB1.out.size _)
  have HWB := hide (show w.heap.size ≤ b by rw [← hb]; exact HB1.out.size)
  have HWS := hide (show W0.heap.size = b + 1 by rw [← hW0, ← hb]; simp)
  go_wp2
  go_loopw [14] (fun zv wr => ∃ (k m2 c2 : Nat) (A2 : Option Addr) (hs : List Hq), k ≤ 4 ∧ m2 ≤ k ∧ zv = .int .i64 k ∧ Hid (Pool wr b b A2 m2 c2 hs) ∧ Hid (∃ all, Mrg [] (fnH hs) all ∧ all.Perm (scansZ (zns qs) k).flatten) ∧ Hid (Below w.heap.size w wr) ∧ Hid (b + 1 ≤ wr.heap.size)) (fun zv _ => 4 - (intOf zv).toNat)
  case atStart => exact ⟨0, 0, 0, none, [], Nat.zero_le _, Nat.le_refl _, rfl, ⟨HNEW.out, fun c h0 hc => by omega, by simp [poolH], List.Pairwise.nil⟩, ⟨[], Mrg.none, List.Perm.refl _⟩, HW0.out, by show _ ≤ _; rw [HWS.out]; exact Nat.le_refl _⟩
  case round =>
    obtain ⟨k, m2, c2, A2, hs, hk, hmk, rfl, HPL, HMR, HB, HBS⟩ := hrel
    have hs1 := HB.out.size
    have hbs := HBS.out
    by_cases hlt : k < 4
    · obtain ⟨q, hq⟩ : ∃ q, qs[k]? = some q := ⟨_, List.getElem?_eq_getElem (by rw [HR.out.1]; exact hlt)⟩
      have hql := HV.out k q hq
      have HZ := hide (scansZ_succ hq)
      have hR := HR.out.below HB.out HBB.out
      obtain ⟨ad, p, rfl, hp, hpb, d0, d1, d2⟩ := hR.at_ hq
      obtain ⟨hi, hle, hcm⟩ := hR.words hq
      unfold maxLen at hcm
      have k0 : (0 : Int) ≤ (k : Int) := by omega
      have k1 : (k : Int) < ((4 : Nat) : Int) := by omega
      obtain ⟨W1, hW1⟩ : ∃ W1, wr.alloc (.cells #[q.sl, .int .i64 q.synced, .bool q.full] 69) = W1 := ⟨_, rfl⟩
      have HW1 := hide (show Below wr.heap.size wr W1 by rw [← hW1]; exact below_new wr _)
      have HX := hide (show Blk W1 wr.heap.size 69 #[q.sl, .int .i64 q.synced, .bool q.full] by rw [← hW1]; exact Blk.new wr _ _)
      have x0 : W1.cell? ⟨wr.heap.size, 0, none⟩ = some q.sl := HX.out.cell 0
      have hBw : B ≤ wr.heap.size := Nat.le_trans HBB.out hs1
      have HSC := hide (implScanL q.addr q.words.length q.cap (k : Int) q.words W1 ((hi.below HW1.out hBw).more (Nat.le_trans hBw HW1.out.size)) hle (by omega) (by omega))
      unfold ScanPost at HSC
      clear hR hi hle hcm hq
      unfold Zq.sl at *
      go_wp2_with fail
      refine HSC.out.mono ?_
      rintro e w2 ⟨A6, c6, m6, rs6, rfl, ho6, hf6, hb6⟩
      have HO6 := hide ho6
      have HB6 := hide hb6
      have hm6 : m6 ≤ 64 := by
        have := scan_count (k : Int) q.words 0
        rw [← hf6, fns_length, ho6.len] at this
        omega
      have HF6 := hide hf6
      have HSO := hide (sortF_any W1.heap.size m6 c6 A6 rs6 w2 ho6 hb6.size (by omega))
      clear ho6 hb6 hf6 HSC x0 d0 d1 d2 hW1
      go_wp2_with fail
      refine HSO.out.mono ?_
      rintro e w3 ⟨rfl, rs7, ho7, hp7, hso7, hb7⟩
      have HO7 := hide ho7
      have HP7 := hide hp7
      have HS7 := hide hso7
      have hb3 : Below wr.heap.size wr w3 := HW1.out.trans ((HB6.out.trans hb7).mono HW1.out.size)
      have HB3 := hide hb3
      have HBW3 := hide (HB.out.trans (hb3.mono hs1))
      have HPL3 := hide (HPL.out.below hb3)
      have hws : wr.heap.size ≤ W1.heap.size := HW1.out.size
      clear ho7 hp7 hso7 hb7 hb3 HSO
      by_cases hm0 : m6 = 0
      · subst hm0
        go_wp2_with fail
        refine (add_none _ _ _ _).mono ?_
        rintro e w4 ⟨rfl, rfl⟩
        go_wp2
        go_roundw
        case rel => exact ⟨k + 1, m2, c2, A2, hs, by omega, by omega, by go_num, HPL3.out, by
          obtain ⟨all, h1, h2⟩ := HMR.out
          refine ⟨all, h1, ?_⟩
          rw [HZ.out, List.flatten_append, ← HF6.out, List.eq_nil_of_length_eq_zero HO6.out.len]
          simpa [fns] using h2, HBW3.out, Nat.le_trans hbs HB3.out.size⟩
        case measure => simp [intOf]; omega
      · have HLS := hide ((HO7.out.mono (show b ≤ W1.heap.size by omega)).lst (by omega))
        have HAD := hide (add_any b b m2 c2 A2 hs ⟨A6, c6, rs7⟩ w3 HPL3.out.mg HLS.out (by omega) HPL3.out.heap)
        unfold Hq.sl at HAD
        simp only [HO7.out.len] at HAD
        go_wp2_with fail
        refine HAD.out.mono ?_
        rintro e w4 ⟨rfl, A4, c4, hs', h4⟩
        have HPOOL := hide (h4.pool (fun r hr => by
            simp only [List.mem_append] at hr
            rcases hr with hr | hr
            · exact HPL3.out.own r hr
            · exact (HO7.out.owns r hr).mono (by omega)) (List.pairwise_append.2 ⟨HPL3.out.apart, HO7.out.apart, fun r hr t ht g hg e2 => by
              have h1 := ((HPL.out.own r hr).block g hg).2
              have h2 := ((HO7.out.owns t ht).block g e2).1
              omega⟩))
        have HM4 : Hid (∃ all, Mrg [] (fnH hs') all ∧ all.Perm (scansZ (zns qs) (k + 1)).flatten) := by
          obtain ⟨all, h1, h2⟩ := HMR.out
          have hne : fns rs7 ≠ [] := fun e => by
            have := congrArg List.length e
            rw [fns_length, HO7.out.len] at this
            simp at this
            omega
          refine ⟨all ++ fns rs7, (h1.add hne HS7.out).perms ?_, ?_⟩
          · have e : fnH hs ++ [fns rs7] = fnH (hs ++ [⟨A6, c6, rs7⟩]) := by rw [fnH_append]; rfl
            rw [e]
            unfold fnH
            exact h4.perm.map _
          · rw [HZ.out, List.flatten_append, ← HF6.out]
            simp only [List.flatten_cons, List.flatten_nil, List.append_nil]
            exact h2.append (HP7.out.map _)
        have HB4 := hide (HBW3.out.trans (h4.trn.below.mono (by have := HWB.out; omega)))
        have hsz4 := h4.trn.size
        have HSZ4 := hide (show b + 1 ≤ w4.heap.size by have := HB3.out.size; omega)
        clear h4 HAD
        go_wp2
        go_roundw
        case rel => exact ⟨k + 1, m2 + 1, c4, A4, hs', by omega, by omega, by go_num, HPOOL.out.1, HM4.out, HB4.out, HSZ4.out⟩
        case measure => simp [intOf]; omega
    · have HK4 := hide (show k = 4 by omega)
      have hk4n : ¬ (k : Int) < 4 := by omega
      obtain ⟨all, hM1, hM2'⟩ := HMR.out
      have hM2 : all.Perm (scansZ (zns qs) 4).flatten := by rw [← HK4.out]; exact hM2'
      have HM1 := hide hM1
      have HM2 := hide (show all.Perm (scansZ (zns qs) (zns qs).length).flatten by rw [HL4.out]; exact hM2)
      obtain ⟨N, hN⟩ : ∃ N, 0 + (poolH hs).length = N := ⟨_, rfl⟩
      have HNB : Hid (N ≤ 10000000) := by
        show N ≤ _
        have e1 : (poolH hs).length = ((fnH hs).flatten).length := by
          unfold poolH fnH Hq.fs
          rw [List.length_flatten, List.length_flatten, List.map_map, List.map_map]
          congr 1
          exact List.map_congr_left fun x _ => by simp [fns]
        have e2 : ((fnH hs).flatten).length = all.length := by simpa using hM1.perm.length_eq
        have e3 := hM2.length_eq
        have e4 := (orderF_perm (scansZ (zns qs) 4)).length_eq
        rw [orderF_length] at e4
        have h1 : ∀ g ∈ scansZ (zns qs) 4, g.length ≤ 20 := by
          intro g hg
          obtain ⟨i, hi⟩ := List.getElem?_of_mem hg
          obtain ⟨hi4, rfl⟩ := scansZ_at _ hi
          have h2 := scan_count (i : Int) ((zns qs).getD i ([], 0, false)).1 0
          obtain ⟨q, hq⟩ : ∃ q, qs[i]? = some q := ⟨_, List.getElem?_eq_getElem (by rw [HR.out.1]; exact hi4)⟩
          have h3 := HV.out i q hq
          have h4 : (zns qs).getD i ([], 0, false) = q.zn := by simp [zns, List.getD, hq]
          rw [h4] at h2
          have h5 : q.zn.1 = q.words := rfl
          rw [h4, h5]
          rw [h5] at h2
          omega
        have h2 := sum_leN h1
        have h3 : (scansZ (zns qs) 4).length = 4 := by unfold scansZ; rw [List.length_map, List.length_range]
        omega
      have HRUN := hide (show Run_ImpN5 wr b A2 m2 c2 hs none 0 0 [] all N from ⟨HPL.out, OwnF.nil_ _ _, by simpa using HPL.out.apart, fun x hx ad e => by simp [Value.ownBlock], by simpa [fns] using hM1, hN⟩)
      clear hM1 hM2 hM2' hN HPL HMR
      go_wp2
      go_loopw [8] (fun lv w5 => ∃ (j c8 m3 c3 : Nat) (A8 A3 : Option Addr) (hs3 : List Hq) (rs : List Fq), lv = .slice A8 j c8 ∧ Hid (Run_ImpN5 w5 b A3 m3 c3 hs3 A8 j c8 rs all N) ∧ Hid (Below w.heap.size w w5)) (fun lv _ => N - sliceLen_ImpN5 lv)
      case atStart => exact ⟨0, 0, m2, c2, none, A2, hs, [], rfl, HRUN.out, HB.out⟩
      case round =>
        clear HRUN HB
        obtain ⟨j, c8, m3, c3, A8, A3, hs3, rs, rfl, HRUN, HB⟩ := hrel
        have hs5 := HB.out.size
        have hnum := HRUN.out.num
        have hNB := HNB.out
        have c0 := mg_cell HRUN.out.pool.mg
        have hml := HRUN.out.pool.mg.len
        rcases m3 with _ | m3
        · have HE : Hid (fns rs = devF (zns qs)) := by
            have h := HRUN.out.mrg
            rw [List.eq_nil_of_length_eq_zero hml] at h
            exact mrg_devF h HM2.out
          have HO := hide (HRUN.out.own.mono HWB.out)
          clear hml
          go_wp2
          go_ret
          exact ⟨A8, c8, j, rs, rfl, HO.out, HE.out, HB.out⟩
        · obtain ⟨x, hx⟩ : ∃ x, hs3[0]? = some x := ⟨_, List.getElem?_eq_getElem (by omega)⟩
          obtain ⟨q, t, hqt⟩ := List.exists_cons_of_ne_nil (HRUN.out.pool.mg.lst x (List.mem_of_getElem? hx)).full
          have HTK := hide (take_any b b m3 c3 A3 hs3 x q t wr HRUN.out.pool.mg hx HRUN.out.pool.heap hqt)
          have hjN : j < N := by
            have h1 : q ∈ poolH hs3 := List.mem_flatten.2 ⟨x.qs, List.mem_map.2 ⟨x, List.mem_of_getElem? hx, rfl⟩, by rw [hqt]; exact List.mem_cons_self⟩
            have := List.length_pos_of_mem h1
            omega
          obtain ⟨M, hM⟩ : ∃ M, m3 + 1 = M := ⟨_, rfl⟩
          have hM0 : (0 : Int) < (M : Int) := by omega
          rw [hM] at c0
          clear hx hqt hml hM
          go_wp2_with fail
          refine HTK.out.mono ?_
          rintro e w6 ⟨rfl, A5, n5, c5, hs5', ht⟩
          have HNW := hide (HRUN.out.news ht)
          have HT := hide ht
          have hbw : b ≤ (w6.alloc (.cells #[.int .i64 q.zone, .int .i64 q.word, .int .i64 q.kind, .int .i64 q.seq, q.sl] 156)).heap.size := by
            have h1 := HRUN.out.pool.mg.bw
            have h2 := ht.trn.size
            simp
            omega
          have hj9 : j + 1 ≤ 100000000000 := by omega
          have HW6 := hide (HB.out.trans (ht.trn.below.mono HWB.out))
          clear ht HTK
          go_wp2_with (at_builtin; refine wpList_append_fnds rfl (.tmp 34) (.tmp 36) rfl b j c8 1 1 A8 (some ⟨w6.heap.size, 0, none⟩) rs [q] rfl rfl HNW.out hj9 hbw ?_; intro A9 c9 w7 ho7 hg7 hat7)
          have HRUN7 := hide (HRUN.out.step HT.out ho7 hg7 hat7)
          have HW7 := hide ((HW6.out.alloc HW6.out.size _).grown hg7 (by have := HW6.out.size; simp; omega) (fun g e => by have := (HRUN.out.own.block g e).1; have := HWB.out; omega))
          clear ho7 hg7 hat7
          go_roundw
          case rel => exact ⟨j + 1, c9, n5, c5, A9, A5, hs5', rs ++ [q], rfl, HRUN7.out, HW7.out⟩
          case measure => simp [sliceLen_ImpN5]; omega

set_option maxHeartbeats 1600000 in
theorem implScanD (A : Option Addr) (n c B : Nat) (qs : List Zq) (w : World) (hr : Zns w B A n qs) (hB : B ≤ w.heap.size) (hn : n ≤ 1000000000000) :
    Calls Tryz.prog 50 #[.slice A n c] w fun e w' => ∃ A2 c2 m rs, e = .returned (.slice A2 m c2) ∧ OwnF w' w.heap.size A2 m c2 rs ∧ fns rs = scanD (zns qs) ∧ Below w.heap.size w w' := by
  rcases hv : devV (zns qs) with _ | _
  · have hd := implDV A n c B qs w hr hB hn
    rw [hv] at hd
    have HD := hide hd
    have HE := hide (show scanD (zns qs) = [] by unfold scanD; rw [hv]; rfl)
    clear hd hr hv
    go_enter Tryz.func50, Tryz.ntmps50
    go_wp2_with fail
    refine HD.out.mono ?_
    rintro e w1 ⟨rfl, hb1⟩
    have HB1 := hide hb1
    clear hb1
    go_wp2
    go_ret
    exact ⟨none, 0, 0, [], rfl, OwnF.nil_ _ _, by rw [HE.out]; rfl, HB1.out⟩
  · have e : scanD (zns qs) = devF (zns qs) := by unfold scanD; rw [hv]; rfl
    rw [e]
    exact implDeviceF A n c B qs w hr hB hn hv
end Go.Proofs.YtfianpjoifcphaaGreat

/- ImpV4 -/
namespace Go.Proofs.YtfianpjoifcphaaGreat
open Go.RowKit
set_option linter.unusedVariables false
set_option maxRecDepth 100000

set_option maxHeartbeats 6400000 in
theorem implVV (q : Vq) (B : Nat) (w : World) (hv : VolI w B q) (hB : B ≤ w.heap.size) (hp : VolP q.vol) :
    Calls Tryz.prog 15 #[q.val] w fun e w' => e = .returned (.bool true) ∧ Below w.heap.size w w' := by
  have hf := Fits.of hv hp.ok
  obtain ⟨W0, hW0⟩ : ∃ W0, w.alloc (.cells (boxV q) 29) = W0 := ⟨_, rfl⟩
  have HV0 : Hid (VV w B q W0) := by rw [← hW0]; exact VV.start w B q hv hB
  have HBB := hide hB
  have HP := hide fun (W : World) (h : VV w B q W) => implParts q B W h.vi (h.hB hB) hf
  have HZ := hide fun (W : World) (k : Nat) (hk : k < 4) (h : VV w B q W) => implZoneFits q B k W h.vi (h.hB hB) hf hk
  have HD := hide fun (W : World) (h : VV w B q W) => implDeviceF q.dA q.dn q.dc B q.dev W h.vi.dev (h.hB hB) (by have := hf.d4; omega) hp.ok.dv
  have hshort := devF_short (d := zns q.dev) hp.ok.dv
  have HSH := hide hshort
  have HFL := hide fun (W : World) (A2 : Option Addr) (n c B2 : Nat) (rs : List Fq) (hr : Fnds W B2 A2 n rs) (h2 : B2 ≤ W.heap.size) (hfs : fns rs = devF (zns q.dev)) => implFollow A2 n c B2 rs W hr h2
    (by have h1 := hr.1; have h3 := hshort.1; rw [← hfs, fns_length] at h3; omega) (by rw [hfs]; exact hp.flw)
    (fun x hx => by
      have hm : x.fn ∈ devF (zns q.dev) := by rw [← hfs]; unfold fns; exact List.mem_map_of_mem hx
      obtain ⟨k, b, hk, e, _, _⟩ := devF_zone (dev_len hp.ok.dv) hm
      have : x.zone = (k : Int) := e
      omega)
  have HMF := hide fun (W : World) (A2 : Option Addr) (n c B2 : Nat) (rs : List Fq) (h : VV w B q W) (hr : Fnds W B2 A2 n rs) (h2 : B2 ≤ W.heap.size) (hfs : fns rs = devF (zns q.dev)) => implMapFits q B A2 n c B2 rs W h.vi (h.hB hB) hf hr h2
    (by have h1 := hr.1; have h3 := hshort.1; rw [← hfs, fns_length] at h3; omega)
    (fun x hx => Nat.le_trans (hshort.2 x.fn (by rw [← hfs]; unfold fns; exact List.mem_map_of_mem hx)) (by omega)) hfs
  have HEF := hide fun (W : World) (A2 : Option Addr) (n c B2 : Nat) (rs : List Fq) (h : VV w B q W) (hr : Fnds W B2 A2 n rs) (h2 : B2 ≤ W.heap.size) (hfs : fns rs = devF (zns q.dev)) => implEnd q B A2 n c B2 rs W h.vi (h.hB hB) hf hr h2
    (by have h1 := hr.1; have h3 := hshort.1; rw [← hfs, fns_length] at h3; omega) hfs
  have hd4 := hf.d4
  have HD4 := hide hd4
  clear hv hp hf hshort hd4
  unfold boxV at hW0
  unfold Vq.val at HP HZ HMF HEF ⊢
  go_enter Tryz.func15, Tryz.ntmps15
  obtain ⟨c0, c1, c2, c3, c4, c5⟩ := HV0.out.cells
  go_wp2_with fail
  refine (HP.out _ HV0.out).mono ?_
  rintro e w1 ⟨rfl, hb1⟩
  have HV1 := hide (HV0.out.below hb1 HBB.out)
  clear hb1 HV0 hW0 c0 c1 c2 c3 c4 c5
  obtain ⟨c0, c1, c2, c3, c4, c5⟩ := HV1.out.cells
  rw [HD4.out] at c0
  go_wp2_with fail
  go_loopw [11] (fun i wr => ∃ k : Nat, k ≤ 4 ∧ i = .int .i64 k ∧ Hid (VV w B q wr)) (fun i _ => 4 - (intOf i).toNat)
  case atStart => exact ⟨0, Nat.zero_le _, rfl, HV1.out⟩
  case round =>
    clear c0 c1 c2 c3 c4 c5 HV1
    obtain ⟨k, hk, rfl, HV⟩ := hrel
    obtain ⟨c0, c1, c2, c3, c4, c5⟩ := HV.out.cells
    by_cases hlt : k < 4
    · have HZK := hide (HZ.out wr k hlt HV.out)
      go_wp2_with fail
      refine HZK.out.mono ?_
      rintro e w2 ⟨rfl, hb2⟩
      have HV2 := hide (HV.out.below hb2 HBB.out)
      clear hb2
      go_wp2
      go_roundw
      case rel => exact ⟨k + 1, by omega, by go_num, HV2.out⟩
      case measure => simp [intOf]; omega
    · go_wp2_with fail
      refine (HD.out _ HV.out).mono ?_
      rintro e w2 ⟨A5, d5, m, rs, rfl, ho5, hf5, hb5⟩
      have HV2 := hide (HV.out.below hb5 HBB.out)
      have HFN := hide ho5.fnds
      have HF5 := hide hf5
      have HFC := hide (HFL.out _ A5 m d5 _ rs ho5.fnds (Nat.le_refl _) hf5)
      clear ho5 hf5 hb5 c0 c1 c2 c3 c4 c5
      go_wp2_with fail
      refine HFC.out.mono ?_
      rintro e w3 ⟨rfl, hb3⟩
      have HV3 := hide (HV2.out.below hb3 HBB.out)
      have HFN3 := hide (HFN.out.below hb3 (Nat.le_refl _))
      have hs3 := hb3.size
      have HMC := hide (HMF.out _ A5 m d5 _ rs HV3.out HFN3.out hs3 HF5.out)
      clear hb3 HFC
      obtain ⟨c0, c1, c2, c3, c4, c5⟩ := HV3.out.cells
      go_wp2_with fail
      refine HMC.out.mono ?_
      rintro e w4 ⟨rfl, hb4⟩
      have HV4 := hide (HV3.out.below hb4 HBB.out)
      have HFN4 := hide (HFN3.out.below hb4 hs3)
      have hs4 := hb4.size
      have HEC := hide (HEF.out _ A5 m d5 _ rs HV4.out HFN4.out (by omega) HF5.out)
      clear hb4 HMC c0 c1 c2 c3 c4 c5
      obtain ⟨c0, c1, c2, c3, c4, c5⟩ := HV4.out.cells
      go_wp2_with fail
      refine HEC.out.mono ?_
      rintro e w5 ⟨rfl, hb5⟩
      have HV5 := hide (HV4.out.below hb5 HBB.out)
      clear hb5
      go_wp2
      go_ret
      exact ⟨rfl, HV5.out.bl⟩
end Go.Proofs.YtfianpjoifcphaaGreat

/- ImpV5 -/
namespace Go.Proofs.YtfianpjoifcphaaGreat
open Go.RowKit
set_option linter.unusedVariables false
set_option maxRecDepth 100000

/-- a draft by value -/
def DraftPost (w : World) (B : Nat) (q : Vq) (e : Ending) (w' : World) : Prop :=
  ∃ W M b f, e = .returned (.tuple #[.agg (dcells W M b q).toArray, .bool true]) ∧ GrOk W M ∧ devG W M = zns q.dev ∧ w.heap.size ≤ b ∧ Shelf w' b 6 f ∧ Tied w B f (obs q.sto) ∧ Below w.heap.size w w'

theorem below_own {W W' : World} {o : Obj} (hg : (W.alloc o).grownBy W' (some W.heap.size)) : Below W.heap.size W W' := (below_box W o).grown hg (by simp) (fun k hk => by injection hk with hk; omega)

set_option maxHeartbeats 6400000 in
theorem implDraft (q : Vq) (B : Nat) (w : World) (hv : VolI w B q) (hB : B ≤ w.heap.size) (hp : VolP q.vol) :
    Calls Tryz.prog 46 #[q.val] w (DraftPost w B q) := by
  have hf := Fits.of hv hp.ok
  obtain ⟨W0, hW0⟩ : ∃ W0, (w.alloc (.cells (boxV q) 29)).alloc (.cells ZD 81) = W0 := ⟨_, rfl⟩
  have HV0 : Hid (VV w B q W0) := by rw [← hW0]; exact (VV.start w B q hv hB).below (below_box _ _) hB
  have HR0 : Hid (Blk W0 (w.heap.size + 1) 81 ZDL.toArray) := by
    rw [← hW0]
    have := Blk.new (w.alloc (.cells (boxV q) 29)) 81 ZD
    rw [show (w.alloc (.cells (boxV q) 29)).heap.size = w.heap.size + 1 by simp] at this
    exact this
  have HBB := hide hB
  have HVV := hide fun (W : World) (h : VV w B q W) => implVV q B W h.vi (h.hB hB) hp
  have HG := hide fun (W : World) (h : VV w B q W) => (show devV (zns q.dev) = true from hp.ok.dv) ▸ implGridOf q.dA q.dn q.dc B q.dev W h.vi.dev (h.hB hB) (by have := hf.d4; omega)
  have HS := hide fun (W : World) (h : VV w B q W) => implShelf_yes q.sA q.sn q.sc B q.sto W h.vi.sto (h.hB hB) (by have := hf.s6; omega) hp.ok.st
  have HT := hide draftI
  have HGI := hide gridI
  have HZ := hide ZDL_length
  have HTI := hide fun (W : World) (h : VV w B q W) (f : Int → Option Value) (t : Tied W B f (obs q.sto)) => (t.keep fun p hp => (h.bl.cell (p := p) (by omega)).symm : Tied w B f (obs q.sto))
  clear hv hp hf
  unfold boxV at hW0
  unfold Vq.val at HVV ⊢
  go_enter Tryz.func46, Tryz.ntmps46
  obtain ⟨c0, c1, c2, c3, c4, c5⟩ := HV0.out.cells
  go_wp2_with (with_reducible refine wpList_alloc_draft rfl rfl ?_)
  refine (HVV.out _ HV0.out).mono ?_
  rintro e w1 ⟨rfl, hb1⟩
  have HV1 := hide (HV0.out.below hb1 HBB.out)
  have HR1 := hide (HR0.out.below hb1 HR0.out.lt)
  clear hb1 HV0 HR0 hW0 c0 c1 c2 c3 c4 c5
  obtain ⟨c0, c1, c2, c3, c4, c5⟩ := HV1.out.cells
  go_wp2_with (first | (with_reducible refine wpList_alloc_grid rfl rfl ?_))
  refine (HG.out _ HV1.out).mono ?_
  rintro e w2 ⟨cs, rfl, hlen, hone, hgood, hb2⟩
  obtain ⟨W, M, rfl, hok, hdev⟩ := hgood rfl
  have HOK := hide hok
  have HDV := hide hdev
  have HV2 := hide (HV1.out.below hb2 HBB.out)
  have HR2 := hide (HR1.out.below hb2 HR1.out.lt)
  have HO := hide hone
  clear hb2 HV1 HR1 hlen hone hgood c0 c1 c2 c3 c4 c5 hok hdev
  have HG0 := hide (show Blk (w2.alloc (.cells ZG 77)) w2.heap.size 77 (gcells zeroW zeroM).toArray by rw [← zeroG]; exact Blk.new _ _ _)
  go_wp2_with (first | (with_reducible refine wpList_alloc_grid rfl rfl ?_) | (refine wpList_store_blk rfl 77 _ _ rfl w2.heap.size rfl 77 (gcells zeroW zeroM) (gcells W M) rfl HG0.out (by rw [gcells_length HOK.out, gcells_length zeroOk]) (by rw [HGI.out, gcells_length HOK.out]) HO.out ?_; intro w3 hw3 hg3; have HV3 := hide (HV2.out.below (below_own hg3) HBB.out); have HR3 := hide (HR2.out.below (below_own hg3) HR2.out.lt); obtain ⟨c0, c1, c2, c3, c4, c5⟩ := HV3.out.cells; clear hg3))
  refine (HS.out _ HV3.out).mono ?_
  rintro e w4 ⟨b, f, rfl, hbb, hsh, hti, hb4⟩
  have HV4 := hide (HV3.out.below hb4 HBB.out)
  have HR4 := hide (HR3.out.below hb4 HR3.out.lt)
  have HG4 := hide (hw3.out.below hb4 hw3.out.lt)
  have HTD := hide (HTI.out _ HV3.out f hti)
  have HSH := hide hsh
  have hwb : w.heap.size ≤ b := Nat.le_trans HV3.out.bl.size hbb
  have hbne : b ≠ w.heap.size + 1 := by have := HR3.out.lt; omega
  clear hb4 HV3 HR3 hw3 c0 c1 c2 c3 c4 c5 hbb hsh hti HVV HG HS HTI HV2 HR2 HG0
  obtain ⟨c0, c1, c2, c3, c4, c5⟩ := HV4.out.cells
  go_wp2_with (first
    | (refine wpList_load_blk rfl 77 _ rfl w2.heap.size rfl 77 (gcells W M) _ HG4.out Tryz.underlying77 rfl (by rw [HGI.out, gcells_length HOK.out]) ?_)
    | (refine wpList_build_draft rfl _ _ _ _ _ _ rfl HOK.out b q rfl rfl rfl rfl rfl rfl ?_)
    | (refine wpList_store_blk rfl 81 _ _ rfl (w.heap.size + 1) rfl 81 ZDL (dcells W M b q) rfl HR4.out (by rw [dcells_length HOK.out, HZ.out]) (by rw [HT.out, dcells_length HOK.out]) dcells_one ?_; intro w5 hw5 hg5))
  have hlt : w.heap.size + 1 < w4.heap.size := HR4.out.lt
  have HBE := hide (HV4.out.bl.grown hg5 HV4.out.bl.size (fun k hk => by injection hk with hk; omega))
  have HSH5 := hide (HSH.out.kept hg5 (fun k e => by injection e with e; omega))
  exact bodyPost_ret (results_blk2 Tryz.results46 _ _ (w.heap.size + 1) 81 (dcells W M b q) _ rfl hw5.out Tryz.underlying81 rfl (by rw [HT.out, dcells_length HOK.out])) rfl ⟨W, M, b, f, rfl, HOK.out, HDV.out, hwb, HSH5.out, HTD.out, HBE.out⟩
end Go.Proofs.YtfianpjoifcphaaGreat

/- ImpV6 -/
namespace Go.Proofs.YtfianpjoifcphaaGreat
open Go.RowKit
set_option linter.unusedVariables false
set_option maxRecDepth 100000

/-- a draft in block g, whose map reads below B -/
structure DI (W : World) (g B : Nat) (GW : List Int) (M : List Mk) (b : Nat) (q : Vq) : Prop where
  bx : Blk W g 81 (dcells GW M b q).toArray
  ok : GrOk GW M
  map : MpI W B q.mA q.mn q.map
  hB : B ≤ W.heap.size
section
variable {W W' : World} {g B : Nat} {GW : List Int} {M : List Mk} {b : Nat} {q : Vq}
theorem DI.below (h : DI W g B GW M b q) (hb : Below W.heap.size W W') : DI W' g B GW M b q := ⟨h.bx.below hb h.bx.lt, h.ok, h.map.below hb h.hB, Nat.le_trans h.hB hb.size⟩
theorem DI.drewN (h : DI W g B GW M b q) (k : Nat) : DI (W.drewN k) g B GW M b q := ⟨h.bx.drewN k, h.ok, h.map.drewN k, h.hB⟩
theorem DI.alloc (h : DI W g B GW M b q) (o : Obj) : DI (W.alloc o) g B GW M b q := h.below (below_box W o)
theorem DI.tail (h : DI W g B GW M b q) : W.cell? ⟨g, 268, none⟩ = some (.map (some b)) ∧ W.cell? ⟨g, 269, none⟩ = some (.slice q.mA q.mn q.mc) ∧ W.cell? ⟨g, 270, none⟩ = some (.slice q.hA q.hn q.hc) ∧
    W.cell? ⟨g, 271, none⟩ = some (.int .i64 q.seq) ∧ W.cell? ⟨g, 272, none⟩ = some (.int .i64 q.zone) := by
  have c : ∀ j, W.cell? ⟨g, 268 + j, none⟩ = (dtail b q)[j]? := fun j => by
    rw [h.bx.cell, List.getElem?_toArray]
    exact dcells_tail h.ok j
  exact ⟨c 0, c 1, c 2, c 3, c 4⟩
end

set_option maxHeartbeats 6400000 in
theorem implValue0 (g B b k : Nat) (GW : List Int) (M : List Mk) (q : Vq) (w : World) (h : DI w g B GW M b q) (hm : q.mn = 12) (hk : k < 12) (x : Wh) (hx : q.map[k]? = some x) (h0 : x.1 = 0) :
    Calls Tryz.prog 104 #[.pointer (some ⟨g, 0, none⟩), .int .i64 k] w fun e w' => e = .returned (.int .i64 0) ∧ Below w.heap.size w w' := by
  obtain ⟨t0, t1, t2, t3, t4⟩ := h.tail
  obtain ⟨ad, p, e1, hp, hpb, g0, g1, g2, g3, g4⟩ := h.map.at_ hx
  rw [hm, e1] at t1
  have hB := h.hB
  have k0 : (0 : Int) ≤ (k : Int) := by omega
  have k1 : (k : Int) < ((12 : Nat) : Int) := by omega
  have k2 : (k : Int) < 12 := by omega
  obtain ⟨xt, xz, xa, xi, xu⟩ := x
  simp only at h0 g0 g1 g2 g3 g4
  subst h0
  have HB := hide (below_box w (.cells #[.int .i64 0, .int .i64 xz, .int .i64 xa, .int .i64 xi, .int .i64 xu] 141))
  have HX := Blk.new w 141 #[.int .i64 0, .int .i64 xz, .int .i64 xa, .int .i64 xi, .int .i64 xu]
  have x0 := HX.cell 0
  simp at x0
  clear h hx hm e1 HX
  go_enter Tryz.func104, Tryz.ntmps104
  go_wp2
  go_ret
  exact ⟨rfl, HB.out⟩

set_option maxHeartbeats 6400000 in
theorem implValues (g : Nat) (val : Nat → Int) (w : World) (P : World → Prop) (h : P w) (hP : ∀ W W', P W → Below w.heap.size W W' → P W')
    (hv : ∀ (W : World) (k : Nat), k < 12 → P W → Calls Tryz.prog 104 #[.pointer (some ⟨g, 0, none⟩), .int .i64 k] W fun e w' => e = .returned (.int .i64 (val k)) ∧ Below W.heap.size W w') :
    Calls Tryz.prog 47 #[.pointer (some ⟨g, 0, none⟩)] w fun e w' => ∃ A2 c2, e = .returned (.slice A2 12 c2) ∧ Own w' w.heap.size A2 12 c2 ((List.range 12).map val) ∧ Below w.heap.size w w' := by
  have HD := hide h
  have HV := hide hv
  have HP := hide hP
  clear h hv hP
  go_enter Tryz.func47, Tryz.ntmps47
  go_wp2
  go_loopw [3, 5] (fun s i wr => ∃ (k c2 : Nat) (A2 : Option Addr), k ≤ 12 ∧ i = .int .i64 k ∧ s = .slice A2 k c2 ∧ Hid (Own wr w.heap.size A2 k c2 ((List.range k).map val)) ∧ Hid (Below w.heap.size w wr) ∧ Hid (P wr)) (fun _ i _ => 12 - (intOf i).toNat)
  case atStart => exact ⟨0, 0, none, Nat.zero_le _, rfl, rfl, Own.nil_ _ _, Below.refl _ _, HD.out⟩
  case round =>
    obtain ⟨k, c2, A2, hk, rfl, rfl, HO, HB, HPW⟩ := hrel
    by_cases hlt : k < 12
    · have HC := hide (HV.out wr k hlt HPW.out)
      go_wp2_with fail
      refine HC.out.mono ?_
      rintro e w2 ⟨rfl, hb2⟩
      have HO1 := hide (HO.out.below hb2)
      have HB1 := hide (HB.out.trans (hb2.mono HB.out.size))
      have hsz1 := HB1.out.size
      have HN := hide (show (List.range (k + 1)).map val = (List.range k).map val ++ [val k] by rw [List.range_succ, List.map_append]; rfl)
      have HP1 := hide (HP.out _ _ HPW.out (hb2.mono HB.out.size))
      clear hb2 HC HO HB HPW
      go_wp2_with (at_builtin; refine wpList_append_ints rfl (.tmp 8) (.tmp 12) rfl w.heap.size k c2 (w2.heap.size + 1) 1 1 A2 (some ⟨w2.heap.size, 0, none⟩) ((List.range k).map val) [val k] rfl (HO1.out.alloc _) rfl (Ints.one w2 (val k)) (by omega) (by simp; omega) ?_; intro A8 c8 w8 ho8 hg8 hat8; have HB8 := hide (below_app HB1.out hsz1 HO1.out (Nat.le_refl _) hg8); have HO8 := hide ho8; have HP8 := hide (HP.out _ _ HP1.out (below_app (Below.refl _ w2) hsz1 HO1.out (Nat.le_refl _) hg8)); clear ho8 hg8 hat8)
      go_roundw
      case rel => exact ⟨k + 1, _, _, by omega, by go_num, rfl, by show Own _ _ _ _ _ _; rw [HN.out]; exact HO8.out, HB8.out, HP8.out⟩
      case measure => simp [intOf]; omega
    · obtain rfl : k = 12 := by omega
      go_wp2
      go_ret
      exact ⟨_, _, rfl, HO.out, HB.out⟩

/-- behind the call that made it, a draft lies in a new block -/
structure Dr (w W : World) (g B : Nat) (GW : List Int) (M : List Mk) (b : Nat) (f : Int → Option Value) (q : Vq) : Prop where
  di : DI W g B GW M b q
  dev : devG GW M = zns q.dev
  sh : Shelf W b 6 f
  tied : Tied W B f (obs q.sto)
  bl : Below w.heap.size w W
  new : w.heap.size ≤ g
  bg : b ≠ g
  bnew : w.heap.size ≤ b

theorem Dr.below {w W W' : World} {g B X : Nat} {GW : List Int} {M : List Mk} {b : Nat} {f : Int → Option Value} {q : Vq} (h : Dr w W g B GW M b f q) (hb : Below X W W') (hg : g < X) (hB : B ≤ X) (hw : w.heap.size ≤ X) (hbx : b < X) : Dr w W' g B GW M b f q :=
  { di := ⟨h.di.bx.below hb hg, h.di.ok, h.di.map.below hb hB, Nat.le_trans h.di.hB hb.size⟩, dev := h.dev, sh := h.sh.below hb hbx, tied := h.tied.below hb hB, bl := h.bl.trans (hb.mono hw), new := h.new, bg := h.bg, bnew := h.bnew }

/-- what a function over a draft of a volume keeps until the draft is there -/
theorem Dr.mk' {w w1 w2 : World} {B b : Nat} {GW : List Int} {M : List Mk} {f : Int → Option Value} {q : Vq} (hv : VolI w B q) (hB : B ≤ w.heap.size) {wi : World} (hi : Below w.heap.size w wi) (hok : GrOk GW M) (hdv : devG GW M = zns q.dev) (hb : wi.heap.size ≤ b) (hsh : Shelf w1 b 6 f) (hti : Tied wi B f (obs q.sto))
    (hb1 : Below wi.heap.size wi w1) (hw : Blk w2 w1.heap.size 81 (dcells GW M b q).toArray) (hg : (w1.alloc (.cells ZD 81)).grownBy w2 (some w1.heap.size)) : Dr w w2 w1.heap.size B GW M b f q := by
  have hbl := hi.trans (hb1.mono hi.size)
  have hs := hbl.size
  have h12 := below_own hg
  have hlt := hsh.lt
  exact { di := ⟨hw, hok, (hv.map.below hbl hB).below h12 (by omega), by have := h12.size; omega⟩, dev := hdv, sh := hsh.below h12 hlt, tied := (hti.below hb1 (by have := hi.size; omega)).below h12 (by omega), bl := hbl.trans (h12.mono hs), new := hs, bg := by omega, bnew := by have := hi.size; omega }

set_option maxHeartbeats 6400000 in
/-- VolumeAll, where each value of the draft is known -/
theorem implAll_of (q : Vq) (B : Nat) (val : Nat → Int) (w : World) (hv : VolI w B q) (hB : B ≤ w.heap.size) (hp : VolP q.vol)
    (hval : ∀ (W : World) (g b k : Nat) (GW : List Int) (M : List Mk) (f : Int → Option Value), k < 12 → Dr w W g B GW M b f q → Calls Tryz.prog 104 #[.pointer (some ⟨g, 0, none⟩), .int .i64 k] W fun e w' => e = .returned (.int .i64 (val k)) ∧ Below W.heap.size W w') :
    Calls Tryz.prog 14 #[q.val] w fun e w' => ∃ A2 c2, e = .returned (.slice A2 12 c2) ∧ Own w' w.heap.size A2 12 c2 ((List.range 12).map val) ∧ Below w.heap.size w w' := by
  obtain ⟨W0, hW0⟩ : ∃ W0, w.alloc (.cells (boxV q) 29) = W0 := ⟨_, rfl⟩
  have HV0 : Hid (VV w B q W0) := by rw [← hW0]; exact VV.start w B q hv hB
  have HBB := hide hB
  have HVI := hide hv
  have HD := hide fun (W : World) (h : VV w B q W) => implDraft q B W h.vi (h.hB hB) hp
  have HT := hide draftI
  have HZ := hide ZDL_length
  have HVAL := hide hval
  clear hv hp hval
  unfold boxV at hW0
  unfold Vq.val at HD ⊢
  go_enter Tryz.func14, Tryz.ntmps14
  obtain ⟨c0, c1, c2, c3, c4, c5⟩ := HV0.out.cells
  go_wp2_with (first | (with_reducible refine wpList_alloc_draft rfl rfl ?_))
  refine (HD.out _ HV0.out).mono ?_
  rintro e w1 ⟨GW, M, b, f, rfl, hok, hdv, hbb, hsh, hti, hb1⟩
  have HOK := hide hok
  have HZ0 := hide (show Blk (w1.alloc (.cells ZD 81)) w1.heap.size 81 ZDL.toArray from Blk.new _ _ _)
  have HDR : Hid (∀ w2, Blk w2 w1.heap.size 81 (dcells GW M b q).toArray → (w1.alloc (.cells ZD 81)).grownBy w2 (some w1.heap.size) → Dr w w2 w1.heap.size B GW M b f q) := fun w2 hw hg => Dr.mk' HVI.out hB HV0.out.bl hok hdv hbb hsh hti hb1 hw hg
  clear hok hdv hbb hsh hti hb1 HV0 hW0 c0 c1 c2 c3 c4 c5 HD HVI
  go_wp2_with (first
    | (with_reducible refine wpList_alloc_draft rfl rfl ?_)
    | (refine wpList_store_blk rfl 81 _ _ rfl w1.heap.size rfl 81 ZDL (dcells GW M b q) rfl HZ0.out (by rw [dcells_length HOK.out, HZ.out]) (by rw [HT.out, dcells_length HOK.out]) dcells_one ?_; intro w2 hw2 hg2; have HD2 := hide (HDR.out w2 hw2.out hg2); clear hg2))
  have hs2 := HD2.out.bl.size
  refine (implValues w1.heap.size val w2 (fun W => Dr w W w1.heap.size B GW M b f q) HD2.out (fun W W' h hb => h.below hb HD2.out.di.bx.lt (by omega) hs2 HD2.out.sh.lt) (fun W k hk hd => HVAL.out W _ b k GW M f hk hd)).mono ?_
  rintro e w3 ⟨A3, c3, rfl, ho3, hb3⟩
  have HO3 := hide ho3
  have HB3 := hide (HD2.out.bl.trans (hb3.mono hs2))
  clear ho3 hb3
  go_wp2
  go_ret
  exact ⟨_, _, rfl, HO3.out.mono hs2, HB3.out⟩
end Go.Proofs.YtfianpjoifcphaaGreat

/- ImpV7 -/
namespace Go.Proofs.YtfianpjoifcphaaGreat
open Go.RowKit
set_option linter.unusedVariables false
set_option maxRecDepth 100000

def isFree (M : List Mk) (zone : Int) (j : Nat) : Bool := decide ((M.getD j (0, 0, false)).1 = 0) && !decide ((j : Int) = zone)
def freeI (M : List Mk) (zone : Int) (k : Nat) : List Int := ((List.range k).filter (isFree M zone)).map fun (j : Nat) => (j : Int)
theorem freeI_yes {M : List Mk} {zone : Int} {k : Nat} (h : isFree M zone k = true) : freeI M zone (k + 1) = freeI M zone k ++ [(k : Int)] := by
  unfold freeI
  rw [List.range_succ, List.filter_append, List.map_append]
  simp [h]
theorem freeI_no {M : List Mk} {zone : Int} {k : Nat} (h : isFree M zone k = false) : freeI M zone (k + 1) = freeI M zone k := by
  unfold freeI
  rw [List.range_succ, List.filter_append, List.map_append]
  simp [h]
theorem freeI_len (M : List Mk) (zone : Int) (k : Nat) : (freeI M zone k).length ≤ k := by
  unfold freeI
  rw [List.length_map]
  exact Nat.le_trans (List.length_filter_le _ _) (by simp)
theorem DI.marks {W : World} {g B : Nat} {GW : List Int} {M : List Mk} {b : Nat} {q : Vq} (h : DI W g B GW M b q) : W.rangeAt g 256 (mksV M) := by
  intro j v hv
  rw [h.bx.cell, List.getElem?_toArray]
  have hl : j < 12 := by
    have := (List.getElem?_eq_some_iff.1 hv).1
    rw [mksV_length, h.ok.marks] at this
    exact this
  rw [dcells_grid h.ok (by omega)]
  have e : (gcells GW M)[256 + j]? = (mksV M)[j]? := by
    unfold gcells
    rw [List.getElem?_append_right (by rw [List.length_map, h.ok.words]; omega), List.length_map, h.ok.words]
    congr 1
    omega
  rw [e]
  exact hv

set_option maxHeartbeats 6400000 in
theorem implFree (g B b : Nat) (GW : List Int) (M : List Mk) (q : Vq) (w : World) (h : DI w g B GW M b q) :
    Calls Tryz.prog 54 #[.pointer (some ⟨g, 0, none⟩)] w fun e w' => ∃ A2 m c2, e = .returned (.slice A2 m c2) ∧ Own w' w.heap.size A2 m c2 (freeI M q.zone 4) ∧ Below w.heap.size w w' := by
  have hgw := h.bx.lt
  have HD := hide h
  have HI := hide info52
  have HR := hide h.marks
  have HLM := hide (show (mksV M).length = 12 by rw [mksV_length, h.ok.marks])
  clear h
  go_enter Tryz.func54, Tryz.ntmps54
  go_wp2_with (refine wpList_load_mid rfl 75 _ rfl g 256 rfl (mksV M) _ HR.out Tryz.underlying75 rfl (by rw [HI.out, HLM.out]) ?_)
  go_loopw [3, 11] (fun s i wr => ∃ (k m c2 : Nat) (A2 : Option Addr), k ≤ 4 ∧ m ≤ k ∧ i = .int .i64 k ∧ s = .slice A2 m c2 ∧ Hid (Own wr w.heap.size A2 m c2 (freeI M q.zone k)) ∧ Hid (Below w.heap.size w wr) ∧ Hid (Blk wr g 81 (dcells GW M b q).toArray)) (fun _ i _ => 4 - (intOf i).toNat)
  case atStart => exact ⟨0, 0, 0, none, Nat.zero_le _, Nat.zero_le _, rfl, rfl, Own.nil_ _ _, Below.refl _ _, HD.out.bx⟩
  case round =>
    obtain ⟨k, m, c2, A2, hk, hm, rfl, rfl, HO, HB, HX⟩ := hrel
    by_cases hlt : k < 4
    · obtain ⟨mk, hmk, hmk0, hmk1⟩ := HD.out.ok.at_ hlt
      have hfr : isFree M q.zone k = (decide (mk.1 = 0) && !decide ((k : Int) = q.zone)) := by
        unfold isFree
        simp [List.getD, hmk]
      obtain ⟨mi, sy, fu⟩ := mk
      simp only at hmk0 hmk1 hfr
      have hix := run_index_mark HD.out.ok.marks hmk wr
      simp only at hix
      have hg := HX.out.lt
      have HXA := hide (HX.out.alloc (.cells #[.int .i64 mi, .int .i64 sy, .bool fu] 74))
      have HBo := hide (Blk.new wr 74 #[.int .i64 mi, .int .i64 sy, .bool fu])
      have HOA := hide (HO.out.alloc (.cells #[.int .i64 mi, .int .i64 sy, .bool fu] 74))
      have HBA := hide (HB.out.alloc HB.out.size (.cells #[.int .i64 mi, .int .i64 sy, .bool fu] 74))
      have hsz : w.heap.size ≤ (wr.alloc (.cells #[.int .i64 mi, .int .i64 sy, .bool fu] 74)).heap.size := HBA.out.size
      have hz0 := (cell_facts HBo.out).1
      have hzn : (wr.alloc (.cells #[.int .i64 mi, .int .i64 sy, .bool fu] 74)).cell? ⟨g, 272, none⟩ = some (.int .i64 q.zone) := by
        rw [HXA.out.cell, List.getElem?_toArray]
        exact dcells_tail HD.out.ok 4
      have k0 : (0 : Int) ≤ (k : Int) := by omega
      have k1 : (k : Int) < ((4 : Nat) : Int) := by omega
      have k2 : (k : Int) < 4 := by omega
      have HFR := hide hfr
      clear hfr hmk
      by_cases e1 : mi = 0
      · subst e1
        by_cases e2 : (k : Int) = q.zone
        · have HN := hide (freeI_no (M := M) (zone := q.zone) (k := k) (by rw [HFR.out]; simp [e2]))
          have e3 : ((k : Int) != q.zone) = false := by simp [e2]
          have HE2 := hide e2
          clear e2
          go_wp2
          exact ⟨⟨k + 1, m, _, _, by omega, by omega, by go_num, rfl, by show Own _ _ _ _ _ _; rw [HN.out]; exact HOA.out, HBA.out, HXA.out⟩, by simp [intOf]; omega⟩
        · have HN := hide (freeI_yes (M := M) (zone := q.zone) (k := k) (by rw [HFR.out]; simp [e2]))
          have e3 : ((k : Int) != q.zone) = true := by simp [e2]
          have HE2 := hide e2
          clear e2
          obtain ⟨W1, hW1⟩ : ∃ W1, wr.alloc (.cells #[.int .i64 0, .int .i64 sy, .bool fu] 74) = W1 := ⟨_, rfl⟩
          rw [hW1] at HXA HOA HBA hsz hz0 hzn
          clear HBo
          go_wp2_with (at_builtin; refine wpList_append_ints rfl (.tmp 26) (.tmp 28) rfl w.heap.size m c2 (W1.heap.size + 1) 1 1 A2 (some ⟨W1.heap.size, 0, none⟩) (freeI M q.zone k) [(k : Int)] rfl (HOA.out.alloc _) rfl (Ints.one W1 (k : Int)) (by omega) (by simp; omega) ?_; intro A8 c8 w8 ho8 hg8 hat8; have HB8 := hide (below_app HBA.out hsz HOA.out (Nat.le_refl _) hg8); have HO8 := hide ho8; have HX8 := hide ((HXA.out.alloc _).grown hg8 (fun e => by have h5 := (HOA.out.block g e.symm).1; omega)); clear ho8 hg8 hat8)
          go_roundw
          case rel => exact ⟨k + 1, m + 1, _, _, by omega, by omega, by go_num, rfl, by show Own _ _ _ _ _ _; rw [HN.out]; exact HO8.out, HB8.out, HX8.out⟩
          case measure => simp [intOf]; omega
      · have HN := hide (freeI_no (M := M) (zone := q.zone) (k := k) (by rw [HFR.out]; simp [e1]))
        go_wp2
        exact ⟨⟨k + 1, m, _, _, by omega, by omega, by go_num, rfl, by show Own _ _ _ _ _ _; rw [HN.out]; exact HOA.out, HBA.out, HXA.out⟩, by simp [intOf]; omega⟩
    · obtain rfl : k = 4 := by omega
      go_wp2
      go_ret
      exact ⟨_, _, _, rfl, HO.out, HB.out⟩

theorem free_count {GW : List Int} {M : List Mk} {ds : Dev} (hok : GrOk GW M) (hdv : devG GW M = ds) (zone : Int) : (freeI M zone 4).length = freeN ds zone := by
  unfold freeI freeN
  rw [List.length_map]
  congr 1
  apply List.filter_congr
  intro k hk
  have hk : k < 4 := List.mem_range.1 hk
  obtain ⟨mk, hmk, h0, h1⟩ := hok.at_ hk
  have hz : zat ds k = zoneG GW k mk := by
    unfold zat
    rw [List.getD, ← hdv, devG_get hmk]
    rfl
  unfold isFree emptyK
  rw [hz, Bool.and_comm]
  congr 1
  rw [List.getD, hmk, Option.getD_some]
  unfold zoneG
  have hl : ((GW.drop (k * 64)).take mk.1.toNat).length = mk.1.toNat := by rw [List.length_take, List.length_drop, hok.words]; omega
  rw [Bool.eq_iff_iff, decide_eq_true_eq, List.isEmpty_iff]
  show _ ↔ (GW.drop (k * 64)).take mk.1.toNat = []
  rw [← List.length_eq_zero_iff, hl]
  omega

set_option maxHeartbeats 6400000 in
theorem implVFree (q : Vq) (B : Nat) (w : World) (hv : VolI w B q) (hB : B ≤ w.heap.size) (hp : VolP q.vol) :
    Calls Tryz.prog 16 #[q.val] w fun e w' => e = .returned (.int .i64 (freeN q.vol.dev q.vol.zone)) ∧ Below w.heap.size w w' := by
  obtain ⟨W0, hW0⟩ : ∃ W0, w.alloc (.cells (boxV q) 29) = W0 := ⟨_, rfl⟩
  have HV0 : Hid (VV w B q W0) := by rw [← hW0]; exact VV.start w B q hv hB
  have HBB := hide hB
  have HVI := hide hv
  have HD := hide fun (W : World) (h : VV w B q W) => implDraft q B W h.vi (h.hB hB) hp
  have HT := hide draftI
  have HZ := hide ZDL_length
  clear hv hp
  unfold boxV at hW0
  unfold Vq.val at HD ⊢
  go_enter Tryz.func16, Tryz.ntmps16
  obtain ⟨c0, c1, c2, c3, c4, c5⟩ := HV0.out.cells
  go_wp2_with (first | (with_reducible refine wpList_alloc_draft rfl rfl ?_))
  refine (HD.out _ HV0.out).mono ?_
  rintro e w1 ⟨GW, M, b, f, rfl, hok, hdv, hbb, hsh, hti, hb1⟩
  have HOK := hide hok
  have HZ0 := hide (show Blk (w1.alloc (.cells ZD 81)) w1.heap.size 81 ZDL.toArray from Blk.new _ _ _)
  have HDR : Hid (∀ w2, Blk w2 w1.heap.size 81 (dcells GW M b q).toArray → (w1.alloc (.cells ZD 81)).grownBy w2 (some w1.heap.size) → Dr w w2 w1.heap.size B GW M b f q) := fun w2 hw hg => Dr.mk' HVI.out hB HV0.out.bl hok hdv hbb hsh hti hb1 hw hg
  clear hok hdv hbb hsh hti hb1 HV0 hW0 c0 c1 c2 c3 c4 c5 HD HVI
  go_wp2_with (first
    | (with_reducible refine wpList_alloc_draft rfl rfl ?_)
    | (refine wpList_store_blk rfl 81 _ _ rfl w1.heap.size rfl 81 ZDL (dcells GW M b q) rfl HZ0.out (by rw [dcells_length HOK.out, HZ.out]) (by rw [HT.out, dcells_length HOK.out]) dcells_one ?_; intro w2 hw2 hg2; have HD2 := hide (HDR.out w2 hw2.out hg2); clear hg2))
  have hs2 := HD2.out.bl.size
  have HCN := hide (free_count HD2.out.di.ok HD2.out.dev q.zone)
  refine (implFree w1.heap.size B b GW M q w2 HD2.out.di).mono ?_
  rintro e w3 ⟨A3, m3, c3, rfl, ho3, hb3⟩
  have HB3 := hide (HD2.out.bl.trans (hb3.mono hs2))
  have hm3 : m3 = freeN q.vol.dev q.vol.zone := ho3.1.symm.trans HCN.out
  have HM3 := hide hm3
  have hm4 : m3 ≤ 4 := by rw [← ho3.1]; exact freeI_len _ _ _
  clear ho3 hb3 hm3 HCN
  go_wp2
  go_ret
  exact ⟨by rw [← HM3.out]; rfl, HB3.out⟩
end Go.Proofs.YtfianpjoifcphaaGreat

/- LawVF -/
namespace Go.Proofs.YtfianpjoifcphaaGreat
open Go.RowKit
set_option linter.unusedVariables false
set_option maxRecDepth 100000

theorem newP_free : freeN newV.dev newV.zone = 3 := by decide
theorem new12_zero {ms : List Wh} (h : ms = new12) {k : Nat} (hk : k < 12) : ∃ x, ms[k]? = some x ∧ x.1 = 0 := by
  subst h
  refine ⟨wh0, ?_, rfl⟩
  unfold new12
  rw [List.getElem?_replicate, if_pos hk]
/-- the formatted volume in memory: out's block g -/
structure FW (w W : World) (g : Nat) (B : Nat) (q : Vq) : Prop where
  vi : VolI W B q
  bx : Blk W g 29 (boxV q)
  bl : Below w.heap.size w W
  hB : B ≤ W.heap.size
theorem FW.below {w W W' : World} {g B : Nat} {q : Vq} (h : FW w W g B q) (hb : Below W.heap.size W W') : FW w W' g B q :=
  ⟨h.vi.below hb h.hB, h.bx.below hb h.bx.lt, h.bl.trans (hb.mono h.bl.size), Nat.le_trans h.hB hb.size⟩

set_option maxHeartbeats 6400000 in
theorem formatV_walk (A : Option Addr) (n c : Nat) (bs : Nat → Int) (w : World) (hb : Bytes w w.heap.size A n bs) (hn : n ≤ c) (hc : c ≤ maxLen) :
    Calls Tryz.prog 3 #[.slice A n c] w fun e w' => e = .returned (.bool true) ∧ Below w.heap.size w w' := by
  by_cases hbig : 1048576 < n
  · go_enter Tryz.func3, Tryz.ntmps3
    go_wp2
    go_ret
    exact ⟨rfl, Below.refl _ _⟩
  · go_enter Tryz.func3, Tryz.ntmps3
    go_wp2_with fail
    refine (drawVFormat_any A n c bs _ hb hn hc).mono ?_
    rintro e w1 ⟨A1, m, c1, qs, rfl, hz1, hm, hmc, hcm, hl1, hB1⟩
    have HB1 := hide hB1
    have hs1 := hB1.size
    have HP1 := hide (implVFormat A1 m c1 _ qs w1 hz1 (Nat.le_refl _) (by omega))
    have HP2 := hide fun (W : World) (h : Below w1.heap.size w1 W) => specVFormat A1 m c1 _ qs W (hz1.below h (Nat.le_refl _)) h.size (by omega)
    have HP3 := hide fun (W : World) (h : Below w1.heap.size w1 W) => implDV A1 m c1 _ qs W (hz1.below h (Nat.le_refl _)) h.size (by omega)
    clear hb hB1 hz1 hl1
    obtain ⟨v, hv⟩ : ∃ v, devV (zns qs) = v := ⟨_, rfl⟩
    rw [hv] at HP1 HP2 HP3
    obtain ⟨V, hV⟩ : ∃ V, fmtV v = V := ⟨_, rfl⟩
    obtain ⟨cd, hcd⟩ : ∃ cd, fmtC v = cd := ⟨_, rfl⟩
    rw [hV, hcd] at HP1 HP2
    have HVL := hide hV
    have HCD := hide hcd
    have HNV := hide Blk.newV
    clear hv hV hcd
    go_wp2_with fail
    refine HP1.out.mono ?_
    rintro e w2a ⟨f, gs, ms, hs, rfl, hf, hg2, hv2, hb2⟩
    have HI2 := hide (FV.voli hg2 hf.map)
    have HQ2 := hide hv2
    have HMS := hide (show ms = V.map by rw [← hv2]; rfl)
    have HB2a := hide hb2
    have HQS := hide (⟨by have := hf.d4; unfold maxLen; show f.dn ≤ _; omega, Nat.zero_le _, by have := hf.m12; show f.mn ≤ _; omega, by have := hf.h12; unfold maxLen; show f.hn ≤ _; omega⟩ : (f.vq gs ms hs).dn ≤ maxLen ∧ (f.vq gs ms hs).sn ≤ maxLen ∧ (f.vq gs ms hs).mn ≤ 1000000000 ∧ (f.vq gs ms hs).hn ≤ maxLen)
    clear hg2 hv2 hb2 hf HP1
    go_wp2_with (refine wpList_store_vol rfl _ _ rfl w2a.heap.size rfl vq0 (f.vq gs ms hs) rfl (HNV.out w2a) ?_; intro w2 hk2 hg2)
    have HW2 := hide (HB2a.out.trans ((below_own hg2).mono HB2a.out.size))
    have HF2 : Hid (FW w w2 w2a.heap.size w2a.heap.size (f.vq gs ms hs)) := ⟨HI2.out.below (below_own hg2) (Nat.le_refl _), hk2.out, HB1.out.trans (HW2.out.mono hs1), (below_own hg2).size⟩
    clear HB2a HI2 hk2 hg2
    generalize w2a.heap.size = g at HF2 ⊢
    go_wp2_with fail
    refine (HP2.out _ HW2.out).mono ?_
    rintro e w3a ⟨q3, rfl, ho3, hz3, hb3⟩
    have HF3a := hide (HF2.out.below hb3)
    have HW3a := hide (HW2.out.trans (hb3.mono HW2.out.size))
    have HO3 := hide ho3.voli
    have HG3 := hide (HQ2.out.trans hz3.symm)
    clear ho3 hz3 hb3 HP2 HF2 HW2
    go_wp2_with (refine wpList_store_vol rfl _ _ rfl w3a.heap.size rfl vq0 q3 rfl (HNV.out w3a) ?_; intro w3 hk3 hg3; have HF3 := hide (HF3a.out.below (below_own hg3)); have HO4 := hide (HO3.out.below (below_own hg3) (Nat.le_refl _)); have HW3 := hide (HW3a.out.trans ((below_own hg3).mono HW3a.out.size)); have hs3 := (below_own hg3).size; clear hg3; obtain ⟨x0, x1, x2, x3, x4, x5⟩ := box_cells HF3.out.bx; obtain ⟨y0, y1, y2, y3, y4, y5⟩ := box_cells hk3.out; simp only [FV.vq] at x0 x1 x2 x3 x4 x5)
    refine (sameVol_yes (f.vq gs ms hs) q3 g _ w3 HF3.out.vi HF3.out.hB HO4.out hs3 HG3.out HQS.out.1 HQS.out.2.1 HQS.out.2.2.1 HQS.out.2.2.2).mono ?_
    rintro e w4 ⟨rfl, hb4⟩
    have HF4 := hide (HF3.out.below hb4)
    have HW4 := hide (HW3.out.trans (hb4.mono HW3.out.size))
    clear hb4 HF3 HW3 HO4 HO3 HG3 hk3 x0 x1 x2 x3 x4 x5 y0 y1 y2 y3 y4 y5 HF3a HW3a hs3
    go_wp2_with fail
    refine (HP3.out _ HW4.out).mono ?_
    rintro e w5 ⟨rfl, hb5⟩
    have HF5 := hide (HF4.out.below hb5)
    clear hb5 HF4 HW4 HP3
    rcases v with _ | _
    · obtain rfl : cd = 3 := HCD.out.symm
      go_wp2
      go_ret
      exact ⟨rfl, HF5.out.bl⟩
    · obtain rfl : cd = 0 := HCD.out.symm
      obtain rfl : V = newV := HVL.out.symm
      have HVP := hide (show VolP (f.vq gs ms hs).vol by rw [HQ2.out]; exact newP)
      obtain ⟨x0, x1, x2, x3, x4, x5⟩ := box_cells HF5.out.bx
      simp only [FV.vq] at x0 x1 x2 x3 x4 x5
      go_wp2_with fail
      refine (implAll_of (f.vq gs ms hs) g (fun _ => 0) w5 HF5.out.vi HF5.out.hB HVP.out (fun W g2 b k GW M ff hk hd => ?_)).mono ?_
      · obtain ⟨x, hx, h0⟩ := new12_zero HMS.out hk
        exact implValue0 g2 g b k GW M (f.vq gs ms hs) W hd.di (hd.di.map.1.symm.trans (by show ms.length = 12; rw [HMS.out]; rfl)) hk x hx h0
      rintro e w6 ⟨A6, c6, rfl, ho6, hb6⟩
      have HF6 := hide (HF5.out.below hb6)
      have HO6 := hide ho6
      clear hb6 ho6 HF5 x0 x1 x2 x3 x4 x5
      have HVV := hide (implVV (f.vq gs ms hs) g)
      have HVF := hide (implVFree (f.vq gs ms hs) g)
      have HFN := hide (show freeN (f.vq gs ms hs).vol.dev (f.vq gs ms hs).vol.zone = 3 by rw [HQ2.out]; exact newP_free)
      go_wp2
      go_loopw [9] (fun i wr => ∃ k : Nat, k ≤ 12 ∧ i = .int .i64 k ∧ wr = w6) (fun i _ => 12 - (intOf i).toNat)
      case atStart => exact ⟨0, Nat.zero_le _, rfl, by trivial⟩
      case round =>
        obtain ⟨k, hk, rfl, rfl⟩ := hrel
        by_cases hlt : k < 12
        · obtain ⟨ad, rfl, hab, hc⟩ := HO6.out.ints.at_ hlt
          rw [show ((List.range 12).map (fun _ => (0 : Int))).getD k 0 = 0 by
            rw [List.getD, List.getElem?_map]
            cases (List.range 12)[k]? <;> rfl] at hc
          have k0 : (0 : Int) ≤ (k : Int) := by omega
          have k1 : (k : Int) < ((12 : Nat) : Int) := by omega
          have k2 : (k : Int) < 12 := by omega
          go_wp2
          go_roundw
          case rel => exact ⟨k + 1, by omega, by go_num, by trivial⟩
          case measure => simp [intOf]; omega
        · obtain ⟨x0, x1, x2, x3, x4, x5⟩ := box_cells HF6.out.bx
          simp only [FV.vq] at x0 x1 x2 x3 x4 x5
          go_wp2_with fail
          refine (HVV.out wr HF6.out.vi HF6.out.hB HVP.out).mono ?_
          rintro e w7 ⟨rfl, hb7⟩
          have HF7 := hide (HF6.out.below hb7)
          clear hb7 x0 x1 x2 x3 x4 x5
          obtain ⟨x0, x1, x2, x3, x4, x5⟩ := box_cells HF7.out.bx
          simp only [FV.vq] at x0 x1 x2 x3 x4 x5
          go_wp2_with fail
          refine (HVF.out w7 HF7.out.vi HF7.out.hB HVP.out).mono ?_
          rintro e w8 ⟨rfl, hb8⟩
          have HF8 := hide (HF7.out.below hb8)
          clear hb8
          rw [HFN.out]
          go_wp2
          go_ret
          exact ⟨rfl, HF8.out.bl⟩
end Go.Proofs.YtfianpjoifcphaaGreat
