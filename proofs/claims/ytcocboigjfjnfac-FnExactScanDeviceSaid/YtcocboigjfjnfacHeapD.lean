/-
  container/heap.down over the merger.
-/
import Derived.Test.YtcocboigjfjnfacHeapI
namespace Go.Proofs.Ytcocboigjfjnfac
open Go.RowKit
set_option linter.unusedVariables false
set_option maxRecDepth 100000

theorem mg_cell {w : World} {base b n c : Nat} {A : Option Addr} {hs : List Hq} (h : Mg w base b A n c hs) : w.cell? ⟨b, 0, none⟩ = some (.slice A n c) := by
  have c0 := h.cell.cell 0
  simpa only [List.getElem?_toArray, List.getElem?_cons_zero] using c0

def DownRet (e : Ending) : Prop := ∃ v, e = .returned (.bool v)
set_option maxHeartbeats 12800000 in
theorem down_any (base b n c m : Nat) (A : Option Addr) (hs : List Hq) (w : World) (hm : Mg w base b A n c hs) (hmn : m ≤ n) (hd : HpDn (keyL (fnH hs)) m 0) :
    Calls Try.prog 86 #[hpV b, .int .i64 0, .int .i64 m] w fun e w' => DownRet e ∧ ∃ hs', HeapPost w base b n A c hs m w' hs' := by
  have hn := hm.small
  have HM := hide hm
  have HD := hide hd
  clear hm hd
  unfold hpV
  go_enter Try.func86, Try.ntmps86
  go_wp2
  go_loopw [7] (fun iv wr => ∃ (k : Nat) (ls : List Hq), k ≤ m ∧ iv = .int .i64 k ∧ Hid (Mg wr base b A n c ls) ∧ Hid (ls.Perm hs) ∧ Hid (∀ q, m ≤ q → ls[q]? = hs[q]?) ∧ Hid (HpDn (keyL (fnH ls)) m k) ∧ Hid (Trn base w wr)) (fun iv _ => m - (intOf iv).toNat)
  case atStart => exact ⟨0, hs, Nat.zero_le _, rfl, HM.out, List.Perm.refl _, fun q _ => rfl, HD.out, Trn.refl _ _⟩
  case round =>
    obtain ⟨k, ls, hk, rfl, HL, HP, HR, HH, HT⟩ := hrel
    obtain ⟨J1, hJ1⟩ : ∃ J, 2 * k + 1 = J := ⟨_, rfl⟩
    obtain ⟨J2, hJ2⟩ : ∃ J, 2 * k + 2 = J := ⟨_, rfl⟩
    have e1 : IntKind.i64.wrap (2 * (k : Int)) = 2 * (k : Int) := IntWalk.i64_in _ (by omega)
    have e2 : IntKind.i64.wrap (2 * (k : Int) + 1) = (J1 : Int) := IntWalk.i64_in _ (by omega) |>.trans (by omega)
    have e3 : IntKind.i64.wrap ((J1 : Int) + 1) = (J2 : Int) := IntWalk.i64_in _ (by omega) |>.trans (by omega)
    have e4 : ¬ (J1 : Int) < 0 := by omega
    by_cases h1 : J1 < m
    · have h1' : ¬ (m : Int) ≤ (J1 : Int) := by omega
      by_cases h2 : J2 < m
      · have h2' : (J2 : Int) < (m : Int) := by omega
        have hml := meth_less b n c A wr (mg_cell HL.out)
        have HLS := hide (less_any base b n c J2 J1 A ls wr HL.out (by omega) (by omega))
        by_cases hl : ltF (keyL (fnH ls) J2) (keyL (fnH ls) J1)
        · have hd : decide (cmpF (keyL (fnH ls) J2) (keyL (fnH ls) J1) < 0) = true := decide_eq_true (cmpF_lt.2 hl)
          rw [hd] at HLS
          have HCH : Hid (Child (keyL (fnH ls)) m k J2) := by show Child _ _ _ _; rw [← hJ2]; exact child_right (by omega) (by rw [show 2 * k + 2 = J2 from hJ2, show 2 * k + 1 = J1 from hJ1]; exact hl)
          clear hl hd hJ1 hJ2
          go_wp2_with fail
          refine HLS.out.mono ?_
          rintro e w1 ⟨rfl, hb1⟩
          have HL1 := hide (HL.out.below hb1 HL.out.bw)
          have HT1 := hide (HT.out.trans (.of_below hb1 HL.out.bw))
          clear hb1 hml
          have hJm : J2 < m := HCH.out.lt
          have hJk : k < J2 := by have := HCH.out.par; have := HCH.out.pos; omega
          have hml2 := meth_less b n c A w1 (mg_cell HL1.out)
          have HLS2 := hide (less_any base b n c J2 k A ls w1 HL1.out (by omega) (by omega))
          by_cases hl2 : ltF (keyL (fnH ls) J2) (keyL (fnH ls) k)
          · have hd2 : decide (cmpF (keyL (fnH ls) J2) (keyL (fnH ls) k) < 0) = true := decide_eq_true (cmpF_lt.2 hl2)
            rw [hd2] at HLS2
            have HSTEP := hide (HH.out.step HCH.out hl2)
            clear hl2 hd2
            go_wp2_with fail
            refine HLS2.out.mono ?_
            rintro e w2 ⟨rfl, hb2⟩
            have HL2 := hide (HL1.out.below hb2 HL1.out.bw)
            have HT2 := hide (HT1.out.trans (.of_below hb2 HL1.out.bw))
            have hms := meth_swap b n c A w2 (mg_cell HL2.out)
            clear hb2 hml2
            have HSW := hide (swap_any base b n c k J2 A ls w2 HL2.out (by omega) (by omega))
            go_wp2_with fail
            refine HSW.out.mono ?_
            rintro e w3 ⟨rfl, hm3, ht3⟩
            have HL3 := hide hm3
            have HT3 := hide (HT2.out.trans ht3)
            clear hm3 ht3 hms
            go_wp2
            go_roundw
            case rel => exact ⟨J2, swL ls k J2, by omega, rfl, HL3.out, (swL_perm ls k J2).trans HP.out, fun q hq => (swL_rest ls (by rw [HL.out.len]; omega) (by rw [HL.out.len]; omega) (by omega) (by omega)).trans (HR.out q hq), by show HpDn _ _ _; rw [keyL_swp (by rw [HL.out.len]; omega) (by rw [HL.out.len]; omega)]; exact HSTEP.out, HT3.out⟩
            case measure => simp [intOf]; omega
          · have hd2 : decide (cmpF (keyL (fnH ls) J2) (keyL (fnH ls) k) < 0) = false := decide_eq_false (fun h => hl2 (cmpF_lt.1 h))
            rw [hd2] at HLS2
            have HDONE := hide (HH.out.done HCH.out hl2)
            clear hl2 hd2
            go_wp2_with fail
            refine HLS2.out.mono ?_
            rintro e w2 ⟨rfl, hb2⟩
            have HL2 := hide (HL1.out.below hb2 HL1.out.bw)
            have HT2 := hide (HT1.out.trans (.of_below hb2 HL1.out.bw))
            clear hb2 hml2
            go_wp2
            go_ret
            exact ⟨⟨_, rfl⟩, ls, HL2.out, HP.out, HR.out, HDONE.out, HT2.out⟩
        · have hd : decide (cmpF (keyL (fnH ls) J2) (keyL (fnH ls) J1) < 0) = false := decide_eq_false (fun h => hl (cmpF_lt.1 h))
          rw [hd] at HLS
          have HCH : Hid (Child (keyL (fnH ls)) m k J1) := by show Child _ _ _ _; rw [← hJ1]; exact child_left (by omega) (by rw [show 2 * k + 2 = J2 from hJ2, show 2 * k + 1 = J1 from hJ1]; exact hl)
          clear hl hd hJ1 hJ2
          go_wp2_with fail
          refine HLS.out.mono ?_
          rintro e w1 ⟨rfl, hb1⟩
          have HL1 := hide (HL.out.below hb1 HL.out.bw)
          have HT1 := hide (HT.out.trans (.of_below hb1 HL.out.bw))
          clear hb1 hml
          have hJm : J1 < m := HCH.out.lt
          have hJk : k < J1 := by have := HCH.out.par; have := HCH.out.pos; omega
          have hml2 := meth_less b n c A w1 (mg_cell HL1.out)
          have HLS2 := hide (less_any base b n c J1 k A ls w1 HL1.out (by omega) (by omega))
          by_cases hl2 : ltF (keyL (fnH ls) J1) (keyL (fnH ls) k)
          · have hd2 : decide (cmpF (keyL (fnH ls) J1) (keyL (fnH ls) k) < 0) = true := decide_eq_true (cmpF_lt.2 hl2)
            rw [hd2] at HLS2
            have HSTEP := hide (HH.out.step HCH.out hl2)
            clear hl2 hd2
            go_wp2_with fail
            refine HLS2.out.mono ?_
            rintro e w2 ⟨rfl, hb2⟩
            have HL2 := hide (HL1.out.below hb2 HL1.out.bw)
            have HT2 := hide (HT1.out.trans (.of_below hb2 HL1.out.bw))
            have hms := meth_swap b n c A w2 (mg_cell HL2.out)
            clear hb2 hml2
            have HSW := hide (swap_any base b n c k J1 A ls w2 HL2.out (by omega) (by omega))
            go_wp2_with fail
            refine HSW.out.mono ?_
            rintro e w3 ⟨rfl, hm3, ht3⟩
            have HL3 := hide hm3
            have HT3 := hide (HT2.out.trans ht3)
            clear hm3 ht3 hms
            go_wp2
            go_roundw
            case rel => exact ⟨J1, swL ls k J1, by omega, rfl, HL3.out, (swL_perm ls k J1).trans HP.out, fun q hq => (swL_rest ls (by rw [HL.out.len]; omega) (by rw [HL.out.len]; omega) (by omega) (by omega)).trans (HR.out q hq), by show HpDn _ _ _; rw [keyL_swp (by rw [HL.out.len]; omega) (by rw [HL.out.len]; omega)]; exact HSTEP.out, HT3.out⟩
            case measure => simp [intOf]; omega
          · have hd2 : decide (cmpF (keyL (fnH ls) J1) (keyL (fnH ls) k) < 0) = false := decide_eq_false (fun h => hl2 (cmpF_lt.1 h))
            rw [hd2] at HLS2
            have HDONE := hide (HH.out.done HCH.out hl2)
            clear hl2 hd2
            go_wp2_with fail
            refine HLS2.out.mono ?_
            rintro e w2 ⟨rfl, hb2⟩
            have HL2 := hide (HL1.out.below hb2 HL1.out.bw)
            have HT2 := hide (HT1.out.trans (.of_below hb2 HL1.out.bw))
            clear hb2 hml2
            go_wp2
            go_ret
            exact ⟨⟨_, rfl⟩, ls, HL2.out, HP.out, HR.out, HDONE.out, HT2.out⟩
      · have h2' : ¬ (J2 : Int) < (m : Int) := by omega
        have HCH : Hid (Child (keyL (fnH ls)) m k J1) := by show Child _ _ _ _; rw [← hJ1]; exact child_one (by omega) (by omega)
        clear hJ1 hJ2
        have hJm : J1 < m := HCH.out.lt
        have hJk : k < J1 := by have := HCH.out.par; have := HCH.out.pos; omega
        have hml2 := meth_less b n c A wr (mg_cell HL.out)
        have HLS2 := hide (less_any base b n c J1 k A ls wr HL.out (by omega) (by omega))
        by_cases hl2 : ltF (keyL (fnH ls) J1) (keyL (fnH ls) k)
        · have hd2 : decide (cmpF (keyL (fnH ls) J1) (keyL (fnH ls) k) < 0) = true := decide_eq_true (cmpF_lt.2 hl2)
          rw [hd2] at HLS2
          have HSTEP := hide (HH.out.step HCH.out hl2)
          clear hl2 hd2
          go_wp2_with fail
          refine HLS2.out.mono ?_
          rintro e w2 ⟨rfl, hb2⟩
          have HL2 := hide (HL.out.below hb2 HL.out.bw)
          have HT2 := hide (HT.out.trans (.of_below hb2 HL.out.bw))
          have hms := meth_swap b n c A w2 (mg_cell HL2.out)
          clear hb2 hml2
          have HSW := hide (swap_any base b n c k J1 A ls w2 HL2.out (by omega) (by omega))
          go_wp2_with fail
          refine HSW.out.mono ?_
          rintro e w3 ⟨rfl, hm3, ht3⟩
          have HL3 := hide hm3
          have HT3 := hide (HT2.out.trans ht3)
          clear hm3 ht3 hms
          go_wp2
          go_roundw
          case rel => exact ⟨J1, swL ls k J1, by omega, rfl, HL3.out, (swL_perm ls k J1).trans HP.out, fun q hq => (swL_rest ls (by rw [HL.out.len]; omega) (by rw [HL.out.len]; omega) (by omega) (by omega)).trans (HR.out q hq), by show HpDn _ _ _; rw [keyL_swp (by rw [HL.out.len]; omega) (by rw [HL.out.len]; omega)]; exact HSTEP.out, HT3.out⟩
          case measure => simp [intOf]; omega
        · have hd2 : decide (cmpF (keyL (fnH ls) J1) (keyL (fnH ls) k) < 0) = false := decide_eq_false (fun h => hl2 (cmpF_lt.1 h))
          rw [hd2] at HLS2
          have HDONE := hide (HH.out.done HCH.out hl2)
          clear hl2 hd2
          go_wp2_with fail
          refine HLS2.out.mono ?_
          rintro e w2 ⟨rfl, hb2⟩
          have HL2 := hide (HL.out.below hb2 HL.out.bw)
          have HT2 := hide (HT.out.trans (.of_below hb2 HL.out.bw))
          clear hb2 hml2
          go_wp2
          go_ret
          exact ⟨⟨_, rfl⟩, ls, HL2.out, HP.out, HR.out, HDONE.out, HT2.out⟩
    · have h1' : (m : Int) ≤ (J1 : Int) := by omega
      have HDONE := hide (HH.out.leaf (by omega))
      clear hJ1 hJ2
      go_wp2
      go_ret
      exact ⟨⟨_, rfl⟩, ls, HL.out, HP.out, HR.out, HDONE.out, HT.out⟩
end Go.Proofs.Ytcocboigjfjnfac
