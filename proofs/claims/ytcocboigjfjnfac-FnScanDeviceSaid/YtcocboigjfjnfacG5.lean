/-
  Texts in one: HeapI, HeapD, HeapP, HeapT, ImpN5, ScnD, LawN7. Plain.
-/
import Derived.Test.YtcocboigjfjnfacMeth
import Derived.Test.YtcocboigjfjnfacSortF
import Derived.Test.YtcocboigjfjnfacG3
import Derived.Test.YtcocboigjfjnfacG4
import Derived.Test.YtcocboigjfjnfacSameN
/- HeapI -/
namespace Go.Proofs.Ytcocboigjfjnfac
open Go.RowKit
set_option linter.unusedVariables false
set_option maxRecDepth 100000

/-- the merger behind the interface -/
def hpV (b : Nat) : Value := .iface 91 (.pointer (some ⟨b, 0, none⟩))

/-- lists exchanged: the same lists, in a heap -/
structure HeapPost (w : World) (base b n : Nat) (A : Option Addr) (c : Nat) (hs : List Hq) (m : Nat) (w' : World) (hs' : List Hq) : Prop where
  mg : Mg w' base b A n c hs'
  perm : hs'.Perm hs
  rest : ∀ k, m ≤ k → hs'[k]? = hs[k]?
  heap : HpOk (keyL (fnH hs')) m
  trn : Trn base w w'

theorem keyL_swp {hs : List Hq} {i j : Nat} (hi : i < hs.length) (hj : j < hs.length) : keyL (fnH (swL hs i j)) = swK (keyL (fnH hs)) i j := by
  unfold fnH
  rw [swL_map]
  exact keyL_sw (by rw [List.length_map]; exact hi) (by rw [List.length_map]; exact hj)
theorem swL_rest {α : Type} (l : List α) {i j k : Nat} (hi : i < l.length) (hj : j < l.length) (h1 : k ≠ i) (h2 : k ≠ j) : (swL l i j)[k]? = l[k]? := by rw [swL_get l hi hj, if_neg h1, if_neg h2]

theorem rest_none {w : World} {base b n c : Nat} {A : Option Addr} {ls hs : List Hq} (h : Mg w base b A n c ls) (hp : ls.Perm hs) {q : Nat} (hq : n ≤ q) : ls[q]? = hs[q]? := by
  rw [List.getElem?_eq_none (by rw [h.len]; exact hq), List.getElem?_eq_none (by rw [← hp.length_eq, h.len]; exact hq)]

set_option maxHeartbeats 6400000 in
theorem up_any (base b n c j : Nat) (A : Option Addr) (hs : List Hq) (w : World) (hm : Mg w base b A n c hs) (hj : j < n) (hu : HpUp (keyL (fnH hs)) n j) :
    Calls Try.prog 85 #[hpV b, .int .i64 j] w fun e w' => e = .returned (.tuple #[]) ∧ ∃ hs', HeapPost w base b n A c hs n w' hs' := by
  have hn := hm.small
  have HM := hide hm
  have HU := hide hu
  clear hm hu
  unfold hpV
  go_enter Try.func85, Try.ntmps85
  go_wp2
  go_loopw [1] (fun jv wr => ∃ (k : Nat) (ls : List Hq), k < n ∧ jv = .int .i64 k ∧ Hid (Mg wr base b A n c ls) ∧ Hid (ls.Perm hs) ∧ Hid (HpUp (keyL (fnH ls)) n k) ∧ Hid (Trn base w wr)) (fun jv _ => (intOf jv).toNat)
  case atStart => exact ⟨j, hs, hj, rfl, HM.out, List.Perm.refl _, HU.out, Trn.refl _ _⟩
  case round =>
    obtain ⟨k, ls, hk, rfl, HL, HP, HH, HT⟩ := hrel
    have c0 := HL.out.cell.cell 0
    simp only [List.getElem?_toArray, List.getElem?_cons_zero] at c0
    have hml := meth_less b n c A wr c0
    clear c0
    by_cases h0 : k = 0
    · subst h0
      have e1 : IntKind.i64.wrap (((0 : Nat) : Int) - 1) = -1 := rfl
      have e2 : ((-1 : Int)).tdiv 2 = 0 := rfl
      have e3 : IntKind.i64.wrap 0 = 0 := rfl
      go_wp2
      exact bodyPost_end (results_none Try.results85 _ _ _) rfl ⟨rfl, ls, HL.out, HP.out, fun q hq => rest_none HL.out HP.out hq, HH.out.done0, HT.out⟩
    · obtain ⟨m, hm⟩ : ∃ m, k = m + 1 := ⟨k - 1, by omega⟩
      obtain ⟨i, hi⟩ : ∃ i, m / 2 = i := ⟨_, rfl⟩
      have hik : i < k := by omega
      have e1 : IntKind.i64.wrap ((k : Int) - 1) = (m : Int) := IntWalk.i64_in _ (by omega) |>.trans (by omega)
      have e2 : ((m : Int)).tdiv 2 = (i : Int) := by rw [← hi]; rfl
      have e3 : IntKind.i64.wrap (i : Int) = (i : Int) := IntWalk.i64_in _ (by omega)
      have e4 : ((i : Int) == (k : Int)) = false := by simp; omega
      have hki : (k - 1) / 2 = i := by omega
      have HKI := hide hki
      have HLS := hide (less_any base b n c k i A ls wr HL.out hk (by omega))
      clear hm hi hki h0
      by_cases hl : ltF (keyL (fnH ls) k) (keyL (fnH ls) i)
      · have hd : decide (cmpF (keyL (fnH ls) k) (keyL (fnH ls) i) < 0) = true := decide_eq_true (cmpF_lt.2 hl)
        rw [hd] at HLS
        have HSTEP := hide (HH.out.step (show 0 < k by omega) hk HKI.out hl)
        clear hl hd
        go_wp2_with fail
        refine HLS.out.mono ?_
        rintro e w1 ⟨rfl, hb1⟩
        have HL1 := hide (HL.out.below hb1 HL.out.bw)
        have HT1 := hide (HT.out.trans (.of_below hb1 HL.out.bw))
        have c1 := HL1.out.cell.cell 0
        simp only [List.getElem?_toArray, List.getElem?_cons_zero] at c1
        have hms := meth_swap b n c A w1 c1
        clear c1 hb1 hml
        have HSW := hide (swap_any base b n c i k A ls w1 HL1.out (by omega) hk)
        go_wp2_with fail
        refine HSW.out.mono ?_
        rintro e w2 ⟨rfl, hm2, ht2⟩
        have HL2 := hide hm2
        have HT2 := hide (HT1.out.trans ht2)
        clear hm2 ht2 hms
        go_wp2
        go_roundw
        case rel => exact ⟨i, swL ls i k, by omega, rfl, HL2.out, (swL_perm ls i k).trans HP.out, by show HpUp _ _ _; rw [keyL_swp (by rw [HL.out.len]; omega) (by rw [HL.out.len]; exact hk)]; exact HSTEP.out, HT2.out⟩
        case measure => simp [intOf]; omega
      · have hd : decide (cmpF (keyL (fnH ls) k) (keyL (fnH ls) i) < 0) = false := decide_eq_false (fun h => hl (cmpF_lt.1 h))
        rw [hd] at HLS
        have HDONE := hide (HH.out.done (by rw [HKI.out]; exact hl))
        clear hl hd
        go_wp2_with fail
        refine HLS.out.mono ?_
        rintro e w1 ⟨rfl, hb1⟩
        have HL1 := hide (HL.out.below hb1 HL.out.bw)
        have HT1 := hide (HT.out.trans (.of_below hb1 HL.out.bw))
        clear hb1 hml
        go_wp2
        exact bodyPost_end (results_none Try.results85 _ _ _) rfl ⟨rfl, ls, HL1.out, HP.out, fun q hq => rest_none HL.out HP.out hq, HDONE.out, HT1.out⟩
end Go.Proofs.Ytcocboigjfjnfac

/- HeapD -/
namespace Go.Proofs.Ytcocboigjfjnfac
open Go.RowKit
set_option linter.unusedVariables false
set_option maxRecDepth 100000

theorem mg_cell {w : World} {base b n c : Nat} {A : Option Addr} {hs : List Hq} (h : Mg w base b A n c hs) : w.cell? ⟨b, 0, none⟩ = some (.slice A n c) := by
  have c0 := h.cell.cell 0
  simpa only [List.getElem?_toArray, List.getElem?_cons_zero] using c0

def DownRet (e : Ending) : Prop := ∃ v, e = .returned (.bool v)
set_option maxHeartbeats 12800000 in
theorem down_any (base b n c m : Nat) (A : Option Addr) (hs : List Hq) (w : World) (hm : Mg w base b A n c hs) (hmn : m ≤ n) (hd : HpDn (keyL (fnH hs)) m 0) :
    Calls Try.prog 86 #[hpV b, .int .i64 0, .int .i64 m] w fun e w' => DownRet e ∧ ∃ hs', HeapPost w base b n A c hs m w' hs' := by
  have hn := hm.small
  have HM := hide hm
  have HD := hide hd
  clear hm hd
  unfold hpV
  go_enter Try.func86, Try.ntmps86
  go_wp2
  go_loopw [7] (fun iv wr => ∃ (k : Nat) (ls : List Hq), k ≤ m ∧ iv = .int .i64 k ∧ Hid (Mg wr base b A n c ls) ∧ Hid (ls.Perm hs) ∧ Hid (∀ q, m ≤ q → ls[q]? = hs[q]?) ∧ Hid (HpDn (keyL (fnH ls)) m k) ∧ Hid (Trn base w wr)) (fun iv _ => m - (intOf iv).toNat)
  case atStart => exact ⟨0, hs, Nat.zero_le _, rfl, HM.out, List.Perm.refl _, fun q _ => rfl, HD.out, Trn.refl _ _⟩
  case round =>
    obtain ⟨k, ls, hk, rfl, HL, HP, HR, HH, HT⟩ := hrel
    obtain ⟨J1, hJ1⟩ : ∃ J, 2 * k + 1 = J := ⟨_, rfl⟩
    obtain ⟨J2, hJ2⟩ : ∃ J, 2 * k + 2 = J := ⟨_, rfl⟩
    have e1 : IntKind.i64.wrap (2 * (k : Int)) = 2 * (k : Int) := IntWalk.i64_in _ (by omega)
    have e2 : IntKind.i64.wrap (2 * (k : Int) + 1) = (J1 : Int) := IntWalk.i64_in _ (by omega) |>.trans (by omega)
    have e3 : IntKind.i64.wrap ((J1 : Int) + 1) = (J2 : Int) := IntWalk.i64_in _ (by omega) |>.trans (by omega)
    have e4 : ¬ (J1 : Int) < 0 := by omega
    by_cases h1 : J1 < m
    · have h1' : ¬ (m : Int) ≤ (J1 : Int) := by omega
      by_cases h2 : J2 < m
      · have h2' : (J2 : Int) < (m : Int) := by omega
        have hml := meth_less b n c A wr (mg_cell HL.out)
        have HLS := hide (less_any base b n c J2 J1 A ls wr HL.out (by omega) (by omega))
        by_cases hl : ltF (keyL (fnH ls) J2) (keyL (fnH ls) J1)
        · have hd : decide (cmpF (keyL (fnH ls) J2) (keyL (fnH ls) J1) < 0) = true := decide_eq_true (cmpF_lt.2 hl)
          rw [hd] at HLS
          have HCH : Hid (Child (keyL (fnH ls)) m k J2) := by show Child _ _ _ _; rw [← hJ2]; exact child_right (by omega) (by rw [show 2 * k + 2 = J2 from hJ2, show 2 * k + 1 = J1 from hJ1]; exact hl)
          clear hl hd hJ1 hJ2
          go_wp2_with fail
          refine HLS.out.mono ?_
          rintro e w1 ⟨rfl, hb1⟩
          have HL1 := hide (HL.out.below hb1 HL.out.bw)
          have HT1 := hide (HT.out.trans (.of_below hb1 HL.out.bw))
          clear hb1 hml
          have hJm : J2 < m := HCH.out.lt
          have hJk : k < J2 := by have := HCH.out.par; have := HCH.out.pos; omega
          have hml2 := meth_less b n c A w1 (mg_cell HL1.out)
          have HLS2 := hide (less_any base b n c J2 k A ls w1 HL1.out (by omega) (by omega))
          by_cases hl2 : ltF (keyL (fnH ls) J2) (keyL (fnH ls) k)
          · have hd2 : decide (cmpF (keyL (fnH ls) J2) (keyL (fnH ls) k) < 0) = true := decide_eq_true (cmpF_lt.2 hl2)
            rw [hd2] at HLS2
            have HSTEP := hide (HH.out.step HCH.out hl2)
            clear hl2 hd2
            go_wp2_with fail
            refine HLS2.out.mono ?_
            rintro e w2 ⟨rfl, hb2⟩
            have HL2 := hide (HL1.out.below hb2 HL1.out.bw)
            have HT2 := hide (HT1.out.trans (.of_below hb2 HL1.out.bw))
            have hms := meth_swap b n c A w2 (mg_cell HL2.out)
            clear hb2 hml2
            have HSW := hide (swap_any base b n c k J2 A ls w2 HL2.out (by omega) (by omega))
            go_wp2_with fail
            refine HSW.out.mono ?_
            rintro e w3 ⟨rfl, hm3, ht3⟩
            have HL3 := hide hm3
            have HT3 := hide (HT2.out.trans ht3)
            clear hm3 ht3 hms
            go_wp2
            go_roundw
            case rel => exact ⟨J2, swL ls k J2, by omega, rfl, HL3.out, (swL_perm ls k J2).trans HP.out, fun q hq => (swL_rest ls (by rw [HL.out.len]; omega) (by rw [HL.out.len]; omega) (by omega) (by omega)).trans (HR.out q hq), by show HpDn _ _ _; rw [keyL_swp (by rw [HL.out.len]; omega) (by rw [HL.out.len]; omega)]; exact HSTEP.out, HT3.out⟩
            case measure => simp [intOf]; omega
          · have hd2 : decide (cmpF (keyL (fnH ls) J2) (keyL (fnH ls) k) < 0) = false := decide_eq_false (fun h => hl2 (cmpF_lt.1 h))
            rw [hd2] at HLS2
            have HDONE := hide (HH.out.done HCH.out hl2)
            clear hl2 hd2
            go_wp2_with fail
            refine HLS2.out.mono ?_
            rintro e w2 ⟨rfl, hb2⟩
            have HL2 := hide (HL1.out.below hb2 HL1.out.bw)
            have HT2 := hide (HT1.out.trans (.of_below hb2 HL1.out.bw))
            clear hb2 hml2
            go_wp2
            go_ret
            exact ⟨⟨_, rfl⟩, ls, HL2.out, HP.out, HR.out, HDONE.out, HT2.out⟩
        · have hd : decide (cmpF (keyL (fnH ls) J2) (keyL (fnH ls) J1) < 0) = false := decide_eq_false (fun h => hl (cmpF_lt.1 h))
          rw [hd] at HLS
          have HCH : Hid (Child (keyL (fnH ls)) m k J1) := by show Child _ _ _ _; rw [← hJ1]; exact child_left (by omega) (by rw [show 2 * k + 2 = J2 from hJ2, show 2 * k + 1 = J1 from hJ1]; exact hl)
          clear hl hd hJ1 hJ2
          go_wp2_with fail
          refine HLS.out.mono ?_
          rintro e w1 ⟨rfl, hb1⟩
          have HL1 := hide (HL.out.below hb1 HL.out.bw)
          have HT1 := hide (HT.out.trans (.of_below hb1 HL.out.bw))
          clear hb1 hml
          have hJm : J1 < m := HCH.out.lt
          have hJk : k < J1 := by have := HCH.out.par; have := HCH.out.pos; omega
          have hml2 := meth_less b n c A w1 (mg_cell HL1.out)
          have HLS2 := hide (less_any base b n c J1 k A ls w1 HL1.out (by omega) (by omega))
          by_cases hl2 : ltF (keyL (fnH ls) J1) (keyL (fnH ls) k)
          · have hd2 : decide (cmpF (keyL (fnH ls) J1) (keyL (fnH ls) k) < 0) = true := decide_eq_true (cmpF_lt.2 hl2)
            rw [hd2] at HLS2
            have HSTEP := hide (HH.out.step HCH.out hl2)
            clear hl2 hd2
            go_wp2_with fail
            refine HLS2.out.mono ?_
            rintro e w2 ⟨rfl, hb2⟩
            have HL2 := hide (HL1.out.below hb2 HL1.out.bw)
            have HT2 := hide (HT1.out.trans (.of_below hb2 HL1.out.bw))
            have hms := meth_swap b n c A w2 (mg_cell HL2.out)
            clear hb2 hml2
            have HSW := hide (swap_any base b n c k J1 A ls w2 HL2.out (by omega) (by omega))
            go_wp2_with fail
            refine HSW.out.mono ?_
            rintro e w3 ⟨rfl, hm3, ht3⟩
            have HL3 := hide hm3
            have HT3 := hide (HT2.out.trans ht3)
            clear hm3 ht3 hms
            go_wp2
            go_roundw
            case rel => exact ⟨J1, swL ls k J1, by omega, rfl, HL3.out, (swL_perm ls k J1).trans HP.out, fun q hq => (swL_rest ls (by rw [HL.out.len]; omega) (by rw [HL.out.len]; omega) (by omega) (by omega)).trans (HR.out q hq), by show HpDn _ _ _; rw [keyL_swp (by rw [HL.out.len]; omega) (by rw [HL.out.len]; omega)]; exact HSTEP.out, HT3.out⟩
            case measure => simp [intOf]; omega
          · have hd2 : decide (cmpF (keyL (fnH ls) J1) (keyL (fnH ls) k) < 0) = false := decide_eq_false (fun h => hl2 (cmpF_lt.1 h))
            rw [hd2] at HLS2
            have HDONE := hide (HH.out.done HCH.out hl2)
            clear hl2 hd2
            go_wp2_with fail
            refine HLS2.out.mono ?_
            rintro e w2 ⟨rfl, hb2⟩
            have HL2 := hide (HL1.out.below hb2 HL1.out.bw)
            have HT2 := hide (HT1.out.trans (.of_below hb2 HL1.out.bw))
            clear hb2 hml2
            go_wp2
            go_ret
            exact ⟨⟨_, rfl⟩, ls, HL2.out, HP.out, HR.out, HDONE.out, HT2.out⟩
      · have h2' : ¬ (J2 : Int) < (m : Int) := by omega
        have HCH : Hid (Child (keyL (fnH ls)) m k J1) := by show Child _ _ _ _; rw [← hJ1]; exact child_one (by omega) (by omega)
        clear hJ1 hJ2
        have hJm : J1 < m := HCH.out.lt
        have hJk : k < J1 := by have := HCH.out.par; have := HCH.out.pos; omega
        have hml2 := meth_less b n c A wr (mg_cell HL.out)
        have HLS2 := hide (less_any base b n c J1 k A ls wr HL.out (by omega) (by omega))
        by_cases hl2 : ltF (keyL (fnH ls) J1) (keyL (fnH ls) k)
        · have hd2 : decide (cmpF (keyL (fnH ls) J1) (keyL (fnH ls) k) < 0) = true := decide_eq_true (cmpF_lt.2 hl2)
          rw [hd2] at HLS2
          have HSTEP := hide (HH.out.step HCH.out hl2)
          clear hl2 hd2
          go_wp2_with fail
          refine HLS2.out.mono ?_
          rintro e w2 ⟨rfl, hb2⟩
          have HL2 := hide (HL.out.below hb2 HL.out.bw)
          have HT2 := hide (HT.out.trans (.of_below hb2 HL.out.bw))
          have hms := meth_swap b n c A w2 (mg_cell HL2.out)
          clear hb2 hml2
          have HSW := hide (swap_any base b n c k J1 A ls w2 HL2.out (by omega) (by omega))
          go_wp2_with fail
          refine HSW.out.mono ?_
          rintro e w3 ⟨rfl, hm3, ht3⟩
          have HL3 := hide hm3
          have HT3 := hide (HT2.out.trans ht3)
          clear hm3 ht3 hms
          go_wp2
          go_roundw
          case rel => exact ⟨J1, swL ls k J1, by omega, rfl, HL3.out, (swL_perm ls k J1).trans HP.out, fun q hq => (swL_rest ls (by rw [HL.out.len]; omega) (by rw [HL.out.len]; omega) (by omega) (by omega)).trans (HR.out q hq), by show HpDn _ _ _; rw [keyL_swp (by rw [HL.out.len]; omega) (by rw [HL.out.len]; omega)]; exact HSTEP.out, HT3.out⟩
          case measure => simp [intOf]; omega
        · have hd2 : decide (cmpF (keyL (fnH ls) J1) (keyL (fnH ls) k) < 0) = false := decide_eq_false (fun h => hl2 (cmpF_lt.1 h))
          rw [hd2] at HLS2
          have HDONE := hide (HH.out.done HCH.out hl2)
          clear hl2 hd2
          go_wp2_with fail
          refine HLS2.out.mono ?_
          rintro e w2 ⟨rfl, hb2⟩
          have HL2 := hide (HL.out.below hb2 HL.out.bw)
          have HT2 := hide (HT.out.trans (.of_below hb2 HL.out.bw))
          clear hb2 hml2
          go_wp2
          go_ret
          exact ⟨⟨_, rfl⟩, ls, HL2.out, HP.out, HR.out, HDONE.out, HT2.out⟩
    · have h1' : (m : Int) ≤ (J1 : Int) := by omega
      have HDONE := hide (HH.out.leaf (by omega))
      clear hJ1 hJ2
      go_wp2
      go_ret
      exact ⟨⟨_, rfl⟩, ls, HL.out, HP.out, HR.out, HDONE.out, HT.out⟩
end Go.Proofs.Ytcocboigjfjnfac

/- HeapP -/
namespace Go.Proofs.Ytcocboigjfjnfac
open Go.RowKit
set_option linter.unusedVariables false
set_option maxRecDepth 100000

theorem fnH_append (hs hs2 : List Hq) : fnH (hs ++ hs2) = fnH hs ++ fnH hs2 := by unfold fnH; rw [List.map_append]
theorem keyL_left {hs : List Hq} {x : Hq} {k : Nat} (hk : k < hs.length) : keyL (fnH (hs ++ [x])) k = keyL (fnH hs) k := by
  rw [fnH_append]
  unfold keyL
  simp only [List.getD, List.getElem?_append_left (show k < (fnH hs).length by rw [fnH_length]; exact hk)]

set_option maxHeartbeats 3200000 in
theorem hpush_any (base b n c : Nat) (A : Option Addr) (hs : List Hq) (x : Hq) (w : World) (hm : Mg w base b A n c hs) (hx : LstOk w base x) (hn : n < 1000) (hk : HpOk (keyL (fnH hs)) n) :
    Calls Try.prog 55 #[hpV b, .iface 25 x.sl] w fun e w' => e = .returned (.tuple #[]) ∧ ∃ A2 c2 hs', HeapPost w base b (n + 1) A2 c2 (hs ++ [x]) (n + 1) w' hs' := by
  have HP := hide (push_any base b n c A hs x w hm hx hn)
  have hmp := meth_push b w
  have hl := hm.len
  have HK : Hid (HpUp (keyL (fnH (hs ++ [x]))) (n + 1) n) := hk.last _ fun k hk2 => keyL_left (by rw [hl]; exact hk2)
  clear hm hx hk hl
  generalize x.sl = xv at *
  unfold hpV
  go_enter Try.func55, Try.ntmps55
  go_wp2_with fail
  refine HP.out.mono ?_
  rintro e w1 ⟨rfl, A2, c2, hm1, ht1⟩
  have HM := hide hm1
  have HT := hide ht1
  have hml := meth_len b (n + 1) c2 A2 w1 (mg_cell hm1)
  have kw : IntKind.i64.wrap (((n + 1 : Nat) : Int) - 1) = (n : Int) := IntWalk.i64_in _ (by omega) |>.trans (by omega)
  have HU := hide (up_any base b (n + 1) c2 n A2 (hs ++ [x]) w1 hm1 (by omega) HK.out)
  obtain ⟨N1, hN1⟩ : ∃ N1, n + 1 = N1 := ⟨_, rfl⟩
  rw [hN1] at hml kw HU
  have HLN := hide (len_any A2 N1 c2 w1)
  have HNN := hide hN1
  clear hm1 ht1 hmp hN1
  unfold hpV at HU
  go_wp2_with fail
  refine HLN.out.mono ?_
  rintro e w2 ⟨rfl, rfl⟩
  go_wp2_with fail
  refine HU.out.mono ?_
  rintro e w3 ⟨rfl, hs', h⟩
  have HH := hide (show HeapPost w base b (n + 1) A2 c2 (hs ++ [x]) (n + 1) w3 hs' by rw [HNN.out]; exact ⟨h.mg, h.perm, h.rest, h.heap, HT.out.trans h.trn⟩)
  clear h
  go_wp2
  exact bodyPost_end (results_none Try.results55 _ _ _) rfl ⟨rfl, A2, c2, hs', HH.out⟩

/-- the first list of a heap is taken: it begins with the first frame of all -/
structure TakePost (w : World) (base b n : Nat) (hs : List Hq) (w' : World) (A2 : Option Addr) (c2 : Nat) (x : Hq) (hs' : List Hq) : Prop where
  mg : Mg w' base b A2 n c2 hs'
  perm : (x :: hs').Perm hs
  heap : HpOk (keyL (fnH hs')) n
  low : ∀ y ∈ hs', leF (hdF x.fs) (hdF y.fs)
  trn : Trn base w w'

theorem take_of {w w1 w2 w3 : World} {base b n c : Nat} {A : Option Addr} {hs hs2 ls : List Hq} {x : Hq} (hx : hs[0]? = some x) (hk : HpOk (keyL (fnH hs)) (n + 1)) (hl : hs.length = n + 1)
    (ht1 : Trn base w w1) (h2 : HeapPost w1 base b (n + 1) A c (swL hs 0 n) n w2 hs2) (he : hs2 = ls ++ [x]) (hm3 : Mg w3 base b A n c ls) (ht3 : Trn base w2 w3) : TakePost w base b n hs w3 A c x ls := by
  have hp : (ls ++ [x]).Perm hs := by rw [← he]; exact h2.perm.trans (swL_perm hs 0 n)
  have hp' : (x :: ls).Perm hs := List.perm_append_comm.trans hp
  refine ⟨hm3, hp', fun cc h0 hn => ?_, fun y hy => ?_, (ht1.trans h2.trn).trans ht3⟩
  · have := h2.heap cc h0 hn
    rw [he] at this
    rwa [keyL_left (by rw [hm3.len]; exact hn), keyL_left (by rw [hm3.len]; omega)] at this
  · have hy2 : y ∈ hs := hp'.mem_iff.1 (List.mem_cons_of_mem _ hy)
    obtain ⟨k, hky⟩ := List.getElem?_of_mem hy2
    have hkl : k < n + 1 := by rw [← hl]; exact (List.getElem?_eq_some_iff.1 hky).1
    have := hk.root k hkl
    rw [keyL_at hky, keyL_at hx] at this
    exact this
theorem last_of {α : Type} {hs2 : List α} {n : Nat} {x : α} (h : hs2[n]? = some x) (hl : hs2.length = n + 1) : ∃ ls, hs2 = ls ++ [x] ∧ ls.length = n := by
  refine ⟨hs2.take n, ?_, by rw [List.length_take]; omega⟩
  have e := List.take_append_drop n hs2
  rw [List.drop_eq_getElem_cons (by omega), List.drop_eq_nil_of_le (by omega)] at e
  rw [List.getElem?_eq_getElem (by omega)] at h
  injection h with h
  rw [h] at e
  exact e.symm

set_option maxHeartbeats 6400000 in
theorem hpop_any (base b n c : Nat) (A : Option Addr) (hs : List Hq) (x : Hq) (w : World) (hm : Mg w base b A (n + 1) c hs) (hx : hs[0]? = some x) (hk : HpOk (keyL (fnH hs)) (n + 1)) :
    Calls Try.prog 56 #[hpV b] w fun e w' => e = .returned (.iface 25 x.sl) ∧ ∃ A2 c2 hs', TakePost w base b n hs w' A2 c2 x hs' := by
  have hsm := hm.small
  have hlen := hm.len
  have HX := hide hx
  have HK := hide hk
  have HTOP := hide (show HpDn (keyL (fnH (swL hs 0 n))) n 0 by rw [keyL_swp (by omega) (by omega)]; exact hk.top)
  have hml := meth_len b (n + 1) c A w (mg_cell hm)
  have hms := meth_swap b (n + 1) c A w (mg_cell hm)
  have kw : IntKind.i64.wrap (((n + 1 : Nat) : Int) - 1) = (n : Int) := IntWalk.i64_in _ (by omega) |>.trans (by omega)
  have HSW := hide (swap_any base b (n + 1) c 0 n A hs w hm (by omega) (by omega))
  have HLEN := hide hlen
  obtain ⟨N1, hN1⟩ : ∃ N1, n + 1 = N1 := ⟨_, rfl⟩
  rw [hN1] at hml hms kw HSW
  have HLN := hide (len_any A N1 c w)
  have HNN := hide hN1
  clear hm hx hk hN1 hlen
  unfold hpV
  go_enter Try.func56, Try.ntmps56
  go_wp2_with fail
  refine HLN.out.mono ?_
  rintro e w0 ⟨rfl, rfl⟩
  go_wp2_with fail
  refine HSW.out.mono ?_
  rintro e w1 ⟨rfl, hm1, ht1⟩
  have HM1 := hide hm1
  have HT1 := hide ht1
  clear hm1 ht1 hml hms
  have HDN := hide (down_any base b N1 c n A (swL hs 0 n) w1 HM1.out (by have := HNN.out; omega) HTOP.out)
  unfold hpV at HDN
  go_wp2_with fail
  refine HDN.out.mono ?_
  rintro e w2 ⟨⟨v, rfl⟩, hs2, h2⟩
  have hsl : hs2[n]? = some x := by
    rw [h2.rest n (Nat.le_refl _), swL_get hs (by rw [HLEN.out]; omega) (by rw [HLEN.out]; omega) n]
    by_cases h0 : n = 0
    · rw [if_pos h0, h0]; exact HX.out
    · rw [if_neg h0, if_pos rfl]; exact HX.out
  obtain ⟨ls, hls, hll⟩ := last_of hsl (by rw [h2.mg.len, ← HNN.out])
  have HLS := hide hls
  have HH2 := hide h2
  have hmp := meth_pop b w2
  have hm2 := h2.mg
  rw [hls, ← HNN.out] at hm2
  have HPP := hide (pop_any base b n c A ls x w2 hm2)
  clear h2 hsl hls hll hm2
  go_wp2_with fail
  refine HPP.out.mono ?_
  rintro e w3 ⟨rfl, hm3, ht3⟩
  have h2' := HH2.out
  rw [← HNN.out] at h2'
  have HF := hide (take_of HX.out HK.out HLEN.out HT1.out h2' HLS.out hm3 ht3)
  clear hm3 ht3 h2' hmp
  go_wp2
  go_ret
  exact ⟨rfl, A, c, ls, HF.out⟩
end Go.Proofs.Ytcocboigjfjnfac

/- HeapT -/
namespace Go.Proofs.Ytcocboigjfjnfac
open Go.RowKit
set_option linter.unusedVariables false
set_option maxRecDepth 100000

set_option maxHeartbeats 3200000 in
theorem add_none (b c : Nat) (A : Option Addr) (w : World) : Calls Try.prog 27 #[.pointer (some ⟨b, 0, none⟩), .slice A 0 c] w fun e w' => e = .returned (.tuple #[]) ∧ w' = w := by
  go_enter Try.func27, Try.ntmps27
  go_wp2
  exact bodyPost_end (results_none Try.results27 _ _ _) rfl ⟨rfl, rfl⟩
set_option maxHeartbeats 3200000 in
theorem add_any (base b n c : Nat) (A : Option Addr) (hs : List Hq) (x : Hq) (w : World) (hm : Mg w base b A n c hs) (hx : LstOk w base x) (hn : n < 1000) (hk : HpOk (keyL (fnH hs)) n) :
    Calls Try.prog 27 #[.pointer (some ⟨b, 0, none⟩), x.sl] w fun e w' => e = .returned (.tuple #[]) ∧ ∃ A2 c2 hs', HeapPost w base b (n + 1) A2 c2 (hs ++ [x]) (n + 1) w' hs' := by
  have HP := hide (hpush_any base b n c A hs x w hm hx hn hk)
  have hl : 0 < x.qs.length := List.length_pos_iff.2 hx.full
  unfold hpV at HP
  clear hm hx hk
  unfold Hq.sl at *
  generalize x.addr = xa at *
  generalize x.cap = xc at *
  obtain ⟨l, hl2⟩ : ∃ l, x.qs.length = l := ⟨_, rfl⟩
  rw [hl2] at hl HP ⊢
  clear hl2
  have hl0 : (0 : Int) < (l : Int) := by omega
  go_enter Try.func27, Try.ntmps27
  go_wp2_with fail
  refine HP.out.mono ?_
  rintro e w1 ⟨rfl, A2, c2, hs', h⟩
  have HH := hide h
  clear h
  go_wp2
  exact bodyPost_end (results_none Try.results27 _ _ _) rfl ⟨rfl, A2, c2, hs', HH.out⟩

/-- all frames of the lists -/
def poolH (hs : List Hq) : List Fq := (hs.map Hq.qs).flatten
theorem poolH_perm {hs hs' : List Hq} (h : hs.Perm hs') : (poolH hs).Perm (poolH hs') := (h.map Hq.qs).flatten
theorem poolH_cons (h : Hq) (hs : List Hq) : poolH (h :: hs) = h.qs ++ poolH hs := rfl
theorem poolH_append (hs hs2 : List Hq) : poolH (hs ++ hs2) = poolH hs ++ poolH hs2 := by unfold poolH; rw [List.map_append, List.flatten_append]
/-- the blocks of lists -/
def inBlk (hs : List Hq) (x : Hq) : Prop := ∃ y ∈ hs, ∃ ad ad' : Addr, x.addr = some ad ∧ y.addr = some ad' ∧ ad.block = ad'.block

/-- what take does: the first frame is q -/
structure TookPost (w : World) (base b n : Nat) (hs : List Hq) (q : Fq) (w' : World) (A2 : Option Addr) (n2 c2 : Nat) (hs2 : List Hq) : Prop where
  mg : Mg w' base b A2 n2 c2 hs2
  heap : HpOk (keyL (fnH hs2)) n2
  trn : Trn base w w'
  pool : (q :: poolH hs2).Perm (poolH hs)
  blks : ∀ x ∈ hs2, inBlk hs x
  mrg : ∀ out all, Mrg out (fnH hs) all → Mrg (out ++ [q.fn]) (fnH hs2) all

theorem mrg_took {hs hs' : List Hq} {x : Hq} {q : Fq} {t : List Fq} (hq : x.qs = q :: t) (hp : (x :: hs').Perm hs) (hlow : ∀ y ∈ hs', leF (hdF x.fs) (hdF y.fs)) {out all : List Fn} (h : Mrg out (fnH hs) all) :
    Mrg (out ++ [q.fn]) (if fns t = [] then fnH hs' else fnH hs' ++ [fns t]) all := by
  have h2 := h.perms (ls' := fnH (x :: hs')) (by unfold fnH; exact hp.map _)
  have e : fnH (x :: hs') = (q.fn :: fns t) :: fnH hs' := by unfold fnH Hq.fs; simp [hq, fns]
  rw [e] at h2
  refine h2.take (fun g hg y hy => ?_)
  unfold fnH at hg
  obtain ⟨z, hz, rfl⟩ := List.mem_map.1 hg
  have := hlow z hz
  have e1 : hdF x.fs = q.fn := by unfold Hq.fs; exact hd_of hq
  have e2 : hdF z.fs = y := by
    unfold hdF
    rw [List.headD_eq_head?_getD, hy]
    rfl
  rw [e1, e2] at this
  exact this

theorem res_cell (w : World) : Blk (w.alloc (.cells #[.int .i64 0, .int .i64 0, .int .i64 0, .int .i64 0, .slice none 0 0] 35)) w.heap.size 35 #[.int .i64 0, .int .i64 0, .int .i64 0, .int .i64 0, .slice none 0 0] := Blk.new w _ _

theorem LstOk.head_at {w : World} {base : Nat} {h : Hq} {q : Fq} {t : List Fq} {ad : Addr} (hl : LstOk w base h) (hq : h.qs = q :: t) (ha : h.addr = some ad) : w.cell? ad = some (.int .i64 q.zone) ∧
    w.cell? ⟨ad.block, ad.off + 1, none⟩ = some (.int .i64 q.word) ∧ w.cell? ⟨ad.block, ad.off + 2, none⟩ = some (.int .i64 q.kind) ∧ w.cell? ⟨ad.block, ad.off + 3, none⟩ = some (.int .i64 q.seq) ∧ w.cell? ⟨ad.block, ad.off + 4, none⟩ = some q.sl := by
  obtain ⟨p, q', t', hp, hq', _, _, b0, b1, b2, b3, b4⟩ := hl.head
  rw [ha] at hp
  injection hp with hp
  subst hp
  rw [hq] at hq'
  injection hq' with hq' _
  subst hq'
  exact ⟨b0, b1, b2, b3, b4⟩
theorem LstOk.spot {w : World} {base : Nat} {h : Hq} {ad : Addr} (hl : LstOk w base h) (ha : h.addr = some ad) : ad.add 5 = ⟨ad.block, ad.off + 5, none⟩ := by
  obtain ⟨ad', _, e, _⟩ := hl.mem
  rw [ha] at e
  injection e with e
  subst e
  simp [Addr.add]

/-- the result's variable is set: five stores -/
def res5 (w : World) (R : Nat) (v0 v1 v2 v3 v4 : Value) : World := ((((w.setCell ⟨R, 0, none⟩ v0).setCell ⟨R, 1, none⟩ v1).setCell ⟨R, 2, none⟩ v2).setCell ⟨R, 3, none⟩ v3).setCell ⟨R, 4, none⟩ v4
theorem box5 {w : World} {R : Nat} {t : TypeId} {u0 u1 u2 u3 u4 : Value} (h : Blk w R t #[u0, u1, u2, u3, u4]) (v0 v1 v2 v3 v4 : Value) :
    w.cell? ⟨R, 0, none⟩ = some u0 ∧ w.frozen? ⟨R, 0, none⟩ = false ∧ (w.setCell ⟨R, 0, none⟩ v0).cell? ⟨R, 1, none⟩ = some u1 ∧ (w.setCell ⟨R, 0, none⟩ v0).frozen? ⟨R, 1, none⟩ = false ∧
      ((w.setCell ⟨R, 0, none⟩ v0).setCell ⟨R, 1, none⟩ v1).cell? ⟨R, 2, none⟩ = some u2 ∧ ((w.setCell ⟨R, 0, none⟩ v0).setCell ⟨R, 1, none⟩ v1).frozen? ⟨R, 2, none⟩ = false ∧
      (((w.setCell ⟨R, 0, none⟩ v0).setCell ⟨R, 1, none⟩ v1).setCell ⟨R, 2, none⟩ v2).cell? ⟨R, 3, none⟩ = some u3 ∧ (((w.setCell ⟨R, 0, none⟩ v0).setCell ⟨R, 1, none⟩ v1).setCell ⟨R, 2, none⟩ v2).frozen? ⟨R, 3, none⟩ = false ∧
      ((((w.setCell ⟨R, 0, none⟩ v0).setCell ⟨R, 1, none⟩ v1).setCell ⟨R, 2, none⟩ v2).setCell ⟨R, 3, none⟩ v3).cell? ⟨R, 4, none⟩ = some u4 ∧ ((((w.setCell ⟨R, 0, none⟩ v0).setCell ⟨R, 1, none⟩ v1).setCell ⟨R, 2, none⟩ v2).setCell ⟨R, 3, none⟩ v3).frozen? ⟨R, 4, none⟩ = false ∧
      Blk (res5 w R v0 v1 v2 v3 v4) R t #[v0, v1, v2, v3, v4] ∧ w.grownBy (res5 w R v0 v1 v2 v3 v4) (some R) := by
  have h1 := h.set_ 0 v0
  have h2 := h1.set_ 1 v1
  have h3 := h2.set_ 2 v2
  have h4 := h3.set_ 3 v3
  have h5 := h4.set_ 4 v4
  simp at h1 h2 h3 h4 h5
  refine ⟨h.cell 0, h.frozen 0, h1.cell 1, h1.frozen 1, h2.cell 2, h2.frozen 2, h3.cell 3, h3.frozen 3, h4.cell 4, h4.frozen 4, h5, ?_⟩
  unfold res5
  exact ((((grown1M _ _ _ _).trans (grown1M _ _ _ _)).trans (grown1M _ _ _ _)).trans (grown1M _ _ _ _)).trans (grown1M _ _ _ _)
theorem Trn.turn_new {base R : Nat} {w w1 w2 : World} (h : Trn base w w1) (hg : w1.grownBy w2 (some R)) (hR : w.heap.size ≤ R) (hb : base ≤ w.heap.size) : Trn base w w2 :=
  ⟨h.below.grown hg (Nat.le_trans hb h.size) (by intro q hq; injection hq with hq; omega), fun k cs t e h1 h2 => (h.keep k cs t e h1 h2).grown hg (by intro e2; injection e2 with e2; have := e.lt; omega)⟩
theorem Mg.turn_new {base b n c R : Nat} {A : Option Addr} {hs : List Hq} {w w2 : World} {cs : Array Value} (h : Mg w base b A n c hs) (hg : w.grownBy w2 (some R)) (hR : Blk w R 35 cs) (hl : ∀ x ∈ hs, ∀ ad, x.addr = some ad → ad.block ≠ R) : Mg w2 base b A n c hs := by
  have ne : ∀ {k : Nat} {t : TypeId} {cs' : Array Value}, Blk w k t cs' → t ≠ 35 → k ≠ R := by
    intro k t cs' hk ht e
    subst e
    unfold Blk at hk hR
    rw [hR] at hk
    injection hk with hk
    injection hk with _ e4
    exact ht e4.symm
  refine ⟨h.cell.grown hg (by intro e; injection e with e; exact ne h.cell (by decide) e), ⟨h.row.1, ?_⟩, h.len, h.bb, fun x hx => ?_, h.small⟩
  · rcases h.row.2 with h0 | ⟨g, cap, cur, e1, e2, e3, e4⟩
    · exact .inl h0
    · have hb : Blk w g 25 cur := e3
      exact .inr ⟨g, cap, cur, e1, e2, hb.grown hg (by intro e; injection e with e; exact ne hb (by decide) e), e4⟩
  · obtain ⟨ad, cs', e, e2, hb, hk, hc⟩ := (h.lst x hx).mem
    have hne := hl x hx ad e
    have hk' := hk.grown hg (by intro e3; injection e3 with e3; exact hne e3)
    exact ⟨(h.lst x hx).full, (h.lst x hx).cap, ad, cs', e, e2, hb, hk', fun j u hu => (World.cell?_of_block (by rw [block_of_add]; unfold Blk at hk hk'; rw [hk, hk'])).trans (hc j u hu)⟩

/-- all of it together: behind the first frame's list the others, with what is left of it -/
theorem took_of {w w2 w3 : World} {base b n n2 c2 R : Nat} {A2 : Option Addr} {hs hs' hs2 : List Hq} {x : Hq} {q : Fq} {t : List Fq} {cs : Array Value} (hw : ∀ y ∈ hs, LstOk w base y) (hbw : base ≤ w.heap.size) (hq : x.qs = q :: t) (hp : (x :: hs').Perm hs) (hR : w.heap.size ≤ R)
    (hm : Mg w2 base b A2 n2 c2 hs2) (hk : HpOk (keyL (fnH hs2)) n2) (ht : Trn base w w2) (hRb : Blk w2 R 35 cs) (hg : w2.grownBy w3 (some R))
    (hmr : ∀ out all, Mrg out (fnH hs) all → Mrg (out ++ [q.fn]) (if fns t = [] then fnH hs' else fnH hs' ++ [fns t]) all)
    (hcase : (t = [] ∧ hs2 = hs') ∨ (t ≠ [] ∧ ∃ x' : Hq, hs2.Perm (hs' ++ [x']) ∧ x'.qs = t ∧ inBlk [x] x')) : TookPost w base b n hs q w3 A2 n2 c2 hs2 := by
  have hxs : ∀ y ∈ x :: hs', y ∈ hs := fun y hy => hp.mem_iff.1 hy
  have self : ∀ y ∈ hs, inBlk hs y := fun y hy => by
    obtain ⟨ad, _, e, _⟩ := (hw y hy).mem
    exact ⟨y, hy, ad, ad, e, e, rfl⟩
  have hblk : ∀ y ∈ hs2, inBlk hs y := by
    rcases hcase with ⟨_, rfl⟩ | ⟨_, x', hp2, _, z, hz, ad, ad', e1, e2, e3⟩
    · exact fun y hy => self y (hxs y (List.mem_cons_of_mem _ hy))
    · intro y hy
      have := hp2.mem_iff.1 hy
      simp only [List.mem_append, List.mem_singleton] at this
      rcases this with h | rfl
      · exact self y (hxs y (List.mem_cons_of_mem _ h))
      · simp only [List.mem_singleton] at hz
        subst hz
        exact ⟨z, hxs z List.mem_cons_self, ad, ad', e1, e2, e3⟩
  have hpool : (q :: poolH hs2).Perm (poolH hs) := by
    refine List.Perm.trans ?_ (poolH_perm hp)
    rw [poolH_cons, hq]
    rcases hcase with ⟨rfl, rfl⟩ | ⟨_, x', hp2, rfl, _⟩
    · exact List.Perm.refl _
    · refine List.Perm.cons q ((poolH_perm hp2).trans ?_)
      rw [poolH_append]
      have e : poolH [x'] = x'.qs := by simp [poolH]
      rw [e]
      exact List.perm_append_comm
  refine ⟨hm.turn_new hg hRb (fun y hy ad e => ?_), hk, ht.turn_new hg hR hbw, hpool, hblk, fun out all h => ?_⟩
  · obtain ⟨z, hz, ad1, ad2, e1, e2, e3⟩ := hblk y hy
    obtain ⟨ad3, e4, hlt⟩ := (hw z hz).lt
    rw [e] at e1
    injection e1 with e1
    rw [e2] at e4
    injection e4 with e4
    rw [e1, e3, e4]
    omega
  · have h2 := hmr out all h
    rcases hcase with ⟨rfl, rfl⟩ | ⟨hne, x', hp2, rfl, _⟩
    · rw [if_pos (show fns [] = [] from rfl)] at h2; exact h2
    · rw [if_neg (by unfold fns; simpa using hne)] at h2
      refine h2.perms ?_
      have e : fnH hs' ++ [fns x'.qs] = fnH (hs' ++ [x']) := by rw [fnH_append]; rfl
      rw [e]
      unfold fnH
      exact hp2.map _

set_option maxHeartbeats 6400000 in
theorem take_any (base b n c : Nat) (A : Option Addr) (hs : List Hq) (x : Hq) (q : Fq) (t : List Fq) (w : World) (hm : Mg w base b A (n + 1) c hs) (hx : hs[0]? = some x) (hk : HpOk (keyL (fnH hs)) (n + 1)) (hq : x.qs = q :: t) :
    Calls Try.prog 28 #[.pointer (some ⟨b, 0, none⟩)] w fun e w' => e = .returned (.agg #[.int .i64 q.zone, .int .i64 q.word, .int .i64 q.kind, .int .i64 q.seq, q.sl]) ∧ ∃ A2 n2 c2 hs2, TookPost w base b n hs q w' A2 n2 c2 hs2 := by
  obtain ⟨W0, hW0⟩ : ∃ W0, w.alloc (.cells #[.int .i64 0, .int .i64 0, .int .i64 0, .int .i64 0, .slice none 0 0] 35) = W0 := ⟨_, rfl⟩
  have HB0 := hide (show Below w.heap.size w W0 by rw [← hW0]; exact below_new w _)
  have HRC := hide (show Blk W0 w.heap.size 35 #[.int .i64 0, .int .i64 0, .int .i64 0, .int .i64 0, .slice none 0 0] by rw [← hW0]; exact res_cell w)
  have HM0 := hide (hm.below HB0.out hm.bw)
  have HT0 := hide (Trn.of_below HB0.out hm.bw)
  have HWL := hide hm.lst
  have HLX := hide ((hm.lst x (List.mem_of_getElem? hx)).trn HT0.out)
  have HPOP := hide (hpop_any base b n c A hs x W0 HM0.out hx hk)
  have hsm := hm.small
  have HQ := hide hq
  have HXI := hide (List.mem_of_getElem? hx)
  have hbw := hm.bw
  clear hm hx hk hq
  obtain ⟨ad, hxa⟩ : ∃ ad, x.addr = some ad := by obtain ⟨ad, _, e, _⟩ := HLX.out.mem; exact ⟨ad, e⟩
  have HXA := hide hxa
  have hTA : ∀ W, Sem.run Try.prog (Instr.typeAssert (.iface 25 (.slice (some ad) x.qs.length x.cap)) 20 25 false) W = .ok (.slice (some ad) x.qs.length x.cap) W := fun W => by kernel_rfl
  unfold hpV at HPOP
  unfold Hq.sl at HPOP
  rw [hxa] at HPOP
  have hcap := HLX.out.cap
  have hlq : x.qs.length = t.length + 1 := by rw [HQ.out]; rfl
  clear hxa
  have c1 : (1 : Int) ≤ (x.qs.length : Int) := by omega
  have c2' : (x.qs.length : Int) ≤ (x.cap : Int) := by omega
  have c3 : (1 : Int) ≤ (x.cap : Int) := by omega
  have HLQ := hide hlq
  have HCAP := hide hcap
  clear hlq hcap
  obtain ⟨L, hL⟩ : ∃ L, x.qs.length = L := ⟨_, rfl⟩
  obtain ⟨C, hC⟩ : ∃ C, x.cap = C := ⟨_, rfl⟩
  rw [hL, hC] at hTA
  rw [hL, hC] at HPOP
  rw [hL] at c1
  rw [hL, hC] at c2'
  rw [hC] at c3
  have HLL := hide hL
  have HCC := hide hC
  clear hL hC
  go_enter Try.func28, Try.ntmps28
  go_wp2_with fail
  refine HPOP.out.mono ?_
  rintro e w1 ⟨rfl, A2, c2, hs', hp⟩
  have HTP := hide hp
  have HT1 := hide (HT0.out.trans hp.trn)
  have HX1 := hide (HLX.out.trn hp.trn)
  have HR1 := hide (hp.trn.blk HRC.out (by decide) (by decide))
  have HMR := hide fun (out all : List Fn) (h : Mrg out (fnH hs) all) => mrg_took HQ.out hp.perm hp.low h
  have hsz : w.heap.size + 1 ≤ w1.heap.size := by have := hp.trn.size; have e : W0.heap.size = w.heap.size + 1 := (by rw [← hW0]; simp)
                                                  omega
  clear hp
  rcases t with _ | ⟨q2, t⟩
  · have hL1 : L = 1 := by rw [← HLL.out, HLQ.out]; rfl
    subst hL1
    go_wp2_with fail
    all_goals
      refine (add_none _ _ _ _).mono ?_
      rintro e w2 ⟨rfl, rfl⟩
      have HX2 := hide HX1.out
      have HR2 := hide HR1.out
      have HM2 := hide HTP.out.mg
      have HK2 := hide HTP.out.heap
      have HT2 := hide HT1.out
      have HCASE : Hid ((([] : List Fq) = [] ∧ hs' = hs') ∨ (([] : List Fq) ≠ [] ∧ ∃ x' : Hq, hs'.Perm (hs' ++ [x']) ∧ x'.qs = [] ∧ inBlk [x] x')) := .inl ⟨rfl, rfl⟩
      have hx2 := (HX2.out.head_at HQ.out HXA.out)
      obtain ⟨d0, d1, d2, d3, d4⟩ := hx2
      have HF := hide (fun v0 v1 v2 v3 v4 => box5 HR2.out v0 v1 v2 v3 v4)
      obtain ⟨qz, qa, qk, qs, qv, qp, qc⟩ := q
      simp only [Fq.sl] at d0 d1 d2 d3 d4
      obtain ⟨ql, hql⟩ : ∃ l, qv.length = l := ⟨_, rfl⟩
      rw [hql] at d4
      obtain ⟨r0, f0, r1, f1, r2, f2, r3, f3, r4, f4, hfb, hfg⟩ := HF.out (.int .i64 qz) (.int .i64 qa) (.int .i64 qk) (.int .i64 qs) (.slice qp ql qc)
      have HFB := hide hfb
      have z0 := hfb.cell 0
      have z1 := hfb.cell 1
      have z2 := hfb.cell 2
      have z3 := hfb.cell 3
      have z4 := hfb.cell 4
      simp only [List.getElem?_toArray, List.getElem?_cons_zero, List.getElem?_cons_succ] at z0 z1 z2 z3 z4
      have HTOOK := hide (took_of (n := n) HWL.out hbw HQ.out HTP.out.perm (Nat.le_refl _) HM2.out HK2.out HT2.out HR2.out hfg HMR.out HCASE.out)
      unfold res5 at z0 z1 z2 z3 z4 HTOOK
      have HQL := hide hql
      clear hfb hfg hql HF
      go_wp2
      refine bodyPost_ret (v := .agg #[.int .i64 qz, .int .i64 qa, .int .i64 qk, .int .i64 qs, .slice qp ql qc]) (by simp [results, Try.results28, go_sem, z0, z1, z2, z3, z4]) rfl ?_
      exact ⟨by rw [← HQL.out]; rfl, _, _, _, _, HTOOK.out⟩
  · have hL2 : 1 < L := by rw [← HLL.out, HLQ.out]; simp
    have hC2 : C ≠ 1 := by have := HCAP.out.1; rw [HLL.out, HCC.out] at this; omega
    have hl2 : (q2 :: t).length = L - 1 := by rw [← HLL.out, HLQ.out]; rfl
    have HAD := hide (add_any base b n c2 A2 hs' ⟨some (ad.add 5), x.cap - 1, q2 :: t⟩ w1 HTP.out.mg (HX1.out.tail HQ.out ad HXA.out) (by omega) HTP.out.heap)
    unfold Hq.sl at HAD
    simp only at HAD
    rw [hl2, HCC.out, HX1.out.spot HXA.out] at HAD
    clear hl2
    go_wp2_with fail
    refine HAD.out.mono ?_
    rintro e w2 ⟨rfl, A3, c4, hs3, h3⟩
    have HM2 := hide h3.mg
    have HK2 := hide h3.heap
    have HT2 := hide (HT1.out.trans h3.trn)
    have HX2 := hide (HX1.out.trn h3.trn)
    have HR2 := hide (h3.trn.blk HR1.out (by decide) (by decide))
    have HCASE : Hid (((q2 :: t : List Fq) = [] ∧ hs3 = hs') ∨ ((q2 :: t : List Fq) ≠ [] ∧ ∃ x' : Hq, hs3.Perm (hs' ++ [x']) ∧ x'.qs = q2 :: t ∧ inBlk [x] x')) :=
      .inr ⟨by simp, ⟨some ⟨ad.block, ad.off + 5, none⟩, C - 1, q2 :: t⟩, h3.perm, rfl, x, List.mem_singleton.2 rfl, ⟨ad.block, ad.off + 5, none⟩, ad, rfl, HXA.out, rfl⟩
    clear h3 HAD
    have hx2 := (HX2.out.head_at HQ.out HXA.out)
    obtain ⟨d0, d1, d2, d3, d4⟩ := hx2
    have HF := hide (fun v0 v1 v2 v3 v4 => box5 HR2.out v0 v1 v2 v3 v4)
    obtain ⟨qz, qa, qk, qs, qv, qp, qc⟩ := q
    simp only [Fq.sl] at d0 d1 d2 d3 d4
    obtain ⟨ql, hql⟩ : ∃ l, qv.length = l := ⟨_, rfl⟩
    rw [hql] at d4
    obtain ⟨r0, f0, r1, f1, r2, f2, r3, f3, r4, f4, hfb, hfg⟩ := HF.out (.int .i64 qz) (.int .i64 qa) (.int .i64 qk) (.int .i64 qs) (.slice qp ql qc)
    have HFB := hide hfb
    have z0 := hfb.cell 0
    have z1 := hfb.cell 1
    have z2 := hfb.cell 2
    have z3 := hfb.cell 3
    have z4 := hfb.cell 4
    simp only [List.getElem?_toArray, List.getElem?_cons_zero, List.getElem?_cons_succ] at z0 z1 z2 z3 z4
    have HTOOK := hide (took_of (n := n) HWL.out hbw HQ.out HTP.out.perm (Nat.le_refl _) HM2.out HK2.out HT2.out HR2.out hfg HMR.out HCASE.out)
    unfold res5 at z0 z1 z2 z3 z4 HTOOK
    have HQL := hide hql
    clear hfb hfg hql HF
    go_wp2
    refine bodyPost_ret (v := .agg #[.int .i64 qz, .int .i64 qa, .int .i64 qk, .int .i64 qs, .slice qp ql qc]) (by simp [results, Try.results28, go_sem, z0, z1, z2, z3, z4]) rfl ?_
    exact ⟨by rw [← HQL.out]; rfl, _, _, _, _, HTOOK.out⟩
end Go.Proofs.Ytcocboigjfjnfac

/- ImpN5 -/
namespace Go.Proofs.Ytcocboigjfjnfac
open Go.RowKit
set_option linter.unusedVariables false
set_option maxRecDepth 100000

/-! ### Plain: the order of the scans is the document's -/
theorem scan_ah (z : Int) (xs : List Int) : ∀ a, (scanW z xs a).1.Pairwise ahF ∧ ∀ f ∈ (scanW z xs a).1, f.1 = z ∧ (a : Int) ≤ f.2.1 :=
  scan_ind (fun a h => by rw [scanW_no z h]; exact ⟨List.Pairwise.nil, by simp⟩) (fun a h ih => by
    rw [scanW_yes z h]
    refine ⟨List.pairwise_cons.2 ⟨fun g hg => ?_, ih.1⟩, fun f hf => ?_⟩
    · have := ih.2 g hg
      exact .inr ⟨this.1.symm, by show ((a : Nat) : Int) < g.2.1; have := this.2; omega⟩
    · simp only [List.mem_cons] at hf
      rcases hf with rfl | hf
      · exact ⟨rfl, Int.le_refl _⟩
      · have := ih.2 f hf; exact ⟨this.1, by omega⟩)
theorem scansZ_at (d : Dev) {k i : Nat} {g : List Fn} (h : (scansZ d k)[i]? = some g) : i < k ∧ g = (scanW (i : Int) (d.getD i ([], 0, false)).1 0).1 := by
  unfold scansZ at h
  rw [List.getElem?_map] at h
  rcases hr : (List.range k)[i]? with _ | j
  · rw [hr] at h; cases h
  · rw [hr] at h
    obtain ⟨hl, e⟩ := List.getElem?_eq_some_iff.1 hr
    rw [List.getElem_range] at e
    subst e
    rw [List.length_range] at hl
    injection h with h
    exact ⟨hl, h.symm⟩
theorem devF_le (d : Dev) : (devF d).Pairwise leF := by
  refine orderF_le _ (fun i j a b hij ha hb f hf g hg => ?_) (fun g hg => ?_)
  · obtain ⟨_, rfl⟩ := scansZ_at d ha
    obtain ⟨_, rfl⟩ := scansZ_at d hb
    have h1 := ((scan_ah _ _ 0).2 f hf).1
    have h2 := ((scan_ah _ _ 0).2 g hg).1
    omega
  · obtain ⟨k, hk⟩ := List.getElem?_of_mem hg
    obtain ⟨_, rfl⟩ := scansZ_at d hk
    exact (scan_ah _ _ 0).1
theorem scan_key (d : Dev) (k : Nat) : ∀ f ∈ (scansZ d k).flatten, ∀ g ∈ (scansZ d k).flatten, f.1 = g.1 → f.2.1 = g.2.1 → f = g := by
  intro f hf g hg h1 h2
  obtain ⟨a, ha, hfa⟩ := List.mem_flatten.1 hf
  obtain ⟨b, hb, hgb⟩ := List.mem_flatten.1 hg
  obtain ⟨i, hi⟩ := List.getElem?_of_mem ha
  obtain ⟨j, hj⟩ := List.getElem?_of_mem hb
  obtain ⟨_, rfl⟩ := scansZ_at d hi
  obtain ⟨_, rfl⟩ := scansZ_at d hj
  have e1 := ((scan_ah _ _ 0).2 f hfa).1
  have e2 := ((scan_ah _ _ 0).2 g hgb).1
  obtain rfl : i = j := by omega
  obtain ⟨x, _, rfl⟩ := scan_mem _ _ _ f hfa
  obtain ⟨y, _, rfl⟩ := scan_mem _ _ _ g hgb
  have : (x : Int) = (y : Int) := h2
  obtain rfl : x = y := by omega
  rfl
theorem mrg_devF {out : List Fn} {d : Dev} {all : List Fn} (h : Mrg out [] all) (ha : all.Perm (scansZ d d.length).flatten) : out = devF d := by
  obtain ⟨h1, h2⟩ := h.end_
  exact orderF_eq (devF_le d) (scan_key d d.length) (h1.trans ha) h2

/-! ### What ScanDevice knows -/
/-- frames with bodies of their own, apart from each other -/
def Apart (qs : List Fq) : Prop := qs.Pairwise fun q r => ∀ g, q.sl.ownBlock = some g → r.sl.ownBlock ≠ some g
theorem Apart.perm {qs rs : List Fq} (h : Apart qs) (hp : rs.Perm qs) : Apart rs := (hp.symm.pairwise_iff (fun {a b} hab g hb e => hab g e hb)).1 h
theorem OwnF.apart {w : World} {base n c : Nat} {A : Option Addr} {qs : List Fq} (h : OwnF w base A n c qs) : Apart qs := by
  unfold Apart
  rw [List.pairwise_iff_getElem]
  intro i j hi hj hij g1 hg1
  exact h.sep i j _ _ (List.getElem?_eq_getElem hi) (List.getElem?_eq_getElem hj) (by omega) g1 hg1
theorem OwnF.owns {w : World} {base n c : Nat} {A : Option Addr} {qs : List Fq} (h : OwnF w base A n c qs) : ∀ q ∈ qs, Own w base q.addr q.vals.length q.cap q.vals := fun q hq => by
  obtain ⟨k, hk⟩ := List.getElem?_of_mem hq
  exact h.own k q hk

/-- the lists that are in the heap: their bodies are the call's own -/
structure Pool (w : World) (base b : Nat) (A : Option Addr) (n c : Nat) (hs : List Hq) : Prop where
  mg : Mg w base b A n c hs
  heap : HpOk (keyL (fnH hs)) n
  own : ∀ q ∈ poolH hs, Own w base q.addr q.vals.length q.cap q.vals
  apart : Apart (poolH hs)
theorem Pool.below {w w' : World} {base b n c : Nat} {A : Option Addr} {hs : List Hq} (h : Pool w base b A n c hs) (hb : Below w.heap.size w w') : Pool w' base b A n c hs :=
  ⟨h.mg.below hb h.mg.bw, h.heap, fun q hq => (h.own q hq).below hb, h.apart⟩

/-- a row of the call's own as a list of the heap -/
theorem OwnF.lst {w : World} {base n c : Nat} {A : Option Addr} {qs : List Fq} (h : OwnF w base A n c qs) (hn : 0 < n) : LstOk w base ⟨A, c, qs⟩ := by
  rcases h.row.2 with ⟨hv, h0⟩ | ⟨g, cap, cur, hv, hb, hh, hc, hm, hs, ht⟩
  · omega
  · injection hv with h1 h2 h3
    subst h1
    refine ⟨fun e => ?_, ⟨by show qs.length ≤ c; rw [h.len]; exact h.cap.1, h.cap.2⟩, ⟨g, 0, none⟩, cur, rfl, rfl, hb, hh, fun j u hu => h.row.cells rfl j u hu⟩
    have hl := h.len
    have e' : qs = [] := e
    rw [e'] at hl
    simp at hl
    omega
theorem HeapPost.pool {w w' : World} {base b n c : Nat} {A : Option Addr} {hs hs' : List Hq} {x : Hq} (h : HeapPost w base b n A c (hs ++ [x]) n w' hs') (hown : ∀ q ∈ poolH hs ++ x.qs, Own w base q.addr q.vals.length q.cap q.vals) (hap : Apart (poolH hs ++ x.qs)) :
    Pool w' base b A n c hs' ∧ (poolH hs').Perm (poolH hs ++ x.qs) := by
  have e : (poolH hs').Perm (poolH hs ++ x.qs) := by
    have h1 := poolH_perm h.perm
    rw [poolH_append] at h1
    have e2 : poolH [x] = x.qs := by simp [poolH]
    rwa [e2] at h1
  exact ⟨⟨h.mg, h.heap, fun q hq => h.trn.own (hown q (e.mem_iff.1 hq)), hap.perm e⟩, e⟩

theorem poolH_none : poolH [] = [] := rfl
/-- a new heap: its cell alone -/
theorem Mg.new (w : World) : Mg (w.alloc (.cells #[.slice none 0 0] 53)) w.heap.size w.heap.size none 0 0 [] :=
  ⟨Blk.new w _ _, World.ownsRow_nil _ _ _ _, rfl, Nat.le_refl _, by simp, by omega⟩

/-- what the second loop knows: what is in the heap, what was taken -/
structure Run (wr : World) (b : Nat) (A2 : Option Addr) (m2 c2 : Nat) (hs : List Hq) (A8 : Option Addr) (j c8 : Nat) (rs : List Fq) (all : List Fn) (N : Nat) : Prop where
  pool : Pool wr b b A2 m2 c2 hs
  own : OwnF wr b A8 j c8 rs
  apart : Apart (rs ++ poolH hs)
  far : ∀ x ∈ hs, ∀ ad, x.addr = some ad → (Value.slice A8 j c8).ownBlock ≠ some ad.block
  mrg : Mrg (fns rs) (fnH hs) all
  num : j + (poolH hs).length = N
section
variable {wr w1 w2 : World} {b m2 c2 j c8 N n n3 c3 c9 : Nat} {A2 A3 A8 A9 : Option Addr} {hs hs2 : List Hq} {rs : List Fq} {all : List Fn} {q : Fq}
theorem Run.news (h : Run wr b A2 m2 c2 hs A8 j c8 rs all N) (ht : TookPost wr b b n hs q w1 A3 n3 c3 hs2) :
    NewF (w1.alloc (.cells #[.int .i64 q.zone, .int .i64 q.word, .int .i64 q.kind, .int .i64 q.seq, q.sl] 35)) b j A8 c8 rs (some ⟨w1.heap.size, 0, none⟩) 1 [q] := by
  have hq : q ∈ poolH hs := ht.pool.mem_iff.1 List.mem_cons_self
  refine NewF.one ((ht.trn.ownF h.own).alloc _) (fnd_cells w1 q) ((ht.trn.own (h.pool.own q hq)).alloc _) (fun k r hk g hg => ?_)
  have hp := List.pairwise_append.1 h.apart
  exact hp.2.2 r (List.mem_of_getElem? hk) q hq g hg
theorem Mg.app {w w' : World} {base b n c j c8 : Nat} {A A8 : Option Addr} {hs : List Hq} {rs : List Fq} (h : Mg w base b A n c hs) (ho : OwnF w base A8 j c8 rs) (hg : w.grownBy w' (Value.slice A8 j c8).ownBlock)
    (far : ∀ x ∈ hs, ∀ ad, x.addr = some ad → (Value.slice A8 j c8).ownBlock ≠ some ad.block) : Mg w' base b A n c hs := by
  rcases ho.row.2 with ⟨hv, h0⟩ | ⟨g, cap, cur, hv, hb, hh, hc, hm, hs', ht⟩
  · rw [hv] at hg
    refine h.below ⟨hg.os, hg.tape, hg.output, hg.size, fun k hk => hg.block k hk (by simp [Value.ownBlock])⟩ h.bw
  · have hbl : Blk w g 35 cur := hh
    rw [hv] at hg far
    exact h.turn_new hg hbl (fun x hx ad e e2 => far x hx ad e (by rw [e2]; rfl))
theorem Run.step (h : Run wr b A2 m2 c2 hs A8 j c8 rs all N) (ht : TookPost wr b b n hs q w1 A3 n3 c3 hs2) {o : Obj} (ho : OwnF w2 b A9 (j + 1) c9 (rs ++ [q])) (hg : (w1.alloc o).grownBy w2 (Value.slice A8 j c8).ownBlock)
    (hat : (Value.slice A9 (j + 1) c9).ownBlock = (Value.slice A8 j c8).ownBlock ∨ (Value.slice A9 (j + 1) c9).ownBlock = some (w1.alloc o).heap.size) : Run w2 b A3 n3 c3 hs2 A9 (j + 1) c9 (rs ++ [q]) all N := by
  have hb1 : Below w1.heap.size w1 (w1.alloc o) := (Below.refl _ w1).alloc (Nat.le_refl _) o
  have ho1 : OwnF (w1.alloc o) b A8 j c8 rs := (ht.trn.ownF h.own).alloc o
  have hfar : ∀ x ∈ hs2, ∀ ad, x.addr = some ad → (Value.slice A8 j c8).ownBlock ≠ some ad.block ∧ ad.block < wr.heap.size := by
    intro x hx ad e
    obtain ⟨y, hy, a1, a2, e1, e2, e3⟩ := ht.blks x hx
    rw [e] at e1
    injection e1 with e1
    subst e1
    obtain ⟨a3, e4, hlt⟩ := (h.pool.mg.lst y hy).lt
    rw [e2] at e4
    injection e4 with e4
    subst e4
    exact ⟨by rw [e3]; exact h.far y hy _ e2, by rw [e3]; exact hlt⟩
  have hmg := (ht.mg.below hb1 ht.mg.bw).app ho1 hg (fun x hx ad e => (hfar x hx ad e).1)
  have hmem : ∀ r ∈ poolH hs2, r ∈ poolH hs := fun r hr => ht.pool.mem_iff.1 (List.mem_cons_of_mem _ hr)
  have hpp : (rs ++ [q] ++ poolH hs2).Perm (rs ++ poolH hs) := by
    rw [List.append_assoc]
    exact List.Perm.append_left rs ht.pool
  have hap := h.apart.perm hpp
  have hlen := ht.pool.length_eq
  refine ⟨⟨hmg, ht.heap, fun r hr => ((ht.trn.own (h.pool.own r (hmem r hr))).alloc o).kept hg (fun g hg2 => ?_), (List.pairwise_append.1 hap).2.1⟩, ho, hap, fun x hx ad e => ?_, ?_, ?_⟩
  · have hb := (ht.trn.own (h.pool.own r (hmem r hr))).alloc o
    exact rows_neF ho1.row hb.2 (by decide) hg2
  · obtain ⟨h1, h2⟩ := hfar x hx ad e
    rcases hat with h3 | h3
    · rw [h3]; exact h1
    · rw [h3]
      intro e2
      injection e2 with e2
      have := ht.trn.size
      have := hb1.size
      omega
  · rw [fns_append]
    exact ht.mrg _ _ h.mrg
  · have := h.num
    simp only [List.length_cons] at hlen
    omega
end
theorem sum_leN {zs : List (List Fn)} {K : Nat} (h : ∀ g ∈ zs, g.length ≤ K) : sumL zs ≤ zs.length * K := by
  induction zs with
  | nil => exact Nat.zero_le _
  | cons g gs ih =>
    have h1 := h g List.mem_cons_self
    have h2 := ih fun x hx => h x (List.mem_cons_of_mem _ hx)
    simp only [sumL, List.length_cons, Nat.succ_mul]
    omega
def sliceLen : Value → Nat
  | .slice _ n _ => n
  | _ => 0

set_option maxHeartbeats 12800000 in
theorem implDeviceF (A : Option Addr) (n c B : Nat) (qs : List Zq) (w : World) (hr : Zns w B A n qs) (hB : B ≤ w.heap.size) (hn : n ≤ 1000000000000) (hv : devV (zns qs) = true) :
    Calls Try.prog 7 #[.slice A n c] w fun e w' => ∃ A2 c2 m rs, e = .returned (.slice A2 m c2) ∧ OwnF w' w.heap.size A2 m c2 rs ∧ fns rs = devF (zns qs) ∧ Below w.heap.size w w' := by
  have HR := hide hr
  have HBB := hide hB
  have hd := implDV A n c B qs w hr hB hn
  rw [hv] at hd
  have HD := hide hd
  obtain rfl : n = 4 := devV_is4 hv hr.1
  have HL4 : Hid ((zns qs).length = 4) := by show _ = _; rw [zns, List.length_map]; exact hr.1
  have HV := hide fun (k : Nat) (q : Zq) (h : qs[k]? = some q) => devV_words hv h
  clear hr hd hv hn
  go_enter Try.func7, Try.ntmps7
  go_wp2_with fail
  refine HD.out.mono ?_
  rintro e w1 ⟨rfl, hb1⟩
  have HB1 := hide hb1
  clear hb1
  have HNEW := hide (Mg.new w1)
  obtain ⟨W0, hW0⟩ : ∃ W0, w1.alloc (.cells #[.slice none 0 0] 53) = W0 := ⟨_, rfl⟩
  obtain ⟨b, hb⟩ : ∃ b, w1.heap.size = b := ⟨_, rfl⟩
  rw [hW0, hb] at HNEW
  have HW0 := hide (show Below w.heap.size w W0 by rw [← hW0]; exact HB1.out.alloc HB1.out.size _)
  have HWB := hide (show w.heap.size ≤ b by rw [← hb]; exact HB1.out.size)
  have HWS := hide (show W0.heap.size = b + 1 by rw [← hW0, ← hb]; simp)
  go_wp2
  go_loopw [14] (fun zv wr => ∃ (k m2 c2 : Nat) (A2 : Option Addr) (hs : List Hq), k ≤ 4 ∧ m2 ≤ k ∧ zv = .int .i64 k ∧ Hid (Pool wr b b A2 m2 c2 hs) ∧ Hid (∃ all, Mrg [] (fnH hs) all ∧ all.Perm (scansZ (zns qs) k).flatten) ∧ Hid (Below w.heap.size w wr) ∧ Hid (b + 1 ≤ wr.heap.size)) (fun zv _ => 4 - (intOf zv).toNat)
  case atStart => exact ⟨0, 0, 0, none, [], Nat.zero_le _, Nat.le_refl _, rfl, ⟨HNEW.out, fun c h0 hc => by omega, by simp [poolH], List.Pairwise.nil⟩, ⟨[], Mrg.none, List.Perm.refl _⟩, HW0.out, by show _ ≤ _; rw [HWS.out]; exact Nat.le_refl _⟩
  case round =>
    obtain ⟨k, m2, c2, A2, hs, hk, hmk, rfl, HPL, HMR, HB, HBS⟩ := hrel
    have hs1 := HB.out.size
    have hbs := HBS.out
    by_cases hlt : k < 4
    · obtain ⟨q, hq⟩ : ∃ q, qs[k]? = some q := ⟨_, List.getElem?_eq_getElem (by rw [HR.out.1]; exact hlt)⟩
      have hql := HV.out k q hq
      have HZ := hide (scansZ_succ hq)
      have hR := HR.out.below HB.out HBB.out
      obtain ⟨ad, p, rfl, hp, hpb, d0, d1, d2⟩ := hR.at_ hq
      obtain ⟨hi, hle, hcm⟩ := hR.words hq
      unfold maxLen at hcm
      have k0 : (0 : Int) ≤ (k : Int) := by omega
      have k1 : (k : Int) < ((4 : Nat) : Int) := by omega
      obtain ⟨W1, hW1⟩ : ∃ W1, wr.alloc (.cells #[q.sl, .int .i64 q.synced, .bool q.full] 40) = W1 := ⟨_, rfl⟩
      have HW1 := hide (show Below wr.heap.size wr W1 by rw [← hW1]; exact below_new wr _)
      have HX := hide (show Blk W1 wr.heap.size 40 #[q.sl, .int .i64 q.synced, .bool q.full] by rw [← hW1]; exact Blk.new wr _ _)
      have x0 : W1.cell? ⟨wr.heap.size, 0, none⟩ = some q.sl := HX.out.cell 0
      have hBw : B ≤ wr.heap.size := Nat.le_trans HBB.out hs1
      have HSC := hide (implScanL q.addr q.words.length q.cap (k : Int) q.words W1 ((hi.below HW1.out hBw).more (Nat.le_trans hBw HW1.out.size)) hle (by omega) (by omega))
      unfold ScanPost at HSC
      clear hR hi hle hcm hq
      unfold Zq.sl at *
      go_wp2_with fail
      refine HSC.out.mono ?_
      rintro e w2 ⟨A6, c6, m6, rs6, rfl, ho6, hf6, hb6⟩
      have HO6 := hide ho6
      have HB6 := hide hb6
      have hm6 : m6 ≤ 64 := by
        have := scan_count (k : Int) q.words 0
        rw [← hf6, fns_length, ho6.len] at this
        omega
      have HF6 := hide hf6
      have HSO := hide (sortF_any W1.heap.size m6 c6 A6 rs6 w2 ho6 hb6.size (by omega))
      clear ho6 hb6 hf6 HSC x0 d0 d1 d2 hW1
      go_wp2_with fail
      refine HSO.out.mono ?_
      rintro e w3 ⟨rfl, rs7, ho7, hp7, hso7, hb7⟩
      have HO7 := hide ho7
      have HP7 := hide hp7
      have HS7 := hide hso7
      have hb3 : Below wr.heap.size wr w3 := HW1.out.trans ((HB6.out.trans hb7).mono HW1.out.size)
      have HB3 := hide hb3
      have HBW3 := hide (HB.out.trans (hb3.mono hs1))
      have HPL3 := hide (HPL.out.below hb3)
      have hws : wr.heap.size ≤ W1.heap.size := HW1.out.size
      clear ho7 hp7 hso7 hb7 hb3 HSO
      by_cases hm0 : m6 = 0
      · subst hm0
        go_wp2_with fail
        refine (add_none _ _ _ _).mono ?_
        rintro e w4 ⟨rfl, rfl⟩
        go_wp2
        go_roundw
        case rel => exact ⟨k + 1, m2, c2, A2, hs, by omega, by omega, by go_num, HPL3.out, by
          obtain ⟨all, h1, h2⟩ := HMR.out
          refine ⟨all, h1, ?_⟩
          rw [HZ.out, List.flatten_append, ← HF6.out, List.eq_nil_of_length_eq_zero HO6.out.len]
          simpa [fns] using h2, HBW3.out, Nat.le_trans hbs HB3.out.size⟩
        case measure => simp [intOf]; omega
      · have HLS := hide ((HO7.out.mono (show b ≤ W1.heap.size by omega)).lst (by omega))
        have HAD := hide (add_any b b m2 c2 A2 hs ⟨A6, c6, rs7⟩ w3 HPL3.out.mg HLS.out (by omega) HPL3.out.heap)
        unfold Hq.sl at HAD
        simp only [HO7.out.len] at HAD
        go_wp2_with fail
        refine HAD.out.mono ?_
        rintro e w4 ⟨rfl, A4, c4, hs', h4⟩
        have HPOOL := hide (h4.pool (fun r hr => by
            simp only [List.mem_append] at hr
            rcases hr with hr | hr
            · exact HPL3.out.own r hr
            · exact (HO7.out.owns r hr).mono (by omega)) (List.pairwise_append.2 ⟨HPL3.out.apart, HO7.out.apart, fun r hr t ht g hg e2 => by
              have h1 := ((HPL.out.own r hr).block g hg).2
              have h2 := ((HO7.out.owns t ht).block g e2).1
              omega⟩))
        have HM4 : Hid (∃ all, Mrg [] (fnH hs') all ∧ all.Perm (scansZ (zns qs) (k + 1)).flatten) := by
          obtain ⟨all, h1, h2⟩ := HMR.out
          have hne : fns rs7 ≠ [] := fun e => by
            have := congrArg List.length e
            rw [fns_length, HO7.out.len] at this
            simp at this
            omega
          refine ⟨all ++ fns rs7, (h1.add hne HS7.out).perms ?_, ?_⟩
          · have e : fnH hs ++ [fns rs7] = fnH (hs ++ [⟨A6, c6, rs7⟩]) := by rw [fnH_append]; rfl
            rw [e]
            unfold fnH
            exact h4.perm.map _
          · rw [HZ.out, List.flatten_append, ← HF6.out]
            simp only [List.flatten_cons, List.flatten_nil, List.append_nil]
            exact h2.append (HP7.out.map _)
        have HB4 := hide (HBW3.out.trans (h4.trn.below.mono (by have := HWB.out; omega)))
        have hsz4 := h4.trn.size
        have HSZ4 := hide (show b + 1 ≤ w4.heap.size by have := HB3.out.size; omega)
        clear h4 HAD
        go_wp2
        go_roundw
        case rel => exact ⟨k + 1, m2 + 1, c4, A4, hs', by omega, by omega, by go_num, HPOOL.out.1, HM4.out, HB4.out, HSZ4.out⟩
        case measure => simp [intOf]; omega
    · have HK4 := hide (show k = 4 by omega)
      have hk4n : ¬ (k : Int) < 4 := by omega
      obtain ⟨all, hM1, hM2'⟩ := HMR.out
      have hM2 : all.Perm (scansZ (zns qs) 4).flatten := by rw [← HK4.out]; exact hM2'
      have HM1 := hide hM1
      have HM2 := hide (show all.Perm (scansZ (zns qs) (zns qs).length).flatten by rw [HL4.out]; exact hM2)
      obtain ⟨N, hN⟩ : ∃ N, 0 + (poolH hs).length = N := ⟨_, rfl⟩
      have HNB : Hid (N ≤ 10000000) := by
        show N ≤ _
        have e1 : (poolH hs).length = ((fnH hs).flatten).length := by
          unfold poolH fnH Hq.fs
          rw [List.length_flatten, List.length_flatten, List.map_map, List.map_map]
          congr 1
          exact List.map_congr_left fun x _ => by simp [fns]
        have e2 : ((fnH hs).flatten).length = all.length := by simpa using hM1.perm.length_eq
        have e3 := hM2.length_eq
        have e4 := (orderF_perm (scansZ (zns qs) 4)).length_eq
        rw [orderF_length] at e4
        have h1 : ∀ g ∈ scansZ (zns qs) 4, g.length ≤ 20 := by
          intro g hg
          obtain ⟨i, hi⟩ := List.getElem?_of_mem hg
          obtain ⟨hi4, rfl⟩ := scansZ_at _ hi
          have h2 := scan_count (i : Int) ((zns qs).getD i ([], 0, false)).1 0
          obtain ⟨q, hq⟩ : ∃ q, qs[i]? = some q := ⟨_, List.getElem?_eq_getElem (by rw [HR.out.1]; exact hi4)⟩
          have h3 := HV.out i q hq
          have h4 : (zns qs).getD i ([], 0, false) = q.zn := by simp [zns, List.getD, hq]
          rw [h4] at h2
          have h5 : q.zn.1 = q.words := rfl
          rw [h4, h5]
          rw [h5] at h2
          omega
        have h2 := sum_leN h1
        have h3 : (scansZ (zns qs) 4).length = 4 := by unfold scansZ; rw [List.length_map, List.length_range]
        omega
      have HRUN := hide (show Run wr b A2 m2 c2 hs none 0 0 [] all N from ⟨HPL.out, OwnF.nil_ _ _, by simpa using HPL.out.apart, fun x hx ad e => by simp [Value.ownBlock], by simpa [fns] using hM1, hN⟩)
      clear hM1 hM2 hM2' hN HPL HMR
      go_wp2
      go_loopw [8] (fun lv w5 => ∃ (j c8 m3 c3 : Nat) (A8 A3 : Option Addr) (hs3 : List Hq) (rs : List Fq), lv = .slice A8 j c8 ∧ Hid (Run w5 b A3 m3 c3 hs3 A8 j c8 rs all N) ∧ Hid (Below w.heap.size w w5)) (fun lv _ => N - sliceLen lv)
      case atStart => exact ⟨0, 0, m2, c2, none, A2, hs, [], rfl, HRUN.out, HB.out⟩
      case round =>
        clear HRUN HB
        obtain ⟨j, c8, m3, c3, A8, A3, hs3, rs, rfl, HRUN, HB⟩ := hrel
        have hs5 := HB.out.size
        have hnum := HRUN.out.num
        have hNB := HNB.out
        have c0 := mg_cell HRUN.out.pool.mg
        have hml := HRUN.out.pool.mg.len
        rcases m3 with _ | m3
        · have HE : Hid (fns rs = devF (zns qs)) := by
            have h := HRUN.out.mrg
            rw [List.eq_nil_of_length_eq_zero hml] at h
            exact mrg_devF h HM2.out
          have HO := hide (HRUN.out.own.mono HWB.out)
          clear hml
          go_wp2
          go_ret
          exact ⟨A8, c8, j, rs, rfl, HO.out, HE.out, HB.out⟩
        · obtain ⟨x, hx⟩ : ∃ x, hs3[0]? = some x := ⟨_, List.getElem?_eq_getElem (by omega)⟩
          obtain ⟨q, t, hqt⟩ := List.exists_cons_of_ne_nil (HRUN.out.pool.mg.lst x (List.mem_of_getElem? hx)).full
          have HTK := hide (take_any b b m3 c3 A3 hs3 x q t wr HRUN.out.pool.mg hx HRUN.out.pool.heap hqt)
          have hjN : j < N := by
            have h1 : q ∈ poolH hs3 := List.mem_flatten.2 ⟨x.qs, List.mem_map.2 ⟨x, List.mem_of_getElem? hx, rfl⟩, by rw [hqt]; exact List.mem_cons_self⟩
            have := List.length_pos_of_mem h1
            omega
          obtain ⟨M, hM⟩ : ∃ M, m3 + 1 = M := ⟨_, rfl⟩
          have hM0 : (0 : Int) < (M : Int) := by omega
          rw [hM] at c0
          clear hx hqt hml hM
          go_wp2_with fail
          refine HTK.out.mono ?_
          rintro e w6 ⟨rfl, A5, n5, c5, hs5', ht⟩
          have HNW := hide (HRUN.out.news ht)
          have HT := hide ht
          have hbw : b ≤ (w6.alloc (.cells #[.int .i64 q.zone, .int .i64 q.word, .int .i64 q.kind, .int .i64 q.seq, q.sl] 35)).heap.size := by
            have h1 := HRUN.out.pool.mg.bw
            have h2 := ht.trn.size
            simp
            omega
          have hj9 : j + 1 ≤ 100000000000 := by omega
          have HW6 := hide (HB.out.trans (ht.trn.below.mono HWB.out))
          clear ht HTK
          go_wp2_with (at_builtin; refine wpList_append_fnds rfl (.tmp 34) (.tmp 36) rfl b j c8 1 1 A8 (some ⟨w6.heap.size, 0, none⟩) rs [q] rfl rfl HNW.out hj9 hbw ?_; intro A9 c9 w7 ho7 hg7 hat7)
          have HRUN7 := hide (HRUN.out.step HT.out ho7 hg7 hat7)
          have HW7 := hide ((HW6.out.alloc HW6.out.size _).grown hg7 (by have := HW6.out.size; simp; omega) (fun g e => by have := (HRUN.out.own.block g e).1; have := HWB.out; omega))
          clear ho7 hg7 hat7
          go_roundw
          case rel => exact ⟨j + 1, c9, n5, c5, A9, A5, hs5', rs ++ [q], rfl, HRUN7.out, HW7.out⟩
          case measure => simp [sliceLen]; omega

set_option maxHeartbeats 1600000 in
theorem implScanD (A : Option Addr) (n c B : Nat) (qs : List Zq) (w : World) (hr : Zns w B A n qs) (hB : B ≤ w.heap.size) (hn : n ≤ 1000000000000) :
    Calls Try.prog 7 #[.slice A n c] w fun e w' => ∃ A2 c2 m rs, e = .returned (.slice A2 m c2) ∧ OwnF w' w.heap.size A2 m c2 rs ∧ fns rs = scanD (zns qs) ∧ Below w.heap.size w w' := by
  rcases hv : devV (zns qs) with _ | _
  · have hd := implDV A n c B qs w hr hB hn
    rw [hv] at hd
    have HD := hide hd
    have HE := hide (show scanD (zns qs) = [] by unfold scanD; rw [hv]; rfl)
    clear hd hr hv
    go_enter Try.func7, Try.ntmps7
    go_wp2_with fail
    refine HD.out.mono ?_
    rintro e w1 ⟨rfl, hb1⟩
    have HB1 := hide hb1
    clear hb1
    go_wp2
    go_ret
    exact ⟨none, 0, 0, [], rfl, OwnF.nil_ _ _, by rw [HE.out]; rfl, HB1.out⟩
  · have e : scanD (zns qs) = devF (zns qs) := by unfold scanD; rw [hv]; rfl
    rw [e]
    exact implDeviceF A n c B qs w hr hB hn hv
end Go.Proofs.Ytcocboigjfjnfac

/- ScnD -/
namespace Go.Proofs.Ytcocboigjfjnfac
open Go.RowKit
set_option linter.unusedVariables false
set_option maxRecDepth 100000

structure DScn (w w1 w2 w3 : World) (A1 : Option Addr) (m c1 : Nat) (qs : List Zq) (A2 A3 : Option Addr) (n2 c2 c3 : Nat) (rs rs' : List Fq) : Prop where
  zs : ∀ W, Below w3.heap.size w3 W → Zns W w1.heap.size A1 m qs
  m4 : m ≤ 4
  s1 : w.heap.size ≤ w1.heap.size
  s2 : w1.heap.size ≤ w2.heap.size
  s3 : w2.heap.size ≤ w3.heap.size
  out : ∀ W, Below w3.heap.size w3 W → Fnds W w2.heap.size A2 n2 rs
  want : ∀ W, Below w3.heap.size w3 W → Fnds W w3.heap.size A3 n2 rs'
  f2 : fns rs = scanD (zns qs)
  f3 : fns rs = fns rs'
  cap2 : n2 ≤ c2 ∧ c2 ≤ maxLen
  num : n2 ≤ 1000
  fin : ∀ W, Below w3.heap.size w3 W → Below w.heap.size w W

theorem scanD_count {d : Dev} (h : ∀ q ∈ d, q.1.length ≤ 70) : (scanD d).length ≤ 1000 := by
  unfold scanD
  rcases hv : devV d with _ | _
  · exact Nat.zero_le _
  · have h4 : d.length = 4 := (devV_iff.1 hv).2
    rw [if_pos rfl]
    unfold devF
    rw [orderF_length]
    have h1 : ∀ g ∈ scansZ d d.length, g.length ≤ 20 := by
      intro g hg
      obtain ⟨i, hi⟩ := List.getElem?_of_mem hg
      obtain ⟨hi4, rfl⟩ := scansZ_at _ hi
      have h2 := scan_count (i : Int) (d.getD i ([], 0, false)).1 0
      have h3 : (d.getD i ([], 0, false)).1.length ≤ 70 := by
        have hx : d[i]? = some d[i] := List.getElem?_eq_getElem hi4
        have := h d[i] (List.getElem_mem _)
        simpa [List.getD, hx] using this
      omega
    have h2 := sum_leN h1
    have h3 : (scansZ d d.length).length = 4 := by unfold scansZ; rw [List.length_map, List.length_range, h4]
    omega

theorem DScn.of {w w1 w2 w3 : World} {A1 A2 A3 : Option Addr} {m c1 n2 n3 c2 c3 : Nat} {qs : List Zq} {rs rs' : List Fq} (hd : DevDrawn w w1 A1 m c1 qs)
    (ho2 : OwnF w2 w1.heap.size A2 n2 c2 rs) (hf2 : fns rs = scanD (zns qs)) (hb2 : Below w1.heap.size w1 w2)
    (ho3 : OwnF w3 w2.heap.size A3 n3 c3 rs') (hf3 : fns rs' = scanD (zns qs)) (hb3 : Below w2.heap.size w2 w3) : n3 = n2 ∧ DScn w w1 w2 w3 A1 m c1 qs A2 A3 n2 c2 c3 rs rs' := by
  obtain ⟨hz, hm, hmc, hcm, hl, hB⟩ := hd
  have e : n3 = n2 := by
    have h1 := congrArg List.length (hf2.trans hf3.symm)
    rw [fns_length, fns_length, ho2.len, ho3.len] at h1
    exact h1.symm
  subst e
  have hb13 := hb2.trans (hb3.mono hb2.size)
  refine ⟨rfl, ⟨fun W h => (hz.below hb13 (Nat.le_refl _)).below (h.mono hb13.size) (Nat.le_refl _), hm, hB.size, hb2.size, hb3.size, fun W h => ((ho2.fnds).below hb3 (Nat.le_refl _)).below h hb3.size, fun W h => (ho3.fnds).below h (Nat.le_refl _), hf2, hf2.trans hf3.symm, ho2.cap, ?_,
    fun W h => hB.trans ((hb13.trans (h.mono hb13.size)).mono hB.size)⟩⟩
  rw [← ho2.len, ← fns_length rs, hf2]
  refine scanD_count (fun q hq => ?_)
  unfold zns at hq
  obtain ⟨q', hq', rfl⟩ := List.mem_map.1 hq
  exact hl q' hq'
end Go.Proofs.Ytcocboigjfjnfac

/- LawN7 -/
namespace Go.Proofs.Ytcocboigjfjnfac
open Go.RowKit
set_option linter.unusedVariables false
set_option maxRecDepth 100000

theorem sumL_snoc (zs : List (List Fn)) (g : List Fn) : sumL (zs ++ [g]) = sumL zs + g.length := by
  induction zs with
  | nil => simp [sumL]
  | cons x zs ih => simp only [List.cons_append, sumL, ih]; omega
theorem sumL_mono (d : Dev) {k n : Nat} (h : k ≤ n) : sumL (scansZ d k) ≤ sumL (scansZ d n) := by
  induction n with
  | zero => obtain rfl : k = 0 := by omega
            exact Nat.le_refl _
  | succ n ih =>
    by_cases e : k = n + 1
    · rw [e]; exact Nat.le_refl _
    · have h1 := ih (by omega)
      have h2 : scansZ d (n + 1) = scansZ d n ++ [(scanW (n : Int) (d.getD n ([], 0, false)).1 0).1] := by unfold scansZ; rw [List.range_succ, List.map_append]; rfl
      rw [h2, sumL_snoc]
      omega
set_option maxHeartbeats 12800000 in
theorem scanDevice_walk (A : Option Addr) (n c : Nat) (bs : Nat → Int) (w : World) (hb : Bytes w w.heap.size A n bs) (hn : n ≤ c) (hc : c ≤ maxLen) :
    Calls Try.prog 3 #[.slice A n c] w fun e w' => e = .returned (.bool true) ∧ Below w.heap.size w w' := by
  by_cases hbig : 1048576 < n
  · go_enter Try.func3, Try.ntmps3
    go_wp2
    go_ret
    exact ⟨rfl, Below.refl _ _⟩
  go_enter Try.func3, Try.ntmps3
  go_wp2_with fail
  refine (drawScanDevice_any A n c bs _ hb hn hc).mono ?_
  rintro e w1 ⟨A1, m, c1, qs, rfl, hd⟩
  have HD := hide hd
  have HP1 := hide (implScanD A1 m c1 _ qs w1 hd.1 (Nat.le_refl _) (by have := hd.2.1; omega))
  have HP2 := hide fun (W : World) (h : Below w1.heap.size w1 W) => specScanD A1 m c1 _ qs W (hd.1.below h (Nat.le_refl _)) h.size (by have := hd.2.1; omega)
  clear hb hd
  go_wp2_with fail
  refine HP1.out.mono ?_
  rintro e w2 ⟨A2, c2, n2, rs, rfl, ho2, hf2, hb2⟩
  have HO2 := hide ho2
  have HF2 := hide hf2
  have HB2 := hide hb2
  clear ho2 hf2 hb2 HP1
  go_wp2_with fail
  refine (HP2.out w2 HB2.out).mono ?_
  rintro e w3 ⟨A3, c3, n3, rs', rfl, ho3, hf3, hb3⟩
  obtain ⟨rfl, hZ⟩ := DScn.of HD.out HO2.out HF2.out HB2.out ho3 hf3 hb3
  have HZ := hide hZ
  clear hZ ho3 hf3 hb3 HO2 HF2 HB2 HP2 HD
  have h4 := HZ.out.m4
  have hnum := HZ.out.num
  have HSM := hide fun (W : World) (h : Below w3.heap.size w3 W) => sameFnd_yes A2 A3 n3 c2 c3 _ _ rs rs' W (HZ.out.out W h) (HZ.out.want W h) (Nat.le_trans HZ.out.s3 h.size) h.size (by unfold maxLen; omega) HZ.out.f3
  have HDV := hide fun (W : World) (h : Below w3.heap.size w3 W) => specDV A1 m c1 _ qs W (HZ.out.zs W h) (by omega)
  rcases hv : devV (zns qs) with _ | _
  · rw [hv] at HDV
    clear hv
    go_wp2_with fail
    refine (HSM.out w3 (Below.refl _ _)).mono ?_
    rintro e w4 ⟨rfl, hb4⟩
    have HB4 := hide hb4
    clear hb4
    go_wp2_with fail
    refine (HDV.out w4 HB4.out).mono ?_
    rintro e w5 ⟨rfl, q5, rfl⟩
    have HB5 := hide (below_drewN HB4.out q5)
    go_wp2_with fail
    refine (HSM.out _ HB5.out).mono ?_
    rintro e w6 ⟨rfl, hb6⟩
    have HFIN := hide (HZ.out.fin w6 (HB5.out.trans (hb6.mono HB5.out.size)))
    clear hb6
    go_wp2
    go_ret
    exact ⟨rfl, HFIN.out⟩
  rw [hv] at HDV
  obtain rfl : m = 4 := devV_is4 hv (HZ.out.zs w3 (Below.refl _ _)).1
  have HVV := hide hv
  have HFD : Hid (fns rs = devF (zns qs)) := by show _ = _; rw [HZ.out.f2]; unfold scanD; rw [hv]; rfl
  have HL4 : Hid ((zns qs).length = 4) := by show _ = _; rw [zns, List.length_map]; exact (HZ.out.zs w3 (Below.refl _ _)).1
  clear hv
  go_wp2_with fail
  refine (HSM.out w3 (Below.refl _ _)).mono ?_
  rintro e w4 ⟨rfl, hb4⟩
  have HB4 := hide hb4
  clear hb4
  go_wp2_with fail
  refine (HDV.out w4 HB4.out).mono ?_
  rintro e w5 ⟨rfl, q5, rfl⟩
  have HB5 := hide (below_drewN HB4.out q5)
  generalize w4.drewN q5 = w5 at *
  clear HSM HDV HB4
  have hw35 : w3.heap.size ≤ w5.heap.size := HB5.out.size
  go_wp2
  go_loopw [6, 7] (fun nv zv wr => ∃ (k s : Nat), k ≤ 4 ∧ s ≤ 1000 ∧ zv = .int .i64 k ∧ nv = .int .i64 s ∧ Hid (s = sumL (scansZ (zns qs) k)) ∧ Hid (Below w5.heap.size w5 wr)) (fun _ zv _ => 4 - (intOf zv).toNat)
  case atStart => exact ⟨0, 0, by omega, by omega, rfl, rfl, rfl, Below.refl _ _⟩
  case round =>
    obtain ⟨k, s, hk, hsl, rfl, rfl, HS, HB⟩ := hrel
    have HBW := hide (HB5.out.trans (HB.out.mono hw35))
    by_cases hlt : k < 4
    · have k1 : (k : Int) < 4 := by omega
      have hz := HZ.out.zs wr HBW.out
      have hwr : w1.heap.size ≤ wr.heap.size := by have := HZ.out.s2; have := HZ.out.s3; have := HBW.out.size; omega
      obtain ⟨q, hq⟩ : ∃ q, qs[k]? = some q := ⟨_, List.getElem?_eq_getElem (by rw [hz.1]; exact hlt)⟩
      have HSC := hide (implScanZ A1 4 c1 _ (k : Int) qs wr hz hwr (by omega) (by omega) (by omega))
      unfold ScanPost at HSC
      rw [scanZ_yes HVV.out hlt hq] at HSC
      have HZS := hide (sumL_snoc (scansZ (zns qs) k) ((scanW (k : Int) q.words 0).1))
      rw [← scansZ_succ hq] at HZS
      have HLE := hide (sumL_mono (zns qs) (show k + 1 ≤ 4 by omega))
      clear hz hq
      go_wp2_with fail
      refine HSC.out.mono ?_
      rintro e w6 ⟨A6, c6, m6, rs6, rfl, ho6, hf6, hb6⟩
      have hs2 : s + m6 = sumL (scansZ (zns qs) (k + 1)) := by rw [HZS.out, ← hf6, fns_length, ho6.len, HS.out]
      have HS2 := hide hs2
      have hm6 : s + m6 ≤ 1000 := by
        have h1 := HLE.out
        have h2 := orderF_length (scansZ (zns qs) 4)
        have h3 : (fns rs).length = sumL (scansZ (zns qs) 4) := by rw [HFD.out]; unfold devF; rw [HL4.out]; exact h2
        rw [fns_length, (HZ.out.out w3 (Below.refl _ _)).1] at h3
        omega
      have HB6 := hide (HB.out.trans (hb6.mono HB.out.size))
      have kw : IntKind.i64.wrap ((s : Int) + (m6 : Int)) = ((s + m6 : Nat) : Int) := IntWalk.i64_in _ (by omega) |>.trans (by omega)
      obtain ⟨S2, hS2⟩ : ∃ S2, s + m6 = S2 := ⟨_, rfl⟩
      rw [hS2] at kw hm6 HS2
      clear hs2 ho6 hf6 hb6 HSC hS2
      go_wp2
      go_roundw
      case rel => exact ⟨k + 1, S2, by omega, hm6, by go_num, rfl, HS2.out, HB6.out⟩
      case measure => simp [intOf]; omega
    · have HK4 := hide (show k = 4 by omega)
      have k1 : ¬ (k : Int) < 4 := by omega
      have hsn : s = n3 := by
        have h3 : (fns rs).length = sumL (scansZ (zns qs) 4) := by rw [HFD.out]; unfold devF; rw [HL4.out]; exact orderF_length _
        rw [fns_length, (HZ.out.out w3 (Below.refl _ _)).1] at h3
        have := HS.out
        rw [HK4.out] at this
        omega
      subst hsn
      go_wp2
      go_loopw [10] (fun iv wi => ∃ (i : Nat), 1 ≤ i ∧ (i ≤ s ∨ i = 1) ∧ iv = .int .i64 i ∧ Hid (Below w5.heap.size w5 wi)) (fun iv _ => s - (intOf iv).toNat)
      case atStart => exact ⟨1, Nat.le_refl _, .inr rfl, rfl, HB.out⟩
      case round =>
        clear HB HBW
        obtain ⟨i, hi1, hi2, rfl, HB⟩ := hrel
        have HBW := hide (HB5.out.trans (HB.out.mono hw35))
        by_cases hlt2 : i < s
        · obtain ⟨j, hj⟩ : ∃ j, i = j + 1 := ⟨i - 1, by omega⟩
          have hR := HZ.out.out wr HBW.out
          obtain ⟨x, hx⟩ : ∃ x, rs[j]? = some x := ⟨_, List.getElem?_eq_getElem (by rw [hR.1]; omega)⟩
          obtain ⟨y, hy⟩ : ∃ y, rs[i]? = some y := ⟨_, List.getElem?_eq_getElem (by rw [hR.1]; exact hlt2)⟩
          have hle : x.seq ≤ y.seq := by
            have h1 := orderF_asc (scansZ (zns qs) (zns qs).length)
            have h2 : ascF (fns rs) := by rw [HFD.out]; exact h1
            have h3 := List.pairwise_iff_getElem.1 h2 j i (by rw [fns_length, hR.1]; omega) (by rw [fns_length, hR.1]; exact hlt2) (by omega)
            have e1 := fns_get hx
            have e2 := fns_get hy
            rw [List.getElem?_eq_getElem (by rw [fns_length, hR.1]; omega)] at e1 e2
            injection e1 with e1
            injection e2 with e2
            rw [e1, e2] at h3
            exact h3
          obtain ⟨ad, p, rfl, hp, hpb, c0, c1', c2', c3', c4⟩ := hR.at_ hx
          obtain ⟨ad', p', e', hp', hpb', d0, d1, d2, d3, d4⟩ := hR.at_ hy
          injection e' with e'
          subst e'
          have kw : IntKind.i64.wrap ((i : Int) - 1) = (j : Int) := IntWalk.i64_in _ (by omega) |>.trans (by omega)
          have j0 : (0 : Int) ≤ (j : Int) := by omega
          have j1 : (j : Int) < (s : Int) := by omega
          have i0 : (0 : Int) ≤ (i : Int) := by omega
          have i1 : (i : Int) < (s : Int) := by omega
          have hle2 : ¬ y.seq < x.seq := by omega
          clear hR hx hy hj c0 c1' c2' c4 d0 d1 d2 d4
          generalize x.seq = xs_ at *
          generalize y.seq = ys_ at *
          go_wp2_with fail
          go_quiet (fail)
          go_wp2
          go_roundw
          case rel => exact ⟨i + 1, by omega, .inl (by omega), by go_num, below_drewN HB.out _⟩
          case measure => simp [intOf]; omega
        · have i1 : ¬ (i : Int) < (s : Int) := by omega
          have HFIN := hide (HZ.out.fin wr HBW.out)
          go_wp2
          go_ret
          exact ⟨by simp, HFIN.out⟩
end Go.Proofs.Ytcocboigjfjnfac
