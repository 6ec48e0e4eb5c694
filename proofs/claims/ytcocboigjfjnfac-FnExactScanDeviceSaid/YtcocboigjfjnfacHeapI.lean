/-
  container/heap over the merger: up, down, Push, Pop; and the merger's add, take.
-/
import Derived.Test.YtcocboigjfjnfacMeth
namespace Go.Proofs.Ytcocboigjfjnfac
open Go.RowKit
set_option linter.unusedVariables false
set_option maxRecDepth 100000

/-- the merger behind the interface -/
def hpV (b : Nat) : Value := .iface 91 (.pointer (some ⟨b, 0, none⟩))

/-- lists exchanged: the same lists, in a heap -/
structure HeapPost (w : World) (base b n : Nat) (A : Option Addr) (c : Nat) (hs : List Hq) (m : Nat) (w' : World) (hs' : List Hq) : Prop where
  mg : Mg w' base b A n c hs'
  perm : hs'.Perm hs
  rest : ∀ k, m ≤ k → hs'[k]? = hs[k]?
  heap : HpOk (keyL (fnH hs')) m
  trn : Trn base w w'

theorem keyL_swp {hs : List Hq} {i j : Nat} (hi : i < hs.length) (hj : j < hs.length) : keyL (fnH (swL hs i j)) = swK (keyL (fnH hs)) i j := by
  unfold fnH
  rw [swL_map]
  exact keyL_sw (by rw [List.length_map]; exact hi) (by rw [List.length_map]; exact hj)
theorem swL_rest {α : Type} (l : List α) {i j k : Nat} (hi : i < l.length) (hj : j < l.length) (h1 : k ≠ i) (h2 : k ≠ j) : (swL l i j)[k]? = l[k]? := by rw [swL_get l hi hj, if_neg h1, if_neg h2]

theorem rest_none {w : World} {base b n c : Nat} {A : Option Addr} {ls hs : List Hq} (h : Mg w base b A n c ls) (hp : ls.Perm hs) {q : Nat} (hq : n ≤ q) : ls[q]? = hs[q]? := by
  rw [List.getElem?_eq_none (by rw [h.len]; exact hq), List.getElem?_eq_none (by rw [← hp.length_eq, h.len]; exact hq)]

set_option maxHeartbeats 6400000 in
theorem up_any (base b n c j : Nat) (A : Option Addr) (hs : List Hq) (w : World) (hm : Mg w base b A n c hs) (hj : j < n) (hu : HpUp (keyL (fnH hs)) n j) :
    Calls Try.prog 85 #[hpV b, .int .i64 j] w fun e w' => e = .returned (.tuple #[]) ∧ ∃ hs', HeapPost w base b n A c hs n w' hs' := by
  have hn := hm.small
  have HM := hide hm
  have HU := hide hu
  clear hm hu
  unfold hpV
  go_enter Try.func85, Try.ntmps85
  go_wp2
  go_loopw [1] (fun jv wr => ∃ (k : Nat) (ls : List Hq), k < n ∧ jv = .int .i64 k ∧ Hid (Mg wr base b A n c ls) ∧ Hid (ls.Perm hs) ∧ Hid (HpUp (keyL (fnH ls)) n k) ∧ Hid (Trn base w wr)) (fun jv _ => (intOf jv).toNat)
  case atStart => exact ⟨j, hs, hj, rfl, HM.out, List.Perm.refl _, HU.out, Trn.refl _ _⟩
  case round =>
    obtain ⟨k, ls, hk, rfl, HL, HP, HH, HT⟩ := hrel
    have c0 := HL.out.cell.cell 0
    simp only [List.getElem?_toArray, List.getElem?_cons_zero] at c0
    have hml := meth_less b n c A wr c0
    clear c0
    by_cases h0 : k = 0
    · subst h0
      have e1 : IntKind.i64.wrap (((0 : Nat) : Int) - 1) = -1 := rfl
      have e2 : ((-1 : Int)).tdiv 2 = 0 := rfl
      have e3 : IntKind.i64.wrap 0 = 0 := rfl
      go_wp2
      exact bodyPost_end (results_none Try.results85 _ _ _) rfl ⟨rfl, ls, HL.out, HP.out, fun q hq => rest_none HL.out HP.out hq, HH.out.done0, HT.out⟩
    · obtain ⟨m, hm⟩ : ∃ m, k = m + 1 := ⟨k - 1, by omega⟩
      obtain ⟨i, hi⟩ : ∃ i, m / 2 = i := ⟨_, rfl⟩
      have hik : i < k := by omega
      have e1 : IntKind.i64.wrap ((k : Int) - 1) = (m : Int) := IntWalk.i64_in _ (by omega) |>.trans (by omega)
      have e2 : ((m : Int)).tdiv 2 = (i : Int) := by rw [← hi]; rfl
      have e3 : IntKind.i64.wrap (i : Int) = (i : Int) := IntWalk.i64_in _ (by omega)
      have e4 : ((i : Int) == (k : Int)) = false := by simp; omega
      have hki : (k - 1) / 2 = i := by omega
      have HKI := hide hki
      have HLS := hide (less_any base b n c k i A ls wr HL.out hk (by omega))
      clear hm hi hki h0
      by_cases hl : ltF (keyL (fnH ls) k) (keyL (fnH ls) i)
      · have hd : decide (cmpF (keyL (fnH ls) k) (keyL (fnH ls) i) < 0) = true := decide_eq_true (cmpF_lt.2 hl)
        rw [hd] at HLS
        have HSTEP := hide (HH.out.step (show 0 < k by omega) hk HKI.out hl)
        clear hl hd
        go_wp2_with fail
        refine HLS.out.mono ?_
        rintro e w1 ⟨rfl, hb1⟩
        have HL1 := hide (HL.out.below hb1 HL.out.bw)
        have HT1 := hide (HT.out.trans (.of_below hb1 HL.out.bw))
        have c1 := HL1.out.cell.cell 0
        simp only [List.getElem?_toArray, List.getElem?_cons_zero] at c1
        have hms := meth_swap b n c A w1 c1
        clear c1 hb1 hml
        have HSW := hide (swap_any base b n c i k A ls w1 HL1.out (by omega) hk)
        go_wp2_with fail
        refine HSW.out.mono ?_
        rintro e w2 ⟨rfl, hm2, ht2⟩
        have HL2 := hide hm2
        have HT2 := hide (HT1.out.trans ht2)
        clear hm2 ht2 hms
        go_wp2
        go_roundw
        case rel => exact ⟨i, swL ls i k, by omega, rfl, HL2.out, (swL_perm ls i k).trans HP.out, by show HpUp _ _ _; rw [keyL_swp (by rw [HL.out.len]; omega) (by rw [HL.out.len]; exact hk)]; exact HSTEP.out, HT2.out⟩
        case measure => simp [intOf]; omega
      · have hd : decide (cmpF (keyL (fnH ls) k) (keyL (fnH ls) i) < 0) = false := decide_eq_false (fun h => hl (cmpF_lt.1 h))
        rw [hd] at HLS
        have HDONE := hide (HH.out.done (by rw [HKI.out]; exact hl))
        clear hl hd
        go_wp2_with fail
        refine HLS.out.mono ?_
        rintro e w1 ⟨rfl, hb1⟩
        have HL1 := hide (HL.out.below hb1 HL.out.bw)
        have HT1 := hide (HT.out.trans (.of_below hb1 HL.out.bw))
        clear hb1 hml
        go_wp2
        exact bodyPost_end (results_none Try.results85 _ _ _) rfl ⟨rfl, ls, HL1.out, HP.out, fun q hq => rest_none HL.out HP.out hq, HDONE.out, HT1.out⟩
end Go.Proofs.Ytcocboigjfjnfac
