/-
  The program's layerValid, LayersValid.
-/
import Derived.Test.YtapfbkjgmfmepaaImpL4
import Derived.Test.YtapfbkjgmfmepaaIterP
import Derived.Test.YtapfbkjgmfmepaaAscB
namespace Go.Proofs.Ytapfbkjgmfmepaa
open Go.RowKit Go.Shelf
set_option linter.unusedVariables false
set_option maxRecDepth 100000

def valsL (ps : Ly) : Bool := ps.all fun e => inB e.2 0 99
theorem lyV_two {ps : Ly} : ∀ {l : Int}, lyV l ps = (valsL ps && aB l (ps.map (·.1))) := by
  induction ps with
  | nil => intro l; rfl
  | cons e r ih =>
    intro l
    show (inB e.1 0 11 && inB e.2 0 99 && decide (l < e.1) && lyV e.1 r) = ((inB e.2 0 99 && valsL r) && (inB e.1 0 11 && decide (l < e.1) && aB e.1 (r.map (·.1))))
    rw [ih]
    cases inB e.1 0 11 <;> cases inB e.2 0 99 <;> cases decide (l < e.1) <;> cases valsL r <;> cases aB e.1 (r.map (·.1)) <;> rfl
theorem layV_two (ps : Ly) : layV ps = (valsL ps && okB (ps.map (·.1))) := lyV_two
theorem blocks_fl {ps : Ly} {n : Nat} (h : ps.length = n) : blocksOf 2 (fl ps) n = ps.map (·.1) := by
  apply List.ext_getElem?
  intro i
  by_cases hi : i < n
  · have l1 : i < (blocksOf 2 (fl ps) n).length := by rw [blocksOf_length]; exact hi
    have l2 : i < ps.length := by omega
    have h1 := blocksOf_getD 2 (fl ps) n i hi
    rw [(fl_getD (List.getElem?_eq_getElem l2)).1] at h1
    rw [List.getElem?_eq_getElem l1, List.getElem?_map, List.getElem?_eq_getElem l2]
    simpa [List.getD, l1] using h1
  · rw [List.getElem?_eq_none (by rw [blocksOf_length]; omega), List.getElem?_eq_none (by rw [List.length_map]; omega)]
theorem valsL_step {ps : Ly} {k : Nat} {e : Int × Int} (he : ps[k]? = some e) (h : valsL (ps.take k) = true) : valsL (ps.take (k + 1)) = inB e.2 0 99 := by
  rw [List.take_add_one, he]
  unfold valsL at h ⊢
  rw [List.all_append, h]
  simp
theorem valsL_bad {ps : Ly} {k : Nat} {e : Int × Int} (he : ps[k]? = some e) (h : inB e.2 0 99 = false) : layV ps = false := by
  rw [layV_two]
  have : valsL ps = false := by
    rcases hv : valsL ps with _ | _
    · rfl
    · have h2 : inB e.2 0 99 = true := List.all_eq_true.1 hv e (List.mem_of_getElem? he)
      rw [h] at h2; cases h2
  rw [this]; rfl

set_option maxHeartbeats 3200000 in
theorem implLayer (A : Option Addr) (n c B : Nat) (ps : Ly) (w : World) (hr : PrI w B A n ps) (hB : B ≤ w.heap.size) (hn : n ≤ 1000000000) :
    Calls Try.prog 52 #[.slice A n c] w fun e w' => e = .returned (.bool (layV ps)) ∧ Below w.heap.size w w' := by
  have hl := hr.1
  have HR := hide hr
  have HB := hide hB
  clear hr
  go_enter Try.func52, Try.ntmps52
  go_wp2_with fail
  go_loopw [7] (fun i wr => ∃ k : Nat, k ≤ n ∧ i = .int .i64 k ∧ Hid (valsL (ps.take k) = true) ∧ Hid (Below w.heap.size w wr)) (fun i _ => n - (intOf i).toNat)
  case atStart => exact ⟨0, Nat.zero_le _, rfl, rfl, Below.refl _ _⟩
  case round =>
    obtain ⟨k, hk, rfl, HV, HW⟩ := hrel
    by_cases hlt : k < n
    · obtain ⟨e, he⟩ : ∃ e, ps[k]? = some e := ⟨_, List.getElem?_eq_getElem (by omega)⟩
      obtain ⟨ad, q, rfl, hq, hb, hc0, hc1⟩ := (HR.out.below HW.out HB.out).at_ he
      have hst := valsL_step he HV.out
      have HBAD := hide fun h => valsL_bad he h
      obtain ⟨x0, x1⟩ := e
      simp only at hc0 hc1 hst HBAD
      have hsz := HW.out.size
      have HBA := hide (HW.out.alloc hsz (.cells #[.int .i64 x0, .int .i64 x1] 29))
      by_cases t0 : x1 < 0
      · have HBD := hide (HBAD.out (by simp [inB]; omega))
        clear hst HBAD he
        go_wp2
        go_ret
        exact ⟨ret_bool HBD.out.symm, HBA.out⟩
      · by_cases t1 : 99 < x1
        · have HBD := hide (HBAD.out (by simp [inB]; omega))
          clear hst HBAD he
          go_wp2
          go_ret
          exact ⟨ret_bool HBD.out.symm, HBA.out⟩
        · have HG := hide (show valsL (ps.take (k + 1)) = true by rw [hst]; simp [inB]; omega)
          clear hst HBAD he
          go_wp2
          go_roundw
          case rel => exact ⟨k + 1, by omega, by go_num, HG.out, HBA.out⟩
          case measure => simp [intOf]; omega
    · obtain rfl : k = n := by omega
      have HVA := hide HV.out
      rw [List.take_of_length_le (by omega)] at HVA
      have HI := hide (HR.out.below HW.out HB.out)
      have hsz := HW.out.size
      go_wp2_with fail
      refine (pairBlocks_any A k c _).mono ?_
      rintro e w1 ⟨rfl, rfl⟩
      have HAS := hide (callsIn_wide.1 (ascend_in _ _ (blocksOf 2 (fl ps) k) wr.heap.size k 4 (Nat.le_refl _) (wr.alloc (.cells #[.slice A k c] 27)) (by simp) (enters_of Try.func72 (by kernel_rfl) rfl)
        (pairBlocks_stops A k c 3 wr.heap.size wr.heap.size (fl ps) _ (by omega) (by simp) (by simp) ((Blk.new wr 27 #[.slice A k c]).cell 0) ((HI.out.2.more (by omega)).alloc (Nat.le_refl _) _) (by omega))))
      rw [blocksOf_length] at HAS
      have e1 : asc 1 (blocksOf 2 (fl ps) k) k = layV ps := by
        rw [layV_two, HVA.out, Bool.true_and, blocks_fl hl, ← asc_okB, List.length_map, hl]
      rw [e1] at HAS
      clear e1
      go_wp2_with fail
      refine HAS.out.mono ?_
      rintro e w2 ⟨rfl, hb2⟩
      go_wp2
      go_ret
      exact ⟨rfl, (HW.out.alloc hsz _).trans (hb2.mono (by simp; omega))⟩

theorem laysV_take_no {ls : List Ly} {k : Nat} {p : Ly} (hk : ls[k]? = some p) (h : layV p = false) : laysV ls = false := by
  rcases hv : laysV ls with _ | _
  · rfl
  · have := (laysV_iff.1 hv).1 p (List.mem_of_getElem? hk)
    rw [h] at this; cases this
theorem laysV_of {ls : List Ly} (h : (ls.take ls.length).all layV = true) (h1 : 1 ≤ ls.length) (h2 : ls.length ≤ 5) : laysV ls = true := by
  rw [List.take_length] at h
  exact laysV_iff.2 ⟨fun p hp => List.all_eq_true.1 h p hp, h1, h2⟩
theorem all_take {ls : List Ly} {k : Nat} {p : Ly} (hk : ls[k]? = some p) (h : (ls.take k).all layV = true) (hp : layV p = true) : (ls.take (k + 1)).all layV = true := by
  rw [List.take_add_one, hk, List.all_append, h]
  simp [hp]

set_option maxHeartbeats 3200000 in
theorem implLayers (A : Option Addr) (n c B : Nat) (qs : List Lq) (w : World) (hr : LyI w B A n qs) (hB : B ≤ w.heap.size) (hs : ∀ q ∈ qs, q.ps.length ≤ 1000000000) (hn : n ≤ 1000000000) :
    Calls Try.prog 22 #[.slice A n c] w fun e w' => e = .returned (.bool (laysV (lys qs))) ∧ Below w.heap.size w w' := by
  have hl := hr.1
  have HR := hide hr
  have HB := hide hB
  have HS := hide hs
  clear hr hs
  by_cases h1 : n < 1
  · have HV := hide (show laysV (lys qs) = false by unfold laysV; rw [lys_length, hl]; simp [inB]; intro _; omega)
    go_enter Try.func22, Try.ntmps22
    go_wp2
    go_ret
    exact ⟨ret_bool HV.out.symm, Below.refl _ _⟩
  by_cases h5 : 5 < n
  · have HV := hide (show laysV (lys qs) = false by unfold laysV; rw [lys_length, hl]; simp [inB]; intro _; omega)
    go_enter Try.func22, Try.ntmps22
    go_wp2
    go_ret
    exact ⟨ret_bool HV.out.symm, Below.refl _ _⟩
  go_enter Try.func22, Try.ntmps22
  go_wp2_with fail
  go_loopw [15] (fun i wr => ∃ k : Nat, k ≤ n ∧ i = .int .i64 k ∧ Hid (((lys qs).take k).all layV = true) ∧ Hid (Below w.heap.size w wr)) (fun i _ => n - (intOf i).toNat)
  case atStart => exact ⟨0, Nat.zero_le _, rfl, rfl, Below.refl _ _⟩
  case round =>
    obtain ⟨k, hk, rfl, HV, HW⟩ := hrel
    by_cases hlt : k < n
    · obtain ⟨q, hq⟩ : ∃ q, qs[k]? = some q := ⟨_, List.getElem?_eq_getElem (by omega)⟩
      have hi := HR.out.below HW.out HB.out
      obtain ⟨ad, rfl, hb, hc0⟩ := hi.at_ hq
      have HL := hide (implLayer q.addr q.ps.length q.cap B q.ps wr (hi.layer hq).1 (Nat.le_trans HB.out HW.out.size) (HS.out q (List.mem_of_getElem? hq)))
      have HNO := hide fun h => laysV_take_no (lys_get hq) h
      have HYES := hide fun h => all_take (lys_get hq) HV.out h
      have hsz := HW.out.size
      clear hi hq
      unfold Lq.sl at hc0
      generalize layV q.ps = v at HL HNO HYES
      go_wp2_with fail
      refine HL.out.mono ?_
      rintro e w2 ⟨rfl, hb2⟩
      have HB2 := hide (HW.out.trans (hb2.mono hsz))
      clear hb2
      rcases v with _ | _
      · have HV2 := hide (HNO.out rfl)
        go_wp2
        go_ret
        exact ⟨ret_bool HV2.out.symm, HB2.out⟩
      · have HV2 := hide (HYES.out rfl)
        go_wp2
        go_roundw
        case rel => exact ⟨k + 1, by omega, by go_num, HV2.out, HB2.out⟩
        case measure => simp [intOf]; omega
    · obtain rfl : k = n := by omega
      have HV2 := hide (show laysV (lys qs) = true from laysV_of (by rw [lys_length, hl]; exact HV.out) (by rw [lys_length]; omega) (by rw [lys_length]; omega))
      go_wp2
      go_ret
      exact ⟨ret_bool HV2.out.symm, HW.out⟩
end Go.Proofs.Ytapfbkjgmfmepaa
