/-
  The program's ScanMap.
-/
import Derived.Test.YtcocboigjfjnfabSpecN4
import Derived.Test.YtcocboigjfjnfabImpM5
namespace Go.Proofs.Ytcocboigjfjnfab
open Go.RowKit
set_option linter.unusedVariables false
set_option maxRecDepth 100000

theorem newM_own {w w1 : World} (hown : w1.ownsRow w.heap.size 55 5 (.slice (some ⟨w.heap.size, 0, none⟩) 12 12) 12 (madeCells (Value.agg #[.int .i64 0, .int .i64 0, .int .i64 0, .int .i64 0, .int .i64 0]).cells (12 * 5)).toList) :
    MpR w1 w.heap.size (some ⟨w.heap.size, 0, none⟩) 12 12 new12 := by
  refine ⟨rfl, by simp [fl5_length, new12], ?_⟩
  have e : (madeCells (Value.agg #[.int .i64 0, .int .i64 0, .int .i64 0, .int .i64 0, .int .i64 0]).cells (12 * 5)).toList = (fl5 new12).map (Value.int .i64) := by
    rw [made_sameM _ (.int .i64 0) (by decide) (fun i hi => by have h2 : i < 5 := hi; rcases i with _ | _ | _ | _ | _ | i <;> first | rfl | omega) _]
    rfl
  rw [← e]
  exact hown

set_option maxHeartbeats 6400000 in
theorem implSM (A : Option Addr) (n c B : Nat) (qs : List Fq) (w : World) (hr : Fnds w B A n qs) (hB : B ≤ w.heap.size) (hn : n ≤ 100000000) (hq : ∀ q ∈ qs, q.vals.length ≤ 1000000000) :
    Calls Try.prog 8 #[.slice A n c] w (SmPost w (smap (fns qs))) := by
  have HR := hide hr
  have HQ := hide hq
  clear hr hq
  obtain ⟨r, hr⟩ : ∃ r, smap (fns qs) = r := ⟨_, rfl⟩
  rw [hr]
  have HS0 : Hid (smF new12 0 ((fns qs).drop 0) = r) := by show _ = _; rw [← hr]; simp [smap]
  clear hr
  obtain ⟨i0, hi, hz0, hz1, hz2⟩ := info_parts whT.info
  go_enter Try.func8, Try.ntmps8
  go_wp2_with (at_make; refine wpList_make_full _ rfl _ _ 25 rfl w.heap.size 55 i0 (Value.agg #[.int .i64 0, .int .i64 0, .int .i64 0, .int .i64 0, .int .i64 0]) 5 Try.underlying25 hi hz0 hz1 .i64 .i64 _ _ 12 rfl rfl rfl rfl (by rw [hz2]; omega) (by unfold maxLen; omega) (Nat.le_refl _) ?_; intro w1 hown hgrow)
  have HO1 := hide (newM_own hown)
  have HB1 := hide (below_of_grown hgrow)
  clear hown hgrow hi hz0 hz1 hz2
  go_loopw [4, 5, 13] (fun m lv i wr => ∃ (k c2 : Nat) (A2 : Option Addr) (ms : List Wh) (l : Int), k ≤ n ∧ i = .int .i64 k ∧ lv = .int .i64 l ∧ m = .slice A2 12 c2 ∧ Hid (MpR wr w.heap.size A2 12 c2 ms) ∧ Hid (smF ms l ((fns qs).drop k) = r) ∧
      Hid (Below w.heap.size w wr)) (fun _ _ i _ => n - (intOf i).toNat)
  case atStart => exact ⟨0, 12, _, new12, 0, Nat.zero_le _, rfl, rfl, rfl, HO1.out, HS0.out, HB1.out⟩
  case round =>
    clear HO1 HB1 HS0
    obtain ⟨k, c2, A2, ms, l, hk, rfl, rfl, rfl, HO, HS, HB⟩ := hrel
    have hs := HB.out.size
    by_cases hlt : k < n
    · obtain ⟨q, hq⟩ : ∃ q, qs[k]? = some q := ⟨_, List.getElem?_eq_getElem (by rw [HR.out.1]; omega)⟩
      have hR := HR.out.below HB.out hB
      obtain ⟨ad, p, rfl, hp, hpb, hc0, hc1, hc2, hc3, hc4⟩ := hR.at_ hq
      obtain ⟨hi, hle, hcm, hnl⟩ := hR.words hq
      have hql := HQ.out q (List.mem_of_getElem? hq)
      have hBr : B ≤ wr.heap.size := Nat.le_trans hB hs
      obtain ⟨ok, hok⟩ : ∃ ok, apOk ms q.kind q.seq q.vals q.zone q.word = ok := ⟨_, rfl⟩
      have HST := hide ((smF_at hq ms l).symm.trans HS.out)
      rw [ok_fn hok] at HST
      have HAP : Hid (apFn ms q.fn = apM ms q.kind q.seq q.vals q.zone q.word) := rfl
      have HOK := hide hok
      obtain ⟨W0, hW0⟩ : ∃ W0, wr.alloc (.cells #[.int .i64 q.zone, .int .i64 q.word, .int .i64 q.kind, .int .i64 q.seq, q.sl] 34) = W0 := ⟨_, rfl⟩
      have hw0 : Below wr.heap.size wr W0 := by rw [← hW0]; exact below_new wr _
      have HBX := hide (show Blk W0 wr.heap.size 34 #[.int .i64 q.zone, .int .i64 q.word, .int .i64 q.kind, .int .i64 q.seq, q.sl] by rw [← hW0]; exact Blk.new wr _ _)
      have HSZ := hide (show W0.heap.size = wr.heap.size + 1 by rw [← hW0]; simp)
      have HB0 := hide (HB.out.trans (hw0.mono hs))
      unfold maxLen at hcm
      have HC := hide (implMA A2 q.addr 12 c2 q.vals.length q.cap wr.heap.size B ms q.kind q.seq q.zone q.word q.vals W0 (HO.out.mpi.below hw0 (Nat.le_refl _)) (hi.below hw0 hBr) hw0.size (Nat.le_trans hBr hw0.size) (by omega) hql hle (by omega))
      rw [hok] at HC
      obtain ⟨b0, b1, b2, b3, b4⟩ : W0.cell? ⟨wr.heap.size, 0, none⟩ = some (.int .i64 q.zone) ∧ W0.cell? ⟨wr.heap.size, 1, none⟩ = some (.int .i64 q.word) ∧ W0.cell? ⟨wr.heap.size, 2, none⟩ = some (.int .i64 q.kind) ∧
          W0.cell? ⟨wr.heap.size, 3, none⟩ = some (.int .i64 q.seq) ∧ W0.cell? ⟨wr.heap.size, 4, none⟩ = some q.sl := ⟨(HBX.out.cell 0), (HBX.out.cell 1), (HBX.out.cell 2), (HBX.out.cell 3), (HBX.out.cell 4)⟩
      clear hR hq hi hle hcm hnl hok hql HS hw0
      have k0 : (0 : Int) ≤ (k : Int) := by omega
      have k1 : (k : Int) < (n : Int) := by omega
      obtain ⟨z, a, x0, x1, ws, qa, qc⟩ := q
      simp only [Fq.sl] at hc0 hc1 hc2 hc3 hc4 HC HST HAP b0 b1 b2 b3 b4 hW0 HBX
      generalize hm : ws.length = m at hc4 HC b4 hW0 HBX
      go_wp2_with fail
      refine HC.out.mono ?_
      rintro e w3 ⟨A3, m3, c3, rfl, ho3, hb3⟩
      have HO3 := hide (ho3.mono (show w.heap.size ≤ W0.heap.size by have := HSZ.out; omega))
      have HB3 := hide (HB0.out.trans (hb3.mono (show w.heap.size ≤ W0.heap.size by have := HSZ.out; omega)))
      have hq3 : w3.cell? ⟨wr.heap.size, 3, none⟩ = some (.int .i64 x1) := (hb3.cell (p := ⟨wr.heap.size, 3, none⟩) (by have := HSZ.out; simp; omega)).trans b3
      clear ho3 hb3 hc0 hc1 hc2 hc3 hc4 HC b0 b1 b2 b3 b4 HBX hW0
      rcases ok with _ | _
      · have HE : Hid (none = r) := HST.out
        go_wp2
        go_ret2
        exact ⟨_, _, _, by rw [← HE.out]; rfl, by rw [← HE.out]; exact MpR.nil_ _ _, HB3.out⟩
      · have hm12 : m3 = 12 := HO3.out.1.symm.trans (apM_len HOK.out)
        subst hm12
        by_cases hlx : l < x1
        · have HE : Hid (smF (apFn ms (Fq.fn ⟨z, a, x0, x1, ws, qa, qc⟩)) x1 ((fns qs).drop (k + 1)) = r) := by
            have h := HST.out
            rw [show (true && decide (l < x1)) = true from by simp only [Bool.true_and, decide_eq_true_iff]; exact hlx] at h
            exact h
          rw [HAP.out] at HE
          have hlx2 : ¬ x1 ≤ l := by omega
          go_wp2_with fail
          go_quiet (fail)
          go_wp2
          go_roundw
          case rel => exact ⟨k + 1, c3, A3, _, x1, by omega, by go_num, rfl, rfl, HO3.out.drewN _, HE.out, below_drewN HB3.out _⟩
          case measure => simp [intOf]; omega
        · have HE : Hid (none = r) := by
            have h := HST.out
            rw [show (true && decide (l < x1)) = false from by simp only [Bool.true_and, decide_eq_false_iff_not]; exact hlx] at h
            exact h
          have hlx2 : x1 ≤ l := by omega
          go_wp2
          go_ret2
          exact ⟨_, _, _, by rw [← HE.out]; rfl, by rw [← HE.out]; exact MpR.nil_ _ _, HB3.out⟩
    · obtain rfl : k = n := by omega
      have HE := hide ((smF_end HR.out.1 ms l).symm.trans HS.out)
      go_wp2
      go_ret2
      exact ⟨A2, 12, c2, by rw [← HE.out]; rfl, by rw [← HE.out]; exact HO.out, HB.out⟩
end Go.Proofs.Ytcocboigjfjnfab
