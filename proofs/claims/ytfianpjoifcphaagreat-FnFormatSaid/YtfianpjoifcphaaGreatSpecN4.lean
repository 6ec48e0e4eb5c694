/-
  The model's ScanMap.
-/
import Derived.Test.YtfianpjoifcphaaGreatG3
import Derived.Test.YtfianpjoifcphaaGreatG4
import Derived.Deep.Cut
import Derived.Deep.RegionHeld3
namespace Go.Proofs.YtfianpjoifcphaaGreat
open Go.RowKit
set_option linter.unusedVariables false
set_option maxRecDepth 100000

theorem below_undrewS {B : Nat} {a w : World} {i : Nat} (h : Below B (a.drewN i) w) : Below B a w := ⟨h.os, h.tape, h.output, h.size, h.block⟩
theorem smF_at {qs : List Fq} {k : Nat} {q : Fq} (h : qs[k]? = some q) (ms : List Wh) (l : Int) :
    smF ms l ((fns qs).drop k) = if okFn ms l q.fn then smF (apFn ms q.fn) q.seq ((fns qs).drop (k + 1)) else none := by
  have h2 := fns_get h
  obtain ⟨hl, he⟩ := List.getElem?_eq_some_iff.1 h2
  rw [List.drop_eq_getElem_cons hl, he, smF]
  rfl
theorem smF_end {qs : List Fq} {n : Nat} (h : qs.length = n) (ms : List Wh) (l : Int) : smF ms l ((fns qs).drop n) = some ms := by
  rw [List.drop_eq_nil_of_le (by rw [fns_length, h]; exact Nat.le_refl _)]; rfl
theorem ok_fn {ms : List Wh} {l : Int} {q : Fq} {ok : Bool} (h : apOk ms q.kind q.seq q.vals q.zone q.word = ok) : okFn ms l q.fn = (ok && decide (l < q.seq)) := by
  unfold okFn Fq.fn
  simp only
  rw [h]

theorem pre_at {qs : List Fq} {k k' : Nat} {q : Fq} {l : Int} (h : qs[k]? = some q) (e : k = k') (hl : q.seq = l) : ∃ q, qs[k']? = some q ∧ q.seq = l := ⟨q, by rw [← e]; exact h, hl⟩
theorem below_drewN_alloc {B : Nat} {a w : World} (h : Below B a w) (i : Nat) (o : Obj) (hB : B ≤ w.heap.size) : Below B a ((w.drewN i).alloc o) := (below_drewN h i).alloc hB o
set_option maxHeartbeats 6400000 in
theorem specSM (A : Option Addr) (n c B : Nat) (qs : List Fq) (w : World) (hr : Fnds w B A n qs) (hB : B ≤ w.heap.size) (hn : n ≤ 100000000) (hq : ∀ q ∈ qs, q.vals.length ≤ 1000000000) :
    Calls Tryz.prog 124 #[.slice A n c] w (SmPost w (smap (fns qs))) := by
  have HR := hide hr
  have HQ := hide hq
  have HN0 := hide (l11New_any w)
  clear hr hq
  obtain ⟨r, hr⟩ : ∃ r, smap (fns qs) = r := ⟨_, rfl⟩
  rw [hr]
  have HS0 : Hid (smF new12 0 ((fns qs).drop 0) = r) := by show _ = _; rw [← hr]; simp [smap]
  clear hr
  go_enter Tryz.func124, Tryz.ntmps124
  go_wp2_with fail
  refine HN0.out.mono ?_
  rintro e w1 ⟨rfl, ho1, hb1⟩
  have HO1 := hide ho1
  have HB1 := hide hb1
  clear ho1 hb1 HN0
  go_wp2
  go_loopw [4, 5] (fun m i wr => ∃ (k c2 : Nat) (A2 : Option Addr) (ms : List Wh) (l : Int), k ≤ n ∧ i = .int .i64 k ∧ m = .slice A2 12 c2 ∧ Hid (MpR wr w.heap.size A2 12 c2 ms) ∧ Hid (smF ms l ((fns qs).drop k) = r) ∧
      Hid (k = 0 → l = 0) ∧ Hid (∀ k', k = k' + 1 → ∃ q, qs[k']? = some q ∧ q.seq = l) ∧ Hid (Below w.heap.size w wr)) (fun _ i _ => n - (intOf i).toNat)
  case atStart => exact ⟨0, 12, _, new12, 0, Nat.zero_le _, rfl, rfl, HO1.out, HS0.out, fun _ => rfl, fun k' h => by omega, HB1.out⟩
  case round =>
    clear HO1 HB1 HS0
    obtain ⟨k, c2, A2, ms, l, hk, rfl, rfl, HO, HS, HL0, HL1, HB⟩ := hrel
    have hs := HB.out.size
    by_cases hlt : k < n
    · obtain ⟨q, hq⟩ : ∃ q, qs[k]? = some q := ⟨_, List.getElem?_eq_getElem (by rw [HR.out.1]; omega)⟩
      have hR := HR.out.below HB.out hB
      obtain ⟨ad, p, rfl, hp, hpb, hc0, hc1, hc2, hc3, hc4⟩ := hR.at_ hq
      obtain ⟨hi, hle, hcm, hnl⟩ := hR.words hq
      have hql := HQ.out q (List.mem_of_getElem? hq)
      have hBr : B ≤ wr.heap.size := Nat.le_trans hB hs
      obtain ⟨ok, hok⟩ : ∃ ok, apOk ms q.kind q.seq q.vals q.zone q.word = ok := ⟨_, rfl⟩
      have HST := hide ((smF_at hq ms l).symm.trans HS.out)
      rw [ok_fn hok] at HST
      have HAP : Hid (apFn ms q.fn = apM ms q.kind q.seq q.vals q.zone q.word) := rfl
      have HOK := hide hok
      have HQK := hide hq
      have HC := hide (specMA A2 q.addr 12 c2 q.vals.length q.cap wr.heap.size B ms q.kind q.seq q.zone q.word q.vals (wr.drewN 1) (HO.out.mpi.drewN 1) (hi.drewN 1) (Nat.le_refl _) hBr (by omega) hql)
      rw [hok] at HC
      clear hR hq hi hle hcm hnl hok hql HS
      have k0 : (0 : Int) ≤ (k : Int) := by omega
      have k1 : (k : Int) < (n : Int) := by omega
      obtain ⟨z, a, x0, x1, ws, qa, qc⟩ := q
      simp only [Fq.sl] at hc0 hc1 hc2 hc3 hc4 HC HST HAP
      generalize hm : ws.length = m at hc4 HC
      have hbp : p.block < wr.heap.size := by omega
      go_upto_region 5 with (fail)
      go_region_held3 (fun W => W.cell? p = some (.int .i64 z) ∧ W.cell? ⟨p.block, p.off + 1, none⟩ = some (.int .i64 a) ∧ W.cell? ⟨p.block, p.off + 2, none⟩ = some (.int .i64 x0) ∧
          W.cell? ⟨p.block, p.off + 3, none⟩ = some (.int .i64 x1) ∧ W.cell? ⟨p.block, p.off + 4, none⟩ = some (.slice qa m qc))
        (first
          | go_keep
          | (exact ⟨(hb3.cell (p := p) hbp).trans hc0, (hb3.cell (p := ⟨p.block, p.off + 1, none⟩) hbp).trans hc1, (hb3.cell (p := ⟨p.block, p.off + 2, none⟩) hbp).trans hc2, (hb3.cell (p := ⟨p.block, p.off + 3, none⟩) hbp).trans hc3, (hb3.cell (p := ⟨p.block, p.off + 4, none⟩) hbp).trans hc4⟩))
        ((first
          | (go_at_call 175; refine HC.out.mono ?_; rintro e w3 ⟨A3, m3, c3, rfl, ho3, hb3'⟩; have hb3 := below_undrewS (i := 1) hb3'; clear hb3')))
      all_goals
        have HO3 := hide (ho3.mono hs)
        have HB3 := hide (HB.out.trans (hb3.mono hs))
        have hq3 : w3.cell? ⟨p.block, p.off + 3, none⟩ = some (.int .i64 x1) := (hb3.cell (p := ⟨p.block, p.off + 3, none⟩) hbp).trans hc3
        have HFR := hide (HR.out.below HB3.out hB)
        clear ho3 hb3 hc0 hc1 hc2 hc3 hc4 HC
        rcases ok with _ | _
        · have HE : Hid (none = r) := HST.out
          go_wp2_with fail
          go_quiet (fail)
          go_wp2
          go_ret2
          exact ⟨_, _, _, by rw [← HE.out]; rfl, by rw [← HE.out]; exact MpR.lit0 _ _ HB3.out.size, below_drewN_alloc HB3.out _ _ HB3.out.size⟩
        · have hm12 : m3 = 12 := HO3.out.1.symm.trans (apM_len HOK.out)
          subst hm12
          rcases k with _ | k'
          · obtain rfl : l = 0 := HL0.out rfl
            have hx1 := ap_seq HOK.out
            have HE : Hid (smF (apFn ms (Fq.fn ⟨z, a, x0, x1, ws, qa, qc⟩)) x1 ((fns qs).drop 1) = r) := by
              have h := HST.out
              rw [show (true && decide ((0 : Int) < x1)) = true from by simp only [Bool.true_and, decide_eq_true_iff]; exact hx1] at h
              exact h
            rw [HAP.out] at HE
            have kg : ¬ (0 : Int) < (((0 : Nat) : Int)) := by omega
            go_wp2_with fail
            go_quiet (fail)
            go_wp2
            go_roundw
            case rel => exact ⟨1, c3, A3, _, x1, by omega, by go_num, rfl, HO3.out.drewN _, HE.out, fun h => by omega, fun k' h => pre_at HQK.out (by omega) rfl, below_drewN HB3.out _⟩
            case measure => simp [intOf]; omega
          · obtain ⟨q', hq', hql⟩ := HL1.out k' rfl
            obtain ⟨ad', p', e', hp', hpb', _, _, _, hd3, _⟩ := HFR.out.at_ hq'
            injection e' with e'
            subst e'
            rw [hql] at hd3
            clear hq' hql
            have kg : (0 : Int) < ((k' + 1 : Nat) : Int) := by omega
            have kw : IntKind.i64.wrap (((k' + 1 : Nat) : Int) - 1) = (k' : Int) := IntWalk.i64_in _ (by omega) |>.trans (by omega)
            have kz : (0 : Int) ≤ (k' : Int) := by omega
            have kn : (k' : Int) < (n : Int) := by omega
            by_cases hlx : l < x1
            · have HE : Hid (smF (apFn ms (Fq.fn ⟨z, a, x0, x1, ws, qa, qc⟩)) x1 ((fns qs).drop (k' + 1 + 1)) = r) := by
                have h := HST.out
                rw [show (true && decide (l < x1)) = true from by simp only [Bool.true_and, decide_eq_true_iff]; exact hlx] at h
                exact h
              rw [HAP.out] at HE
              have hlx2 : ¬ x1 ≤ l := by omega
              go_wp2_with fail
              go_quiet (fail)
              go_wp2
              go_roundw
              case rel => exact ⟨k' + 1 + 1, c3, A3, _, x1, by omega, by go_num, rfl, HO3.out.drewN _, HE.out, fun h => by omega, fun k'' h => pre_at HQK.out (by omega) rfl, below_drewN HB3.out _⟩
              case measure => simp [intOf]; omega
            · have HE : Hid (none = r) := by
                have h := HST.out
                rw [show (true && decide (l < x1)) = false from by simp only [Bool.true_and, decide_eq_false_iff_not]; exact hlx] at h
                exact h
              have hlx2 : x1 ≤ l := by omega
              go_wp2_with fail
              go_quiet (fail)
              go_wp2
              go_ret2
              exact ⟨_, _, _, by rw [← HE.out]; rfl, by rw [← HE.out]; exact MpR.lit0 _ _ HB3.out.size, below_drewN_alloc HB3.out _ _ HB3.out.size⟩
    · obtain rfl : k = n := by omega
      have HE := hide ((smF_end HR.out.1 ms l).symm.trans HS.out)
      go_wp2
      go_ret2
      exact ⟨A2, 12, c2, by rw [← HE.out]; rfl, by rw [← HE.out]; exact HO.out, HB.out⟩
end Go.Proofs.YtfianpjoifcphaaGreat
