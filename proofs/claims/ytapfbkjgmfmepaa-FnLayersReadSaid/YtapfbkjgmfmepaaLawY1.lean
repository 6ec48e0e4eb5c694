/-
  The walk of FnLayersRead.
-/
import Derived.Test.YtapfbkjgmfmepaaLyL
import Derived.Test.YtapfbkjgmfmepaaSameY
import Derived.Test.YtapfbkjgmfmepaaDrawY2
import Derived.Test.YtapfbkjgmfmepaaImpL8
import Derived.Test.YtapfbkjgmfmepaaSpecY2
namespace Go.Proofs.Ytapfbkjgmfmepaa
open Go.RowKit
set_option linter.unusedVariables false
set_option maxRecDepth 100000

theorem big_len {qs : List Lq} (h : ∀ q ∈ qs, q.ps.length ≤ 12) : ∀ q ∈ qs, q.ps.length ≤ 1000000000 := fun q hq => Nat.le_trans (h q hq) (by decide)
theorem rdL_neg {ls : List Ly} {b : Int} (h : rdL ls b < 0) : rdL ls b = -1 := by
  unfold rdL at h ⊢
  split
  · rename_i hv
    rw [if_pos hv] at h
    rw [Bool.and_eq_true] at hv
    have := (readN_rng hv.1 b ls.length).1
    omega
  · rfl
theorem rdL_pos {ls : List Ly} {b : Int} (h : 0 ≤ rdL ls b) : laysV ls = true ∧ rdL ls b = readN ls b ls.length := by
  unfold rdL at h ⊢
  split
  · rename_i hv
    rw [Bool.and_eq_true] at hv
    exact ⟨hv.1, rfl⟩
  · rename_i hv
    rw [if_neg hv] at h
    omega

set_option maxHeartbeats 6400000 in
theorem layersRead_walk (A : Option Addr) (n c : Nat) (bs : Nat → Int) (w : World) (hb : Bytes w w.heap.size A n bs) (hn : n ≤ c) (hc : c ≤ maxLen) :
    Calls Try.prog 3 #[.slice A n c] w fun e w' => e = .returned (.bool true) ∧ Below w.heap.size w w' := by
  by_cases hbig : 1048576 < n
  · go_enter Try.func3, Try.ntmps3
    go_wp2
    go_ret
    exact ⟨rfl, Below.refl _ _⟩
  · go_enter Try.func3, Try.ntmps3
    go_wp2_with fail
    refine (drawLyR_any A n c bs _ hb hn hc).mono ?_
    rintro e w1 ⟨A1, m, c1, qs, b, rfl, hd⟩
    have HD := hide hd
    have hm := hd.num
    have hl := hd.lyi.1
    have hs1 := hd.below.size
    have HP1 := hide (implRead A1 m c1 _ qs b w1 hd.lyi (Nat.le_refl _) (big_len hd.len) (by omega))
    have HP2 := hide fun (W : World) (h : Below w1.heap.size w1 W) => specRead A1 m c1 _ qs b W (hd.lyi.below h (Nat.le_refl _)) (big_len hd.len) (by omega)
    clear hb hd
    obtain ⟨r, hr⟩ : ∃ r : Int, rdL (lys qs) b = r := ⟨_, rfl⟩
    rw [hr] at HP1 HP2
    have HR := hide hr
    clear hr
    go_wp2_with fail
    refine HP1.out.mono ?_
    rintro e w2 ⟨rfl, hB2⟩
    have HW2 := hide hB2
    clear hB2 HP1
    go_wp2_with fail
    refine (HP2.out _ HW2.out).mono ?_
    rintro e w3 ⟨rfl, z, rfl⟩
    have HW3 := hide (below_drewN HW2.out z)
    have HX := hide (HD.out.lyi.below HW3.out (Nat.le_refl _))
    have HEND := hide (HD.out.below.trans (HW3.out.mono hs1))
    clear HP2 HW3 HW2
    generalize w2.drewN z = w3 at HX HEND ⊢
    by_cases hneg : r < 0
    · go_wp2
      go_ret
      exact ⟨rfl, HEND.out⟩
    · obtain ⟨v1, v2⟩ := rdL_pos (by rw [HR.out]; omega : 0 ≤ rdL (lys qs) b)
      rw [HR.out, lys_length, hl] at v2
      have HV := hide v1
      have HRD := hide v2
      clear v1 v2
      go_wp2
      go_loop [7, 8, 9] (fun o i _ => ∃ (k : Nat), k ≤ m ∧ i = .int .i64 k ∧ o = .int .i64 (readN (lys qs) b k)) (fun _ i _ => m - (intOf i).toNat)
      case atStart => exact ⟨0, Nat.zero_le _, rfl, rfl⟩
      case round =>
        obtain ⟨k, hk, rfl, rfl⟩ := hrel
        by_cases hlt : k < m
        · obtain ⟨q, hq⟩ : ∃ q, qs[k]? = some q := ⟨_, List.getElem?_eq_getElem (by omega)⟩
          obtain ⟨ad, rfl, hb, hc0⟩ := HX.out.at_ hq
          have HPI := hide (HX.out.layer hq).1
          have hqv : layV q.ps = true := (laysV_iff.1 HV.out).1 _ (List.mem_map_of_mem (List.mem_of_getElem? hq))
          have HQV := hide hqv
          have HSN := hide (readN_seen (lys qs) b k)
          rw [lys_getD hq] at HSN
          have h12 := layV_len hqv
          have hlq := HPI.out.1
          unfold Lq.sl at hc0
          clear hq hqv
          obtain ⟨qp, qa, qc⟩ := q
          simp only at hc0 HPI HQV HSN h12
          clear hlq
          obtain ⟨N, hN⟩ : ∃ N, qp.length = N := ⟨_, rfl⟩
          rw [hN] at hc0 HPI h12 HSN
          have HN := hide hN
          clear hN
          generalize readN (lys qs) b k = v at HSN ⊢
          go_wp2
          go_loop [7, 9] (fun o j => ∃ (i : Nat), i ≤ N ∧ j = .int .i64 i ∧ o = .int .i64 (seen qp b v i)) (fun _ j => N - (intOf j).toNat)
          case atStart => exact ⟨0, Nat.zero_le _, rfl, by rw [seen_zero]⟩
          case round =>
            obtain ⟨i, hi, rfl, rfl⟩ := hrel
            by_cases hlt2 : i < N
            · obtain ⟨e, he⟩ : ∃ e, qp[i]? = some e := ⟨_, List.getElem?_eq_getElem (by rw [HN.out]; exact hlt2)⟩
              obtain ⟨ad2, p2, rfl, hp2, hb2, hd0, hd1⟩ := HPI.out.at_ he
              have HST := hide (seen_step HQV.out he b v)
              obtain ⟨f, y⟩ := e
              simp only at hd0 hd1 HST
              clear he
              by_cases hf : f = b
              · subst hf
                rw [if_pos rfl] at HST
                go_wp2
                go_round
                case rel => exact ⟨i + 1, by omega, by go_num, by rw [HST.out]⟩
                case measure => simp [intOf]; omega
              · rw [if_neg hf] at HST
                have hf' : (f == b) = false := by simpa using hf
                go_wp2
                go_round
                case rel => exact ⟨i + 1, by omega, by go_num, by rw [HST.out]⟩
                case measure => simp [intOf]; omega
            · obtain rfl : i = N := by omega
              go_wp2
              go_round
              case rel => exact ⟨k + 1, by omega, by go_num, by rw [HSN.out]⟩
              case measure => simp [intOf]; omega
        · obtain rfl : k = m := by omega
          go_wp2
          go_ret
          exact ⟨by rw [HRD.out]; simp, HEND.out⟩
end Go.Proofs.Ytapfbkjgmfmepaa
