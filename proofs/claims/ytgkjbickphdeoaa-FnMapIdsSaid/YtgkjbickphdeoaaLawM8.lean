/-
  The walk of FnMapIds.
-/
import Derived.Test.YtgkjbickphdeoaaDrawM2
import Derived.Test.YtgkjbickphdeoaaSameM
import Derived.Test.YtgkjbickphdeoaaImpM2
import Derived.Test.YtgkjbickphdeoaaSpecM4
import Derived.Test.YtgkjbickphdeoaaImpM6
import Derived.BigQuiet
namespace Go.Proofs.Ytgkjbickphdeoaa
open Go.RowKit
set_option linter.unusedVariables false
set_option maxRecDepth 100000

def coldId (d : Int) (x : Wh) : Bool := decide (x.1 = 2) && decide (x.2.2.2.1 = d)
theorem cold_take {ms : List Wh} {k : Nat} {x : Wh} (h : ms[k]? = some x) (d : Int) : (ms.take (k + 1)).any (coldId d) = ((ms.take k).any (coldId d) || coldId d x) := by
  rw [List.take_add_one, h, List.any_append]
  congr 1
  simp
theorem upP_le (p : Int → Bool) : ∀ k : Nat, (upP p k).length ≤ k
  | 0 => Nat.le_refl _
  | k + 1 => by
    have := upP_le p k
    rw [upP_succ]
    split
    · simp; omega
    · omega
theorem idsM_le (ms : List Wh) : (idsM ms).length ≤ 1000 := by
  unfold idsM
  split
  · have := upP_le (hasId ms) 999; omega
  · exact Nat.zero_le _

set_option maxHeartbeats 6400000 in
theorem mapIds_walk (A : Option Addr) (n c : Nat) (bs : Nat → Int) (w : World) (hb : Bytes w w.heap.size A n bs) (hn : n ≤ c) (hc : c ≤ maxLen) :
    Calls Try.prog 10 #[.slice A n c] w fun e w' => e = .returned (.bool true) ∧ Below w.heap.size w w' := by
  by_cases hbig : 1048576 < n
  · go_enter Try.func10, Try.ntmps10
    go_wp2
    go_ret
    exact ⟨rfl, Below.refl _ _⟩
  · go_enter Try.func10, Try.ntmps10
    go_wp2_with fail
    refine (drawMD_any A n c bs _ hb hn hc).mono ?_
    rintro e w1 ⟨A1, m, c1, ms, rfl, hd⟩
    have HB1 := hide hd.below
    have HI := hide hd.mpi
    have hm := hd.num
    have hmc := hd.nc
    have hs1 := hd.below.size
    have HP1 := hide (implMD A1 m c1 _ ms w1 hd.mpi (Nat.le_refl _) (by omega))
    have HP2 := hide fun (W : World) (h : Below w1.heap.size w1 W) => specMD A1 m c1 _ ms W (hd.mpi.below h (Nat.le_refl _)) h.size (by omega)
    have HP3 := hide fun (W : World) (h : Below w1.heap.size w1 W) => specMV A1 m c1 _ ms W (hd.mpi.below h (Nat.le_refl _)) h.size (by omega)
    have HLM := hide hd.mpi.1
    obtain ⟨L, hL⟩ : ∃ L, idsM ms = L := ⟨_, rfl⟩
    rw [hL] at HP1 HP2
    have HL := hide hL
    have HL12 := hide (show L.length ≤ 1000 by rw [← hL]; exact idsM_le ms)
    clear hb hd hL
    go_wp2_with fail
    refine HP1.out.mono ?_
    rintro e w2 ⟨A2, m2, c2, rfl, ho2, hb2⟩
    have HO2 := hide ho2.ints
    have HW2 := hide hb2
    have hm2 : m2 ≤ 1000 := by rw [← ho2.1]; exact HL12.out
    have HL2 := hide ho2.1
    clear ho2 hb2 HP1
    go_wp2_with fail
    refine (HP2.out _ HW2.out).mono ?_
    rintro e w3 ⟨A3, m3, c3, rfl, ho3, hb3⟩
    obtain rfl : m3 = m2 := ho3.1.symm.trans HL2.out
    have HW3 := hide (HW2.out.trans (hb3.mono HW2.out.size))
    have HX2 := hide (HO2.out.below hb3 (Nat.le_refl _))
    have HX3 := hide ho3.ints
    have HS23 := hide hb3.size
    clear ho3 hb3 HP2 HO2
    go_wp2_with fail
    refine (sameInts_yes A2 A3 m3 c2 m3 c3 _ _ L L _ HX2.out HX3.out (by unfold maxLen; omega) (by unfold maxLen; omega) rfl).mono ?_
    rintro e w4 ⟨rfl, q4, rfl⟩
    rcases hv : mpV ms with _ | _
    · rw [hv] at HP3
      clear hv
      go_wp2_with fail
      refine (HP3.out _ (below_drewN HW3.out q4)).mono ?_
      rintro e w5 ⟨rfl, hb5⟩
      have HW5 := hide ((below_drewN HW3.out q4).trans (hb5.mono (show w1.heap.size ≤ (w3.drewN q4).heap.size from HW3.out.size)))
      have HX25 := hide ((HX2.out.drewN q4).below hb5 (show w2.heap.size ≤ (w3.drewN q4).heap.size from HS23.out))
      have HX35 := hide ((HX3.out.drewN q4).below hb5 (Nat.le_refl _))
      clear hb5 HP3
      go_wp2_with fail
      refine (sameInts_yes A2 A3 m3 c2 m3 c3 _ _ L L _ HX25.out HX35.out (by unfold maxLen; omega) (by unfold maxLen; omega) rfl).mono ?_
      rintro e w6 ⟨rfl, q6, rfl⟩
      have HE := hide (HB1.out.trans ((below_drewN HW5.out q6).mono hs1))
      go_wp2
      go_ret
      exact ⟨rfl, HE.out⟩
    · rw [hv] at HP3
      have HV := hide hv
      have hm12 : m = 12 := HLM.out.symm.trans (mpV_iff.1 hv).2
      subst hm12
      clear hv
      go_wp2_with fail
      refine (HP3.out _ (below_drewN HW3.out q4)).mono ?_
      rintro e w5 ⟨rfl, hb5⟩
      have HW5 := hide ((below_drewN HW3.out q4).trans (hb5.mono (show w1.heap.size ≤ (w3.drewN q4).heap.size from HW3.out.size)))
      have HX5 := hide ((HX2.out.drewN q4).below hb5 (show w2.heap.size ≤ (w3.drewN q4).heap.size from HS23.out))
      have HS25 := hide (Nat.le_trans HS23.out hb5.size)
      have HI5 := hide (HI.out.below HW5.out (Nat.le_refl _))
      have HS15 := hide HW5.out.size
      have HEND := hide fun (W : World) (h : Below w5.heap.size w5 W) => HB1.out.trans ((HW5.out.trans (h.mono HW5.out.size)).mono hs1)
      clear hb5 HP3 HX2 HX3
      have HLQ := hide HL.out
      go_wp2
      go_loopw [6] (fun i W => ∃ k : Nat, k ≤ 12 ∧ i = .int .i64 k ∧ w5 = W) (fun i _ => 12 - (intOf i).toNat)
      case atStart => exact ⟨0, by omega, rfl, rfl⟩
      case round =>
        obtain ⟨k, hk, rfl, rfl⟩ := hrel
        by_cases hlt : k < 12
        · obtain ⟨x, hx⟩ : ∃ x, ms[k]? = some x := ⟨_, List.getElem?_eq_getElem (by rw [HLM.out]; exact hlt)⟩
          have HM := hide fun (ht : x.1 = 2) => (hasB_iff _ _).1 (ids_has HV.out (List.mem_of_getElem? hx) ht)
          obtain ⟨ad, p, rfl, hp, hpb, h0, h1, h2, h3, h4⟩ := HI5.out.at_ hx
          obtain ⟨t, y, a, i, u⟩ := x
          dsimp only at h0 h1 h2 h3 h4 HM
          clear hx h1 h2 h4
          have k0 : (0 : Int) ≤ (k : Int) := by omega
          have k1 : (k : Int) < 12 := by omega
          by_cases ht : t = 2
          · subst ht
            have HH := hide (hasInt_any A2 m3 c2 _ i L w5 HX5.out (by unfold maxLen; omega))
            have hin : decide (i ∈ L) = true := by rw [← HL.out]; exact decide_eq_true (HM.out rfl)
            rw [hin] at HH
            clear hin HM
            go_wp2_with fail
            refine HH.out.mono ?_
            rintro e w6 ⟨rfl, rfl⟩
            go_wp2
            go_roundw
            case rel => exact ⟨k + 1, by omega, by go_num, by first | trivial | rfl⟩
            case measure => simp [intOf]; omega
          · have ht' : (t == 2) = false := by simpa using ht
            go_wp2
            go_roundw
            case rel => exact ⟨k + 1, by omega, by go_num, by first | trivial | rfl⟩
            case measure => simp [intOf]; omega
        · obtain rfl : k = 12 := by omega
          go_wp2
          go_loopw [7] (fun i W => ∃ k q : Nat, k ≤ m3 ∧ i = .int .i64 k ∧ W = w5.drewN q) (fun i _ => m3 - (intOf i).toNat)
          case atStart => exact ⟨0, 0, Nat.zero_le _, rfl, rfl⟩
          case round =>
            obtain ⟨k, q, hk, rfl, rfl⟩ := hrel
            by_cases hlt : k < m3
            · have hl : k < L.length := by rw [HL2.out]; exact hlt
              obtain ⟨d, hd⟩ : ∃ d, L.getD k 0 = d := ⟨_, rfl⟩
              have hmem : d ∈ idsM ms := by rw [HL.out, ← hd, List.getD, List.getElem?_eq_getElem hl]; exact List.getElem_mem hl
              have HSOME := hide (ids_some HV.out ((hasB_iff _ _).2 hmem))
              have HPREV : Hid (0 < k → L.getD (k - 1) 0 < d) := by
                intro h0
                have hp := ids_asc ms
                rw [HL.out] at hp
                have := List.pairwise_iff_getElem.1 hp (k - 1) k (by omega) hl (by omega)
                rw [← hd]
                simpa [List.getD, hl, show k - 1 < L.length by omega] using this
              have HD := hide hd
              have k0 : (0 : Int) ≤ (k : Int) := by omega
              have k1 : (k : Int) < (m3 : Int) := by omega
              clear hl hmem hd
              go_wp2
              go_loopw [8, 9] (fun s i W => ∃ (j q2 : Nat) (b : Bool), j ≤ 12 ∧ i = .int .i64 j ∧ s = .bool b ∧ W = w5.drewN q2 ∧ Hid ((ms.take j).any (coldId d) = b)) (fun _ i _ => 12 - (intOf i).toNat)
              case atStart => exact ⟨0, q, false, by omega, rfl, rfl, rfl, rfl⟩
              case round =>
                obtain ⟨j, q2, b, hj, rfl, rfl, rfl, HA⟩ := hrel
                obtain ⟨ad2, rfl, _, hc2⟩ := (HX5.out.drewN q2).at_ hlt
                rw [HD.out] at hc2
                by_cases hlt2 : j < 12
                · obtain ⟨x, hx⟩ : ∃ x, ms[j]? = some x := ⟨_, List.getElem?_eq_getElem (by rw [HLM.out]; exact hlt2)⟩
                  have HC := hide (cold_take hx d)
                  obtain ⟨ad, p, rfl, hp, hpb, h0, h1, h2, h3, h4⟩ := (HI5.out.drewN q2).at_ hx
                  obtain ⟨t, y, a, i, u⟩ := x
                  dsimp only at h0 h1 h2 h3 h4 HC
                  have j0 : (0 : Int) ≤ (j : Int) := by omega
                  have j1 : (j : Int) < 12 := by omega
                  clear hx h1 h2 h4
                  generalize hw : w5.drewN q2 = wz at hc2 h0 h3 ⊢
                  rcases b with _ | _
                  · by_cases ht : t = 2
                    · subst ht
                      by_cases he : d = i
                      · subst he
                        go_wp2_with fail
                        go_quiet (fail)
                        go_wp2
                        go_roundw
                        case rel => exact ⟨j + 1, _, true, by omega, by go_num, rfl, by rw [← hw]; exact World.drewN_drewN _ _ _, by show _ = _; rw [HC.out, HA.out]; simp [coldId]⟩
                        case measure => simp [intOf]; omega
                      · have he' : (i == d) = false := by simpa using fun e => he e.symm
                        have HE := hide fun e : i = d => he e.symm
                        clear he
                        go_wp2_with fail
                        go_quiet (fail)
                        go_wp2
                        go_roundw
                        case rel => exact ⟨j + 1, _, false, by omega, by go_num, rfl, by rw [← hw]; exact World.drewN_drewN _ _ _, by show _ = _; rw [HC.out, HA.out]; simp [coldId]; exact HE.out⟩
                        case measure => simp [intOf]; omega
                    · have ht' : (t == 2) = false := by simpa using ht
                      have HT := hide ht
                      clear ht
                      go_wp2_with fail
                      go_quiet (fail)
                      go_wp2
                      go_roundw
                      case rel => exact ⟨j + 1, _, false, by omega, by go_num, rfl, by rw [← hw]; exact World.drewN_drewN _ _ _, by show _ = _; rw [HC.out, HA.out]; simp [coldId, show ¬ t = 2 from HT.out]⟩
                      case measure => simp [intOf]; omega
                  · go_wp2_with fail
                    go_quiet (fail)
                    go_wp2
                    go_roundw
                    case rel => exact ⟨j + 1, _, true, by omega, by go_num, rfl, by rw [← hw]; exact World.drewN_drewN _ _ _, by show _ = _; rw [HC.out, HA.out]; rfl⟩
                    case measure => simp [intOf]; omega
                · obtain rfl : j = 12 := by omega
                  have hb1 : b = true := by
                    have h := HA.out
                    rw [List.take_of_length_le (by rw [HLM.out]; exact Nat.le_refl _)] at h
                    rw [← h]
                    exact HSOME.out
                  subst hb1
                  clear HA
                  by_cases hk0 : k = 0
                  · subst hk0
                    go_wp2_with fail
                    go_quiet (fail)
                    go_wp2
                    go_roundw
                    case rel => exact ⟨1, _, by omega, by first | rfl | go_num, by first | exact World.drewN_drewN _ _ _ | rfl⟩
                    case measure => simp [intOf]; omega
                  · obtain ⟨K, rfl⟩ : ∃ K, k = K + 1 := ⟨k - 1, by omega⟩
                    have HPR := hide (HPREV.out (by omega))
                    rw [Nat.add_sub_cancel] at HPR
                    obtain ⟨_, e7, _, hc7⟩ := (HX5.out.drewN q2).at_ (show K < m3 by omega)
                    cases e7
                    obtain ⟨d7, hd7⟩ : ∃ d7, L.getD K 0 = d7 := ⟨_, rfl⟩
                    rw [hd7] at hc7 HPR
                    have hlt7 : decide (d7 ≥ d) = false := by have := HPR.out; simp; omega
                    obtain ⟨Q, hQ⟩ : ∃ Q, K + 1 = Q := ⟨_, rfl⟩
                    have hQi : (Q : Int) - 1 = (K : Int) := by omega
                    have q0 : (0 : Int) < (Q : Int) := by omega
                    have q0n : 0 < Q := by omega
                    have q1 : (0 : Int) ≤ (Q : Int) := by omega
                    have wK : IntKind.i64.wrap (K : Int) = (K : Int) := IntWalk.i64_in _ (by omega)
                    have wQ : IntKind.i64.wrap ((Q : Int) - 1) = (K : Int) := by rw [hQi]; exact wK
                    have K0 : (0 : Int) ≤ (K : Int) := by omega
                    have K1 : (K : Int) < (m3 : Int) := by omega
                    rw [hQ] at k0 k1 hlt hk hc2 ⊢
                    have HQ := hide hQ
                    clear HPR HPREV hd7 hQ hk0 HSOME
                    generalize hw : w5.drewN q2 = wz at hc2 hc7 ⊢
                    go_wp2_with fail
                    go_quiet (fail)
                    go_wp2
                    go_roundw
                    case rel => exact ⟨Q + 1, _, by have := HQ.out; omega, by go_num, by rw [← hw]; exact World.drewN_drewN _ _ _⟩
                    case measure => simp [intOf]; have := HQ.out; omega
            · have HE := hide (HEND.out _ (below_drewN (Below.refl _ w5) q))
              obtain rfl : k = m3 := by omega
              go_wp2
              go_ret
              exact ⟨rfl, HE.out⟩
end Go.Proofs.Ytgkjbickphdeoaa
