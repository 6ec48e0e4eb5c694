/-
  The model's l42Valid.
-/
import Derived.Test.YtiopbgenkalfaaaSpecR1
namespace Go.Proofs.Ytiopbgenkalfaaa
open Go.RowKit
set_option linter.unusedVariables false
set_option maxRecDepth 100000

theorem getLast_vs {qs : List Nq} {K : Nat} {p : Nq} (h : qs[K]? = some p) (hl : qs.length = K + 1) : lastV (vsN qs) = p.ps := by
  unfold lastV
  rw [vsN_length, hl, Nat.add_sub_cancel, vsN_getD h]
theorem quiet_vals {P : Program} {f : FuncId} {args : Array Value} {W : World} {j : Nat} {r : Value} (c : Calls P f args (W.drewN j) fun e U => e = .returned r ∧ W.drewN j = U) :
    Calls P f args (W.drewN j) fun e U => e = .returned r ∧ ∃ z, U = W.drewN z := c.mono fun _ _ ⟨he, hz⟩ => ⟨he, j, hz.symm⟩

set_option maxHeartbeats 1600000 in
theorem specValid (q : Mq) (B : Nat) (w : World) (h : MdI w B q) (hB : B ≤ w.heap.size) :
    Calls Try.prog 45 #[.agg #[.slice q.A q.n q.c, .slice q.P q.m q.d]] w fun e w' => e = .returned (.bool (modV q.xs (vsN q.qs))) ∧ Below w.heap.size w w' := by
  obtain ⟨A, n, c, P, m, d, xs, qs⟩ := q
  simp only at h ⊢
  have hm : m ≤ maxLen := by have := h.md; simp only at this; omega
  have hn : n ≤ maxLen := by have := h.nc; simp only at this; omega
  have hn9 := hn
  have hm9 := hm
  unfold maxLen at hn9 hm9
  have HK := hide ((Kp.refl w).push 27 #[.slice A n c, .slice P m d])
  have HN := hide (h.now.alloc hB (.cells #[.slice A n c, .slice P m d] 27))
  have HP := hide (h.past.alloc hB (.cells #[.slice A n c, .slice P m d] 27))
  have HM := hide (show modV xs (vsN qs) = ((vsN qs).all nowV && (nowV xs && inB m 1 61 && decide (lastV (vsN qs) = xs))) by unfold modV; rw [vsN_length, h.past.1])
  obtain ⟨⟨z0, z1⟩, _, _⟩ := HK.out.cells2
  clear h
  go_enter Try.func45, Try.ntmps45
  go_upto_region 1 with (fail)
  generalize w.alloc (.cells #[.slice A n c, .slice P m d] 27) = W at HK HN HP z0 z1 ⊢
  go_wp2_with fail
  go_loop [3] (fun i => ∃ (k : Nat), k ≤ m ∧ i = .int .i64 k ∧ Hid ((vsN qs).all nowV = ((vsN qs).drop k).all nowV)) (fun i => m - (intOf i).toNat)
  case atStart => exact ⟨0, Nat.zero_le _, rfl, rfl⟩
  case round =>
    obtain ⟨k, hk, rfl, HS⟩ := hrel
    by_cases hlt : k < m
    · obtain ⟨p, hp⟩ : ∃ x, qs[k]? = some x := ⟨_, List.getElem?_eq_getElem (by rw [HP.out.1]; exact hlt)⟩
      obtain ⟨hI, hpc, hcm, hpn⟩ := HP.out.row_ hp
      have HV := hide (specVals p.addr p.ps.length p.cap B p.ps W hI (by omega))
      have HX := hide (HS.out.trans (all_drop (vsN_get hp)))
      obtain ⟨ad, rfl, hb, hc⟩ := HP.out.at_ hp
      clear hI hpn HS
      obtain ⟨ps, pa, pc⟩ := p
      unfold Nq.sl at hc
      simp only at hc HV HX hpc hcm
      clear hp
      rcases hv : nowV ps with _ | _
      · have HE := hide (show modV xs (vsN qs) = false by rw [HM.out, HX.out]; simp only [hv, Bool.false_and])
        rw [hv] at HV
        clear hv
        go_wp2_with fail
        refine HV.out.mono ?_
        rintro e w' ⟨rfl, rfl⟩
        go_wp2
        go_ret
        exact ⟨ret_bool HE.out.symm, HK.out.below⟩
      · have HE := hide (HX.out.trans (by simp only [hv, Bool.true_and] : _ = ((vsN qs).drop (k + 1)).all nowV))
        rw [hv] at HV
        clear hv
        go_wp2_with fail
        refine HV.out.mono ?_
        rintro e w' ⟨rfl, rfl⟩
        go_wp2
        go_round
        case rel => exact ⟨k + 1, by omega, by go_num, HE.out⟩
        case measure => simp [intOf]; omega
    · have HA := hide (show modV xs (vsN qs) = (nowV xs && inB m 1 61 && decide (lastV (vsN qs) = xs)) by
        rw [HM.out, HS.out, List.drop_of_length_le (by rw [vsN_length, HP.out.1]; omega)]; rfl)
      clear HS HM
      have HVN := hide fun (i : Nat) => specVals A n c B xs (W.drewN i) (HN.out.drewN i) hn
      have k0 : ¬ (k : Int) < (m : Int) := by omega
      rcases h1 : nowV xs with _ | _
      · have HE := hide (show modV xs (vsN qs) = false by rw [HA.out]; simp only [h1, Bool.false_and])
        rw [h1] at HVN
        clear h1
        go_wp2_with fail
        go_quiet ((first | (go_at_call 35; exact quiet_vals (HVN.out _))))
        go_wp2
        go_ret
        exact ⟨ret_bool HE.out.symm, below_drewN HK.out.below _⟩
      · rw [h1] at HVN
        rcases h2 : inB m 1 61 with _ | _
        · have HE := hide (show modV xs (vsN qs) = false by rw [HA.out]; simp only [h1, h2, Bool.false_and, Bool.and_false])
          have H2 := hide h2
          clear h1 h2
          go_wp2_with fail
          go_quiet ((first | (go_at_call 35; exact quiet_vals (HVN.out _)) | (go_at_call 61; exact quiet_vals ((in_no _ _ _ _ H2.out).mono fun _ _ h => ⟨h.1, h.2⟩))))
          go_wp2
          go_ret
          exact ⟨ret_bool HE.out.symm, below_drewN HK.out.below _⟩
        · have H2 := hide h2
          have hr2 := inB_iff.1 h2
          obtain ⟨K, hK⟩ : ∃ K, m = K + 1 := ⟨m - 1, by omega⟩
          have hK' : (m : Int) - 1 = (K : Int) := by omega
          obtain ⟨p, hp⟩ : ∃ x, qs[K]? = some x := ⟨_, List.getElem?_eq_getElem (by rw [HP.out.1]; omega)⟩
          have hlast := getLast_vs hp (by rw [HP.out.1]; exact hK)
          obtain ⟨hI, hpc, hcm, hpn⟩ := HP.out.row_ hp
          have HSA := hide fun (i : Nat) => l42Same_any p.addr A p.ps.length p.cap n c B B p.ps xs (W.drewN i) (hI.drewN i) (HN.out.drewN i) (by omega) hn
          have HE := hide (show modV xs (vsN qs) = decide (p.ps = xs) by rw [HA.out, hlast]; simp only [h1, h2, Bool.true_and])
          obtain ⟨ad, rfl, hb, hc⟩ := HP.out.at_ hp
          clear h1 h2 hlast hI hpn hp HA
          obtain ⟨ps, pa, pc⟩ := p
          unfold Nq.sl at hc
          simp only at hc HSA HE hpc hcm
          have HKK := hide hK
          have k1 : (0 : Int) ≤ (K : Int) := by omega
          have k2 : (K : Int) < (m : Int) := by omega
          clear hK
          go_wp2_with fail
          go_quiet ((first | (go_at_call 35; exact quiet_vals (HVN.out _)) | (go_at_call 61; exact quiet_vals ((in_yes _ _ _ _ H2.out).mono fun _ _ h => ⟨h.1, h.2⟩)) | (go_at_call 46; exact quiet_on3 (HSA.out _))))
          go_wp2
          go_ret
          exact ⟨ret_bool HE.out.symm, below_drewN HK.out.below _⟩
end Go.Proofs.Ytiopbgenkalfaaa
