/-
  The program's fits; slices.ContainsFunc with the closure of allows.
-/
import Derived.Test.YtiopbgenkalfaaaImpR1
import Derived.Deep.DeepCutAuto
import Derived.Deep.CutBlock
namespace Go.Proofs.Ytiopbgenkalfaaa
open Go.RowKit
set_option linter.unusedVariables false
set_option maxRecDepth 100000

theorem getLast_vsI {qs : List Nq} {K : Nat} {p : Nq} (h : qs[K]? = some p) (hl : qs.length = K + 1) : lastV (vsN qs) = p.ps := by
  unfold lastV
  rw [vsN_length, hl, Nat.add_sub_cancel, vsN_getD h]
theorem modV_fit (now : List Int) (ps : List (List Int)) : modV now ps = (inB ps.length 1 61 && decide (lastV ps = now) && ps.all nowV) := by
  rw [Bool.eq_iff_iff]
  unfold modV
  simp only [Bool.and_eq_true, decide_eq_true_eq]
  constructor
  · rintro ⟨h1, ⟨_, h2⟩, h3⟩
    exact ⟨⟨h2, h3⟩, h1⟩
  · rintro ⟨⟨h2, h3⟩, h1⟩
    refine ⟨h1, ⟨?_, h2⟩, h3⟩
    have hl := inB_iff.1 h2
    rw [← h3]
    refine List.all_eq_true.1 h1 _ ?_
    unfold lastV
    have hk : ps.length - 1 < ps.length := by omega
    have e : ps.getD (ps.length - 1) [] = ps[ps.length - 1] := by simp [List.getD, hk]
    rw [e]
    exact List.getElem_mem hk

set_option maxHeartbeats 3200000 in
theorem implFits (q : Mq) (B : Nat) (w : World) (h : MdI w B q) (hB : B ≤ w.heap.size) :
    Calls Try.prog 42 #[.agg #[.slice q.A q.n q.c, .slice q.P q.m q.d]] w fun e w' => e = .returned (.bool (modV q.xs (vsN q.qs))) ∧ Below w.heap.size w w' := by
  obtain ⟨A, n, c, P, m, d, xs, qs⟩ := q
  simp only at h ⊢
  have hm : m ≤ maxLen := by have := h.md; simp only at this; omega
  have hn : n ≤ maxLen := by have := h.nc; simp only at this; omega
  have hn9 := hn
  have hm9 := hm
  unfold maxLen at hn9 hm9
  have HK := hide ((Kp.refl w).push 27 #[.slice A n c, .slice P m d])
  have HN : Hid (Ints (w.alloc (.cells #[.slice A n c, .slice P m d] 27)) B A n xs) := h.now.alloc hB _
  have HP : Hid (NyI (w.alloc (.cells #[.slice A n c, .slice P m d] 27)) B P m qs) := h.past.alloc hB _
  have HM := hide (show modV xs (vsN qs) = (inB m 1 61 && decide (lastV (vsN qs) = xs) && (vsN qs).all nowV) by rw [modV_fit, vsN_length, h.past.1])
  obtain ⟨⟨z0, z1⟩, _, _⟩ := HK.out.cells2
  clear h
  go_enter Try.func42, Try.ntmps42
  go_upto_region 1 with (fail)
  generalize w.alloc (.cells #[.slice A n c, .slice P m d] 27) = W at HK HN HP z0 z1 ⊢
  by_cases h1 : m < 1
  · have h1' : decide ((m : Int) < 1) = true := decide_eq_true (by omega)
    have HE := hide (show modV xs (vsN qs) = false by rw [HM.out]; have : inB (m : Int) 1 61 = false := by { rcases h : inB (m : Int) 1 61 with _ | _; rfl; have := inB_iff.1 h; omega }
                                                      rw [this]; rfl)
    have h1i : (m : Int) < 1 := by omega
    clear h1
    go_wp2_with fail
    go_quiet (fail)
    go_wp2
    go_ret
    exact ⟨ret_bool HE.out.symm, below_drewN HK.out.below _⟩
  have h1' : decide ((m : Int) < 1) = false := decide_eq_false (by omega)
  have h1i : ¬ (m : Int) < 1 := by omega
  by_cases h2 : 61 < m
  · have h2' : decide (61 < (m : Int)) = true := decide_eq_true (by omega)
    have HE := hide (show modV xs (vsN qs) = false by rw [HM.out]; have : inB (m : Int) 1 61 = false := by { rcases h : inB (m : Int) 1 61 with _ | _; rfl; have := inB_iff.1 h; omega }
                                                      rw [this]; rfl)
    have h2i : 61 < (m : Int) := by omega
    go_wp2_with fail
    go_quiet (fail)
    go_wp2
    go_ret
    exact ⟨ret_bool HE.out.symm, below_drewN HK.out.below _⟩
  have h2' : decide (61 < (m : Int)) = false := decide_eq_false (by omega)
  have h2i : ¬ 61 < (m : Int) := by omega
  have HA := hide (show modV xs (vsN qs) = (decide (lastV (vsN qs) = xs) && (vsN qs).all nowV) by
    rw [HM.out, inB_iff.2 (show (1 : Int) ≤ (m : Int) ∧ (m : Int) ≤ 61 by omega), Bool.true_and])
  obtain ⟨K, hK⟩ : ∃ K, m = K + 1 := ⟨m - 1, by omega⟩
  have hK' : (m : Int) - 1 = (K : Int) := by omega
  obtain ⟨p, hp⟩ : ∃ x, qs[K]? = some x := ⟨_, List.getElem?_eq_getElem (by rw [HP.out.1]; omega)⟩
  have hlast := getLast_vsI hp (by rw [HP.out.1]; exact hK)
  obtain ⟨hI, hpc, hcm, hpn⟩ := HP.out.row_ hp
  have HSA := hide fun (i : Nat) => equal_any p.addr A p.ps.length p.cap n c B B p.ps xs (W.drewN i) (hI.drewN i) (HN.out.drewN i) (by omega) hn
  have HL := hide (show modV xs (vsN qs) = (decide (p.ps = xs) && (vsN qs).all nowV) by rw [HA.out, hlast])
  have k1 : (0 : Int) ≤ (K : Int) := by omega
  have k2 : (K : Int) < (m : Int) := by omega
  obtain ⟨ad, he, hb, hc⟩ := HP.out.at_ hp
  have HZ1 := hide z1
  rw [he] at z1
  have HAD := hide he
  clear he hK hlast hI hpn hp HA HM
  obtain ⟨ps, pa, pc⟩ := p
  unfold Nq.sl at hc
  simp only at hc HSA HL hpc hcm
  by_cases heq : ps = xs
  rotate_left
  · have HE := hide (show modV xs (vsN qs) = false by rw [HL.out, decide_eq_false heq]; rfl)
    rw [decide_eq_false heq] at HSA
    clear heq
    go_wp2_with fail
    go_quiet ((first | (go_at_call 69; exact quiet_on3 (HSA.out _))))
    go_wp2
    go_ret
    exact ⟨ret_bool HE.out.symm, below_drewN HK.out.below _⟩
  have HE := hide (show modV xs (vsN qs) = (vsN qs).all nowV by rw [HL.out, decide_eq_true heq, Bool.true_and])
  rw [decide_eq_true heq] at HSA
  clear heq HL
  go_wp2_with fail
  go_quiet ((first | (go_at_call 69; exact quiet_on3 (HSA.out _))))
  go_wp2_with fail
  have HAE := hide HAD.out
  rw [HAD.out] at HP
  clear z0 z1 hc hb HSA HN HZ1 hK' k1 k2 h1 h1' h2 h2' HAD hpc hcm
  go_loop [30] (fun i => ∃ (k : Nat), k ≤ m ∧ i = .int .i64 k ∧ Hid ((vsN qs).all nowV = ((vsN qs).drop k).all nowV)) (fun i => m - (intOf i).toNat)
  case atStart => exact ⟨0, Nat.zero_le _, rfl, rfl⟩
  case round =>
    obtain ⟨k, hk, rfl, HS⟩ := hrel
    by_cases hlt : k < m
    · obtain ⟨p, hp⟩ : ∃ x, qs[k]? = some x := ⟨_, List.getElem?_eq_getElem (by rw [HP.out.1]; exact hlt)⟩
      obtain ⟨hI, hpc, hcm, hpn⟩ := HP.out.row_ hp
      have HV := hide (implFit p.addr p.ps.length p.cap B p.ps (W.drewN nq) (hI.drewN nq) (by omega))
      have HX := hide (HS.out.trans (all_drop (vsN_get hp)))
      obtain ⟨ad', e1, hb, hc⟩ := (HP.out.drewN nq).at_ hp
      injection e1 with e1
      subst e1
      clear hI hpn HS
      obtain ⟨ps, pa, pc⟩ := p
      unfold Nq.sl at hc
      simp only at hc HV HX hpc hcm
      clear hp
      have k0 : (0 : Int) ≤ (k : Int) := by omega
      have k1 : (k : Int) < (m : Int) := by omega
      rcases hv : nowV ps with _ | _
      · have HE2 := hide (show modV xs (vsN qs) = false by rw [HE.out, HX.out]; simp only [hv, Bool.false_and])
        rw [hv] at HV
        clear hv
        go_wp2_with fail
        refine HV.out.mono ?_
        rintro e w' ⟨rfl, rfl⟩
        go_wp2
        go_ret
        exact ⟨ret_bool HE2.out.symm, below_drewN HK.out.below _⟩
      · have HX2 := hide (HX.out.trans (by simp only [hv, Bool.true_and] : _ = ((vsN qs).drop (k + 1)).all nowV))
        rw [hv] at HV
        clear hv
        go_wp2_with fail
        refine HV.out.mono ?_
        rintro e w' ⟨rfl, rfl⟩
        go_wp2
        go_round
        case rel => exact ⟨k + 1, by omega, by go_num, HX2.out⟩
        case measure => simp [intOf]; omega
    · have HE2 := hide (show modV xs (vsN qs) = true by
        rw [HE.out, HS.out, List.drop_of_length_le (by rw [vsN_length, HP.out.1]; omega)]; rfl)
      go_wp2
      go_ret
      exact ⟨ret_bool HE2.out.symm, below_drewN HK.out.below _⟩

set_option maxHeartbeats 800000 in
theorem wantP_any (A A3 : Option Addr) (n c n3 c3 B b : Nat) (xs af : List Int) (w : World) (hx : Ints w B A n xs) (ha : Ints w B A3 n3 af) (hn : n ≤ maxLen) (hn3 : n3 ≤ maxLen) (hb : w.cell? ⟨b, 0, none⟩ = some (.slice A3 n3 c3)) :
    Calls Try.prog 71 #[.slice A n c, .pointer (some ⟨b, 0, none⟩)] w fun e w' => e = .returned (.bool (decide (xs = af))) ∧ ∃ q, w' = w.drewN q := by
  have HE := hide (equal_any A A3 n c n3 c3 B B xs af w hx ha hn hn3)
  clear hx ha hn hn3
  go_enter Try.func71, Try.ntmps71
  go_wp2_with fail
  refine HE.out.mono ?_
  rintro e w' ⟨rfl, q, rfl⟩
  go_wp2
  go_ret
  exact ⟨rfl, q, rfl⟩

/-- the place of the first list that is equal, or -1 -/
def placeP (ps : List (List Int)) (af : List Int) (r : Int) : Prop := (r = -1 ∧ af ∉ ps) ∨ (0 ≤ r ∧ af ∈ ps)
set_option maxHeartbeats 1600000 in
theorem indexP_any (P A3 : Option Addr) (m d n3 c3 B b : Nat) (qs : List Nq) (af : List Int) (w : World) (hp : NyI w B P m qs) (ha : Ints w B A3 n3 af) (hm : m ≤ maxLen) (hn3 : n3 ≤ maxLen) (hb : w.cell? ⟨b, 0, none⟩ = some (.slice A3 n3 c3)) :
    Calls Try.prog 78 #[.slice P m d, .func (.func 71) #[] #[.pointer (some ⟨b, 0, none⟩)]] w fun e w' => ∃ r, e = .returned (.int .i64 r) ∧ placeP (vsN qs) af r ∧ ∃ q, w' = w.drewN q := by
  have HP := hide hp
  have HW := hide fun (z : Nat) (k : Nat) (p : Nq) (h : qs[k]? = some p) => wantP_any p.addr A3 p.ps.length p.cap n3 c3 B b p.ps af (w.drewN z) (((hp.row_ h).1).drewN z) (ha.drewN z) (by have := hp.row_ h; omega) hn3 hb
  have hm9 := hm
  unfold maxLen at hm9
  clear hp ha hb hn3
  go_enter Try.func78, Try.ntmps78
  go_wp2_with fail
  go_loopw [8] (fun i wr => ∃ k z : Nat, k ≤ m ∧ i = .int .i64 k ∧ wr = w.drewN z ∧ Hid (af ∈ vsN qs ↔ af ∈ (vsN qs).drop k)) (fun i _ => m - (intOf i).toNat)
  case atStart => exact ⟨0, 0, Nat.zero_le _, rfl, rfl, Iff.rfl⟩
  case round =>
    obtain ⟨k, z, hk, rfl, rfl, HI⟩ := hrel
    by_cases hlt : k < m
    · obtain ⟨p, hp⟩ : ∃ x, qs[k]? = some x := ⟨_, List.getElem?_eq_getElem (by rw [HP.out.1]; exact hlt)⟩
      have HWP := hide (HW.out z k p hp)
      obtain ⟨ad, rfl, hb, hc⟩ := (HP.out.drewN z).at_ hp
      have HD := hide (show (vsN qs).drop k = p.ps :: (vsN qs).drop (k + 1) from by
        have h2 := vsN_get hp
        have hl : k < (vsN qs).length := (List.getElem?_eq_some_iff.1 h2).1
        have e2 : (vsN qs)[k] = p.ps := (List.getElem?_eq_some_iff.1 h2).2
        rw [List.drop_eq_getElem_cons hl, e2])
      clear hp
      obtain ⟨ps5, pa, pc5⟩ := p
      unfold Nq.sl at hc
      simp only at hc HWP HD
      have k0 : (0 : Int) ≤ (k : Int) := by omega
      have k1 : (k : Int) < (m : Int) := by omega
      by_cases heq : ps5 = af
      · have HE := hide (show placeP (vsN qs) af (k : Int) from .inr ⟨k0, by rw [HI.out, HD.out, heq]; exact List.mem_cons_self ..⟩)
        rw [decide_eq_true heq] at HWP
        clear heq HI HD
        go_wp2_with fail
        refine HWP.out.mono ?_
        rintro e w' ⟨rfl, z2, rfl⟩
        go_wp2
        go_ret
        exact ⟨_, rfl, HE.out, z + z2, rfl⟩
      · have HI2 := hide (show af ∈ vsN qs ↔ af ∈ (vsN qs).drop (k + 1) from by
          rw [HI.out, HD.out, List.mem_cons]
          exact ⟨fun h => h.elim (fun e => absurd e.symm heq) id, .inr⟩)
        rw [decide_eq_false heq] at HWP
        clear heq HI HD
        go_wp2_with fail
        refine HWP.out.mono ?_
        rintro e w' ⟨rfl, z2, rfl⟩
        go_wp2
        go_roundw
        case rel => exact ⟨k + 1, z + z2, by omega, by go_num, rfl, HI2.out⟩
        case measure => simp [intOf]; omega
    · have HE := hide (show placeP (vsN qs) af (-1) from .inl ⟨rfl, by rw [HI.out, List.drop_of_length_le (by rw [vsN_length, HP.out.1]; omega)]; exact List.not_mem_nil⟩)
      go_wp2
      go_ret
      exact ⟨_, rfl, HE.out, z, rfl⟩
set_option maxHeartbeats 800000 in
theorem contains_any (P A3 : Option Addr) (m d n3 c3 B b : Nat) (qs : List Nq) (af : List Int) (w : World) (hp : NyI w B P m qs) (ha : Ints w B A3 n3 af) (hm : m ≤ maxLen) (hn3 : n3 ≤ maxLen) (hb : w.cell? ⟨b, 0, none⟩ = some (.slice A3 n3 c3)) :
    Calls Try.prog 70 #[.slice P m d, .func (.func 71) #[] #[.pointer (some ⟨b, 0, none⟩)]] w fun e w' => e = .returned (.bool (decide (af ∈ vsN qs))) ∧ ∃ q, w' = w.drewN q := by
  have HI := hide (indexP_any P A3 m d n3 c3 B b qs af w hp ha hm hn3 hb)
  clear hp ha hm hn3 hb
  go_enter Try.func70, Try.ntmps70
  go_wp2_with fail
  refine HI.out.mono ?_
  rintro e w' ⟨r, rfl, hr, q, rfl⟩
  rcases hr with ⟨rfl, hr⟩ | ⟨h0, hr⟩
  · have HE := hide (decide_eq_false hr)
    clear hr
    go_wp2
    go_ret
    exact ⟨ret_bool (by rw [HE.out]), q, rfl⟩
  · have HE := hide (decide_eq_true hr)
    have h0' : decide (0 ≤ r) = true := decide_eq_true h0
    clear hr
    go_wp2
    go_ret
    exact ⟨ret_bool (by rw [HE.out]; try rfl), q, rfl⟩
end Go.Proofs.Ytiopbgenkalfaaa
