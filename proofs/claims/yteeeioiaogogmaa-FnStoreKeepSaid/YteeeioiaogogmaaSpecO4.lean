/-
  The model's StoreGet, StoreKeep.
-/
import Derived.Test.YteeeioiaogogmaaSpecO3
namespace Go.Proofs.Yteeeioiaogogmaa
open Go.RowKit
set_option linter.unusedVariables false
set_option maxRecDepth 100000

theorem ret_pair {k : IntKind} {a a' : Int} {b b' : Bool} (h : a = a') (h2 : b = b') : Ending.returned (.tuple #[.int k a, .bool b]) = .returned (.tuple #[.int k a', .bool b']) := by rw [h, h2]
theorem obs_has {qs : List Oq} {id : Int} (h : hasS (obs qs) id = true) : ∃ (i : Nat) (q : Oq), findF 0 (obs qs) id = (i : Int) ∧ qs[i]? = some q ∧ q.id = id ∧ valsAt (obs qs) id = q.vals := by
  obtain ⟨i, o, hf, ho, hid, hv⟩ := findF_yes (obs qs) id 0 h
  obtain ⟨q, hq, rfl⟩ := obs_get_inv ho
  exact ⟨i, q, by rw [hf, Nat.zero_add], hq, hid, hv⟩

set_option maxHeartbeats 3200000 in
theorem specGetO (A : Option Addr) (n c B : Nat) (id ix : Int) (qs : List Oq) (w : World) (hr : Objs w B A n qs) (hn : n ≤ 10000000000) :
    Calls Try.prog 18 #[.slice A n c, .int .i64 id, .int .i64 ix] w fun e w' => e = .returned (.tuple #[.int .i64 (getV (obs qs) id ix), .bool (getB (obs qs) id ix)]) ∧ w = w' := by
  have H1 := hide (specSV A n c B qs w hr (by omega))
  have H2 := hide (specFind A n c B id qs w hr (by omega))
  have HR := hide hr
  clear hr
  rcases hv : stV (obs qs) with _ | _
  · have HG := hide (show getB (obs qs) id ix = false by unfold getB; rw [hv]; rfl)
    rw [hv] at H1
    clear hv H2
    go_enter Try.func18, Try.ntmps18
    go_wp2_with (go_at_call 25; refine H1.out.mono ?_; rintro e w1 ⟨rfl, rfl⟩)
    go_ret2
    exact ⟨ret_pair (by unfold getV; rw [HG.out]; rfl) HG.out.symm, rfl⟩
  · have HLV := hide (stV_len hv)
    rcases hh : hasS (obs qs) id with _ | _
    · have HG := hide (show getB (obs qs) id ix = false by unfold getB; rw [hh]; simp)
      rw [hv] at H1
      rw [findF_no _ _ 0 hh] at H2
      clear hv hh
      go_enter Try.func18, Try.ntmps18
      go_wp2_with (first
        | (go_at_call 25; refine H1.out.mono ?_; rintro e w1 ⟨rfl, rfl⟩)
        | (go_at_call 35; refine H2.out.mono ?_; rintro e w1 ⟨rfl, rfl⟩))
      go_ret2
      exact ⟨ret_pair (by unfold getV; rw [HG.out]; rfl) HG.out.symm, rfl⟩
    · obtain ⟨i, q, hf, hq, hid, hva⟩ := obs_has hh
      have hin : i < n := by rw [← HR.out.1]; exact (List.getElem?_eq_some_iff.1 hq).1
      have hm6 := HLV.out.2 q (List.mem_of_getElem? hq)
      have HG := hide (show getB (obs qs) id ix = inB ix 0 ((q.vals.length : Int) - 1) by unfold getB; rw [hv, hh, hva]; rfl)
      have HGV := hide (show getV (obs qs) id ix = if inB ix 0 ((q.vals.length : Int) - 1) then q.vals.getD ix.toNat 0 else 0 by unfold getV; rw [HG.out, hva])
      rw [hv] at H1
      rw [hf] at H2
      obtain ⟨ad, p, rfl, hp, hb, hc0, hc1⟩ := HR.out.at_ hq
      obtain ⟨hi, hle, hcm, _⟩ := HR.out.words hq
      clear hv hh hf hq hid hva HR HLV
      obtain ⟨x, vs, qa, qc⟩ := q
      simp only [Oq.sl] at hc1 hi hle hcm hm6 HG HGV
      generalize vs.length = m at hc1 hi hle hm6 HG HGV
      have i0 : (0 : Int) ≤ (i : Int) := by omega
      have i1 : (i : Int) < (n : Int) := by omega
      have H3 := hide (in_any ix 0 ((m : Int) - 1) w)
      clear hc0 hle hcm
      rcases hin2 : inB ix 0 ((m : Int) - 1) with _ | _
      · rw [hin2] at H3 HG HGV
        clear hin2 hi
        go_enter Try.func18, Try.ntmps18
        go_wp2_with (first
          | (go_at_call 25; refine H1.out.mono ?_; rintro e w1 ⟨rfl, rfl⟩)
          | (go_at_call 35; refine H2.out.mono ?_; rintro e w1 ⟨rfl, rfl⟩)
          | (go_at_call 33; refine H3.out.mono ?_; rintro e w1 ⟨rfl, rfl⟩))
        go_ret2
        exact ⟨ret_pair HGV.out.symm HG.out.symm, rfl⟩
      · obtain ⟨x0, x1⟩ := inB_iff.1 hin2
        obtain ⟨j, rfl⟩ := Int.eq_ofNat_of_zero_le x0
        have hj : j < m := by omega
        obtain ⟨ad2, rfl, hb2, hcj⟩ := hi.at_ hj
        rw [hin2] at H3 HG HGV
        have j0 : (0 : Int) ≤ (j : Int) := by omega
        have j1 : (j : Int) < (m : Int) := by omega
        have HY := hide (show getV (obs qs) id (j : Int) = vs.getD j 0 by rw [HGV.out]; rfl)
        clear hin2 hi HGV
        generalize vs.getD j 0 = y at hcj HY
        go_enter Try.func18, Try.ntmps18
        go_wp2_with (first
          | (go_at_call 25; refine H1.out.mono ?_; rintro e w1 ⟨rfl, rfl⟩)
          | (go_at_call 35; refine H2.out.mono ?_; rintro e w1 ⟨rfl, rfl⟩)
          | (go_at_call 33; refine H3.out.mono ?_; rintro e w1 ⟨rfl, rfl⟩))
        go_ret2
        exact ⟨ret_pair HY.out.symm HG.out.symm, rfl⟩

theorem Objs.one {w : World} {B n : Nat} {ad : Addr} {qs : List Oq} (h : Objs w B (some ad) n qs) {k : Nat} {q : Oq} (hq : qs[k]? = some q) : Objs w B (some (ad.add (k * 2))) 1 [q] := by
  have hl : k < n := by rw [← h.1]; exact (List.getElem?_eq_some_iff.1 hq).1
  obtain ⟨ad', e, hb, hc⟩ := h.2.1 (by omega)
  injection e with e
  subst e
  refine ⟨rfl, fun _ => ⟨_, rfl, by rw [block_of_add]; exact hb, fun j u hu => ?_⟩, fun r hr => ?_⟩
  · rw [add_of_add]
    refine hc _ _ ?_
    have hj : j < 2 := by
      have := (List.getElem?_eq_some_iff.1 hu).1
      simpa [flatO] using this
    rw [flatO_get hq j hj]
    simpa [flatO, Oq.cells] using hu
  · simp at hr
    subst hr
    exact h.2.2 _ (List.mem_of_getElem? hq)

theorem filter_take {s : Sto} {k : Nat} {o : Int × List Int} (h : s[k]? = some o) (f : Int × List Int → Bool) : (s.take (k + 1)).filter f = (s.take k).filter f ++ (if f o then [o] else []) := by
  rw [List.take_add_one, h, List.filter_append]
  simp only [Option.toList_some, List.filter_cons, List.filter_nil]
theorem filter_yes {s : Sto} {k : Nat} {o : Int × List Int} (h : s[k]? = some o) {f : Int × List Int → Bool} (hf : f o = true) : (s.take (k + 1)).filter f = (s.take k).filter f ++ [o] := by
  rw [filter_take h, if_pos hf]
theorem filter_no {s : Sto} {k : Nat} {o : Int × List Int} (h : s[k]? = some o) {f : Int × List Int → Bool} (hf : f o = false) : (s.take (k + 1)).filter f = (s.take k).filter f := by
  rw [filter_take h, if_neg (by rw [hf]; decide), List.append_nil]

set_option maxHeartbeats 6400000 in
theorem specKeepO (A X : Option Addr) (n c B C m d : Nat) (qs : List Oq) (ids : List Int) (w : World) (hr : Objs w B A n qs) (hB : B ≤ w.heap.size) (hn : n ≤ 10000000000) (hnc : n ≤ c) (hc : c ≤ maxLen) (hx : Ints w C X m ids) (hC : C ≤ w.heap.size) (hm : m ≤ 1000000000000) :
    Calls Try.prog 21 #[.slice A n c, .slice X m d] w (StoPost w (stV (obs qs)) (keepS (obs qs) ids)) := by
  have H1 := hide (specSV A n c B qs w hr (by omega))
  have HR := hide hr
  have HX := hide hx
  clear hr hx
  unfold maxLen at hc
  rcases hv : stV (obs qs) with _ | _
  · have HK := hide (show keepS (obs qs) ids = [] by unfold keepS; rw [hv]; rfl)
    rw [hv] at H1
    clear hv
    go_enter Try.func21, Try.ntmps21
    go_wp2_with (go_at_call 25; refine H1.out.mono ?_; rintro e w1 ⟨rfl, rfl⟩)
    go_ret2
    exact ⟨_, _, _, [], rfl, OwnO.lit0 w w.heap.size (Nat.le_refl _), HK.out.symm, below_new w _⟩
  · have HK := hide (show keepS (obs qs) ids = (obs qs).filter (fun o => hasI ids o.1) by unfold keepS; rw [hv]; rfl)
    have HLV := hide (stV_len hv)
    rw [hv] at H1
    clear hv
    go_enter Try.func21, Try.ntmps21
    go_wp2_with (go_at_call 25; refine H1.out.mono ?_; rintro e w1 ⟨rfl, rfl⟩)
    go_loopw [6, 7] (fun o i wr => ∃ (k l c2 : Nat) (A2 : Option Addr) (rs : List Oq), k ≤ n ∧ l ≤ k ∧ i = .int .i64 k ∧ o = .slice A2 l c2 ∧ Hid (OwnO wr w.heap.size A2 l c2 rs) ∧ Hid (obs rs = ((obs qs).take k).filter (fun o => hasI ids o.1)) ∧ Hid (Below w.heap.size w wr)) (fun _ i _ => n - (intOf i).toNat)
    case atStart => exact ⟨0, 0, 0, _, [], Nat.zero_le _, Nat.le_refl _, rfl, rfl, OwnO.lit0 w _ (Nat.le_refl _), rfl, below_new w _⟩
    case round =>
      obtain ⟨k, l, c2, A2, rs, hk, hlk, rfl, rfl, HO, HZ, HB⟩ := hrel
      have hs := HB.out.size
      by_cases hlt : k < n
      · obtain ⟨q, hq⟩ : ∃ q, qs[k]? = some q := ⟨_, List.getElem?_eq_getElem (by rw [HR.out.1]; exact hlt)⟩
        have HY := hide fun (h : hasI ids q.id = true) => filter_yes (obs_get hq) (f := fun o => hasI ids o.1) h
        have HN := hide fun (h : hasI ids q.id = false) => filter_no (obs_get hq) (f := fun o => hasI ids o.1) h
        rw [← HZ.out] at HY HN
        have hR := HR.out.below HB.out hB
        obtain ⟨ad, p, rfl, hp, hb, hc0, hc1⟩ := hR.at_ hq
        have hml := HLV.out.2 q (List.mem_of_getElem? hq)
        have HC := hide (specCopyO (some p) 1 (c - k) B [q] wr (hp ▸ hR.one hq) (by omega) (by decide) (fun r hr => by simp at hr; subst hr; omega))
        have HH := hide (HX.out.below HB.out hC)
        have k0 : (0 : Int) ≤ (k : Int) := by omega
        have k1 : (k : Int) < (n : Int) := by omega
        have hl1 : l + 1 ≤ 100000000000 := by omega
        clear hq hc1 hml hR
        obtain ⟨id, vs, qa, qc⟩ := q
        simp only [Oq.ob] at hc0 HY HN
        rcases hin : hasI ids id with _ | _
        · have HZ2 := hide (HN.out hin)
          have HI := hide hin
          clear hin
          go_wp2_with (go_at_call 38; refine (HI.out ▸ l4Has_any X m d C id ids _ HH.out (by unfold maxLen; omega) : Calls _ _ _ _ fun e w' => e = .returned (.bool false) ∧ wr = w').mono ?_; rintro e w' ⟨rfl, rfl⟩)
          go_roundw
          case rel => exact ⟨k + 1, l, c2, A2, rs, by omega, by omega, by go_num, rfl, HO.out, by show _ = _; exact HZ2.out.symm, HB.out⟩
          case measure => simp [intOf]; omega
        · have HZ2 := hide (HY.out hin)
          have HI := hide hin
          clear hin
          go_wp2_with (first
            | (go_at_call 38; refine (HI.out ▸ l4Has_any X m d C id ids _ HH.out (by unfold maxLen; omega) : Calls _ _ _ _ fun e w' => e = .returned (.bool true) ∧ wr = w').mono ?_; rintro e w' ⟨rfl, rfl⟩)
            | (go_at_call 36; refine HC.out.mono ?_; rintro e w5 ⟨A5, c5, qs5, rfl, ho5, hz5, hb5⟩; have HNW := hide (News.row HO.out ho5 hb5 hs); have HB5 := hide (HB.out.trans (hb5.mono hs)); have HZ5 := hide hz5; have hs5 := HB5.out.size; clear ho5 hz5 hb5)
            | (at_builtin; refine wpList_append_objs rfl (.tmp 26) (.tmp 32) rfl w.heap.size l c2 1 c5 A2 A5 rs qs5 rfl rfl HNW.out hl1 hs5 ?_; intro A6 c6 w6 ho6 hg6 hat6; have HB6 := hide (HB5.out.grown hg6 hs5 (fun g hg => (HNW.out.own.block g hg).1)); have HO6 := hide ho6; clear hat6 hg6 ho6))
          go_roundw
          case rel => exact ⟨k + 1, l + 1, _, _, _, by omega, by omega, by go_num, rfl, HO6.out, by show obs (rs ++ qs5) = _; rw [HZ2.out, obs_append, HZ5.out]; simp [obs, Oq.ob], HB6.out⟩
          case measure => simp [intOf]; omega
      · obtain rfl : k = n := by omega
        have h := HZ.out
        rw [List.take_of_length_le (by rw [obs_length, HR.out.1]; exact Nat.le_refl _), ← HK.out] at h
        have HE := hide h
        clear h
        go_wp2
        go_ret2
        exact ⟨_, _, _, _, rfl, HO.out, HE.out, HB.out⟩
end Go.Proofs.Yteeeioiaogogmaa
