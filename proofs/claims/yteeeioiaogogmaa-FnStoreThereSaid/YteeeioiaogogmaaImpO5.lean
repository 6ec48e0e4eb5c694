/-
  The program's StoreGet, only, StoreKeep.
-/
import Derived.Test.YteeeioiaogogmaaImpO4
import Derived.Test.YteeeioiaogogmaaRng
namespace Go.Proofs.Yteeeioiaogogmaa
open Go.RowKit Go.Maps
set_option linter.unusedVariables false
set_option maxRecDepth 100000

theorem get_facts {w0 w1 : World} {B m j : Nat} {f : Int → Option Value} {t : Sto} {x y : Int} {vs : List Int} (hti : Tied w0 B f t) (hm : (x, vs) ∈ t) (hb : Below w0.heap.size w0 w1) (hB : B ≤ w0.heap.size) (hl : vs.length = m) (hj : j < m) (hy : vs.getD j 0 = y) :
    ∃ ad cv, (f x).getD (.slice none 0 0) = .slice (some ad) m cv ∧ w1.cell? (ad.add j) = some (.int .i64 y) ∧ m ≤ cv ∧ cv ≤ 9223372036854775807 := by
  subst hl
  subst hy
  obtain ⟨Av, cv, hf, hiv, hvc, hvm, _⟩ := hti.val _ hm
  obtain ⟨ad, rfl, hbad, hcj⟩ := (hiv.below hb hB).at_ hj
  exact ⟨ad, cv, by rw [hf]; rfl, hcj, hvc, by unfold maxLen at hvm; omega⟩

set_option maxHeartbeats 3200000 in
theorem implGetO (A : Option Addr) (n c B : Nat) (id ix : Int) (qs : List Oq) (w : World) (hr : Objs w B A n qs) (hB : B ≤ w.heap.size) (hn : n ≤ 10000000000) (i0 : -9223372036854775808 ≤ id) (i1 : id ≤ 9223372036854775807) :
    Calls Try.prog 15 #[.slice A n c, .int .i64 id, .int .i64 ix] w fun e w' => e = .returned (.tuple #[.int .i64 (getV (obs qs) id ix), .bool (getB (obs qs) id ix)]) ∧ Below w.heap.size w w' := by
  rcases hv : stV (obs qs) with _ | _
  · have H1 := hide (implShelf_no A n c B qs w hr hB (by omega) hv)
    have HG := hide (show getB (obs qs) id ix = false by unfold getB; rw [hv]; rfl)
    clear hr hv
    go_enter Try.func15, Try.ntmps15
    go_wp2_with (go_at_call 30; refine H1.out.mono ?_; rintro e w1 ⟨rfl, hb1⟩; have HB1 := hide hb1; clear hb1)
    go_ret2
    exact ⟨ret_pair (by unfold getV; rw [HG.out]; rfl) HG.out.symm, HB1.out⟩
  · have H1 := hide (implShelf_yes A n c B qs w hr hB (by omega) hv)
    rcases hh : hasS (obs qs) id with _ | _
    · have HG := hide (show getB (obs qs) id ix = false by unfold getB; rw [hh]; simp)
      have HH := hide hh
      clear hr hv hh
      by_cases h0 : ix < 0
      all_goals
        go_enter Try.func15, Try.ntmps15
        go_wp2_with (first
          | (go_at_call 30; refine H1.out.mono ?_; rintro e w1 ⟨b, f, rfl, hbb, hsh, hti, hb1⟩; have HB1 := hide hb1; have HS1 := hide hsh; have HV0 := hide (show (f id).getD (.slice none 0 0) = .slice none 0 0 by (have h := (hti.mem id).trans HH.out; rw [Option.isSome_eq_false_iff, Option.isNone_iff_eq_none] at h; rw [h]; rfl)); clear hb1 hsh hti)
          | (at_lookup; refine wpList_look rfl (.tmp 18) (.tmp 19) rfl b 6 f rfl HS1.out id (.slice none 0 0) rfl i0 i1 HV0.out ?_))
        go_ret2
        exact ⟨ret_pair (by unfold getV; rw [HG.out]; rfl) HG.out.symm, HB1.out⟩
    · obtain ⟨i, q, hf, hq, hid, hva⟩ := obs_has hh
      have HG := hide (show getB (obs qs) id ix = inB ix 0 ((q.vals.length : Int) - 1) by unfold getB; rw [hv, hh, hva]; rfl)
      have HGV := hide (show getV (obs qs) id ix = if inB ix 0 ((q.vals.length : Int) - 1) then q.vals.getD ix.toNat 0 else 0 by unfold getV; rw [HG.out, hva])
      have HM := hide (show q.ob ∈ obs qs from List.mem_of_getElem? (obs_get hq))
      clear hr hv hh hf hq hva
      obtain ⟨x, vs, qa, qc⟩ := q
      simp only at hid
      subst hid
      simp only [Oq.ob] at HG HGV HM
      rcases hin2 : inB ix 0 ((vs.length : Int) - 1) with _ | _
      · rw [hin2] at HG HGV
        have hno : ix < 0 ∨ (vs.length : Int) ≤ ix := by
          unfold inB at hin2
          rcases Int.lt_or_le ix 0 with h | h
          · exact .inl h
          · rw [decide_eq_true h, Bool.true_and, decide_eq_false_iff_not] at hin2
            exact .inr (by omega)
        clear hin2
        by_cases h0 : ix < 0
        · clear hno
          go_enter Try.func15, Try.ntmps15
          go_wp2_with (first
            | (go_at_call 30; refine H1.out.mono ?_; rintro e w1 ⟨b, f, rfl, hbb, hsh, hti, hb1⟩; have HB1 := hide hb1; have HS1 := hide hsh; obtain ⟨v0, hv0⟩ : ∃ v0, (f x).getD (.slice none 0 0) = v0 := ⟨_, rfl⟩; have HV0 := hide hv0; clear hb1 hsh hti hv0)
            | (at_lookup; refine wpList_look rfl (.tmp 18) (.tmp 19) rfl b 6 f rfl HS1.out x v0 rfl i0 i1 HV0.out ?_))
          go_ret2
          exact ⟨ret_pair HGV.out.symm HG.out.symm, HB1.out⟩
        · have h1 : (vs.length : Int) ≤ ix := by omega
          clear hno
          obtain ⟨m, hm⟩ : ∃ m, vs.length = m := ⟨_, rfl⟩
          rw [hm] at h1
          have HMM := hide hm
          clear hm
          go_enter Try.func15, Try.ntmps15
          go_wp2_with (first
            | (go_at_call 30; refine H1.out.mono ?_; rintro e w1 ⟨b, f, rfl, hbb, hsh, hti, hb1⟩; have HB1 := hide hb1; have HS1 := hide hsh; obtain ⟨Av, cv, hf, hrest⟩ := hti.val _ HM.out; have HV0 := hide (show (f x).getD (.slice none 0 0) = .slice Av m cv by (rw [hf, HMM.out]; rfl)); clear hb1 hsh hti hf hrest)
            | (at_lookup; refine wpList_look rfl (.tmp 18) (.tmp 19) rfl b 6 f rfl HS1.out x (.slice Av m cv) rfl i0 i1 HV0.out ?_))
          go_ret2
          exact ⟨ret_pair HGV.out.symm HG.out.symm, HB1.out⟩
      · obtain ⟨x0, x1⟩ := inB_iff.1 hin2
        obtain ⟨j, rfl⟩ := Int.eq_ofNat_of_zero_le x0
        rw [hin2] at HG HGV
        have HY := hide (show getV (obs qs) x (j : Int) = vs.getD j 0 by rw [HGV.out]; rfl)
        obtain ⟨m, hm⟩ : ∃ m, vs.length = m := ⟨_, rfl⟩
        rw [hm] at x1
        have hj : j < m := by omega
        have j0 : (0 : Int) ≤ (j : Int) := by omega
        have j1 : (j : Int) < (m : Int) := by omega
        have HMM := hide hm
        clear hm hin2 HGV
        generalize hy : vs.getD j 0 = y at HY
        have HYY := hide hy
        clear hy
        go_enter Try.func15, Try.ntmps15
        go_wp2_with (first
          | (go_at_call 30; refine H1.out.mono ?_; rintro e w1 ⟨b, f, rfl, hbb, hsh, hti, hb1⟩; have HB1 := hide hb1; have HS1 := hide hsh; obtain ⟨ad, cv, hf, hcj, hvc, hvm⟩ := get_facts hti HM.out hb1 hB HMM.out hj HYY.out; have HV0 := hide hf; clear hb1 hsh hti hf)
          | (at_lookup; refine wpList_look rfl (.tmp 18) (.tmp 19) rfl b 6 f rfl HS1.out x (.slice (some ad) m cv) rfl i0 i1 HV0.out ?_))
        go_ret2
        exact ⟨ret_pair HY.out.symm HG.out.symm, HB1.out⟩

theorem Tied.only {w : World} {B : Nat} {f : Int → Option Value} {t : Sto} (h : Tied w B f t) (ids : List Int) : Tied w B (fun x => if hasI ids x then f x else none) (t.filter (fun o => hasI ids o.1)) := by
  refine ⟨h.asc.sublist List.filter_sublist, fun x => ?_, fun o ho => ?_⟩
  · rcases hx : hasI ids x with _ | _
    · simp only [Bool.false_eq_true, if_false, Option.isSome_none]
      symm
      refine hasS_no.2 fun o ho e => ?_
      have := (List.mem_filter.1 ho).2
      rw [e, hx] at this
      cases this
    · simp only [if_true]
      rw [h.mem x, Bool.eq_iff_iff, hasS_iff, hasS_iff]
      constructor
      · rintro ⟨o, ho, e⟩; exact ⟨o, List.mem_filter.2 ⟨ho, by rw [e]; exact hx⟩, e⟩
      · rintro ⟨o, ho, e⟩; exact ⟨o, (List.mem_filter.1 ho).1, e⟩
  · obtain ⟨h1, h2⟩ := List.mem_filter.1 ho
    obtain ⟨A, c, e, r⟩ := h.val o h1
    exact ⟨A, c, by simp only [h2, if_true]; exact e, r⟩

theorem only_put {f : Int → Option Value} {xs : List Int} {k : Nat} (h : k < xs.length) {v : Value} (hv : f (xs.getD k 0) = some v) (x : Int) :
    (if x = xs.getD k 0 then some v else if hasI (xs.take k) x then f x else none) = if hasI (xs.take (k + 1)) x then f x else none := by
  rw [hasI_take xs k x h]
  by_cases hx : x = xs.getD k 0
  · rw [if_pos hx, hx, hv]; simp
  · rw [if_neg hx]
    have : (xs.getD k 0 == x) = false := by simpa using fun e => hx e.symm
    rw [this, Bool.or_false]
theorem only_skip {f : Int → Option Value} {xs : List Int} {k : Nat} (h : k < xs.length) (hv : f (xs.getD k 0) = none) (x : Int) :
    (if hasI (xs.take k) x then f x else none) = if hasI (xs.take (k + 1)) x then f x else none := by
  rw [hasI_take xs k x h]
  by_cases hx : x = xs.getD k 0
  · subst hx
    rw [hv]
    simp
  · have : (xs.getD k 0 == x) = false := by simpa using fun e => hx e.symm
    rw [this, Bool.or_false]

set_option maxHeartbeats 3200000 in
theorem implOnly (b N C m d : Nat) (X : Option Addr) (f : Int → Option Value) (ids : List Int) (w : World) (hs : Shelf w b N f) (hx : Ints w C X m ids) (hC : C ≤ w.heap.size) (hm : m ≤ 1000000000000) (hg : Rng (-9223372036854775808) 9223372036854775807 ids) :
    Calls Try.prog 37 #[.map (some b), .slice X m d] w fun e w' => ∃ b2, e = .returned (.map (some b2)) ∧ Shelf w' b2 m (fun x => if hasI ids x then f x else none) ∧ Below w.heap.size w w' := by
  have HS := hide hs
  have hbl := hs.lt
  have HX := hide hx
  have HG := hide hg
  have hmm := @run_makeMap Try.prog
  clear hs hx hg
  go_enter Try.func37, Try.ntmps37
  go_wp2
  go_loopw [7, 8, 9, 13] (fun _ _ _ i wr => ∃ (k : Nat), k ≤ m ∧ i = .int .i64 k ∧ Hid (Shelf wr w.heap.size k (fun x => if hasI (ids.take k) x then f x else none)) ∧ Hid (Below w.heap.size w wr)) (fun _ _ _ i _ => m - (RowKit.intOf i).toNat)
  case atStart => exact ⟨0, Nat.zero_le _, rfl, (Shelf.made w).ext (fun x => by simp [hasI]), below_new w _⟩
  case round =>
    obtain ⟨k, hk, rfl, HS2, HB⟩ := hrel
    have hsz := HB.out.size
    by_cases hlt : k < m
    · have hkl : k < ids.length := by rw [HX.out.1]; exact hlt
      have hrg := HG.out.getD hkl
      have HP := hide fun (v : Value) (hv : f (ids.getD k 0) = some v) => only_put hkl hv
      have HK := hide fun (hv : f (ids.getD k 0) = none) => only_skip hkl hv
      obtain ⟨ad, rfl, hb, hc⟩ := (HX.out.below HB.out hC).at_ hlt
      have HSW := hide (HS.out.below HB.out hbl)
      generalize ids.getD k 0 = y at hrg hc HP HK
      obtain ⟨y0, y1⟩ := hrg
      have k0 : (0 : Int) ≤ (k : Int) := by omega
      have k1 : (k : Int) < (m : Int) := by omega
      have kN : k ≤ 17592186044416 := by omega
      rcases hf : f y with _ | v
      · have HE := hide (HS2.out.ext (HK.out hf))
        have HF1 := hide (show (f y).getD (.slice none 0 0) = .slice none 0 0 by rw [hf]; rfl)
        have HF2 := hide (show (f y).isSome = false by rw [hf]; rfl)
        clear hf HK HP
        go_wp2_with (at_lookup; refine wpList_look_ok rfl (.tmp 18) (.tmp 19) rfl b N f rfl HSW.out y (.slice none 0 0) false rfl y0 y1 HF1.out HF2.out ?_)
        go_roundw
        case rel => exact ⟨k + 1, by omega, by go_num, HE.out.mono (by omega), HB.out⟩
        case measure => simp [RowKit.intOf]; omega
      · have HE := hide (HP.out v hf)
        have HF1 := hide (show (f y).getD (.slice none 0 0) = v by rw [hf]; rfl)
        have HF2 := hide (show (f y).isSome = true by rw [hf]; rfl)
        clear hf HK HP
        go_wp2_with (first
          | (at_lookup; refine wpList_look_ok rfl (.tmp 18) (.tmp 19) rfl b N f rfl HSW.out y v true rfl y0 y1 HF1.out HF2.out ?_)
          | (at_mapUpdate; refine wpList_put rfl (.tmp 24) (.tmp 25) (.tmp 26) rfl w.heap.size k _ rfl HS2.out kN y v rfl rfl y0 y1 ?_; intro w4 hsh4 hg4; have HS4 := hide (hsh4.ext HE.out); have HB4 := hide (HB.out.grown hg4 hsz (fun g hg => by injection hg with hg; omega)); clear hsh4 hg4))
        go_roundw
        case rel => exact ⟨k + 1, by omega, by go_num, HS4.out, HB4.out⟩
        case measure => simp [RowKit.intOf]; omega
    · obtain rfl : k = m := by omega
      have HE := hide (show Shelf wr w.heap.size k (fun x => if hasI ids x then f x else none) by have := HS2.out; rwa [List.take_of_length_le (by rw [HX.out.1]; exact Nat.le_refl _)] at this)
      go_wp2
      go_ret
      exact ⟨_, rfl, HE.out, HB.out⟩

set_option maxHeartbeats 3200000 in
theorem implKeepO (A X : Option Addr) (n c B C m d : Nat) (qs : List Oq) (ids : List Int) (w : World) (hr : Objs w B A n qs) (hB : B ≤ w.heap.size) (hn : n ≤ 10000000000) (hx : Ints w C X m ids) (hC : C ≤ w.heap.size) (hm : m ≤ 1000000000000) (hg : Rng (-9223372036854775808) 9223372036854775807 ids) :
    Calls Try.prog 20 #[.slice A n c, .slice X m d] w (StoPost w (stV (obs qs)) (keepS (obs qs) ids)) := by
  rcases hv : stV (obs qs) with _ | _
  · have H1 := hide (implShelf_no A n c B qs w hr hB (by omega) hv)
    have HK := hide (show keepS (obs qs) ids = [] by unfold keepS; rw [hv]; rfl)
    clear hr hv
    go_enter Try.func20, Try.ntmps20
    go_wp2_with (go_at_call 30; refine H1.out.mono ?_; rintro e w1 ⟨rfl, hb1⟩; have HB1 := hide hb1; clear hb1)
    go_ret2
    exact ⟨_, _, _, [], rfl, OwnO.nil_ _ _, HK.out.symm, HB1.out⟩
  · have H1 := hide (implShelf_yes A n c B qs w hr hB (by omega) hv)
    have HK := hide (show keepS (obs qs) ids = (obs qs).filter (fun o => hasI ids o.1) by unfold keepS; rw [hv]; rfl)
    have HID := hide (show ∀ o ∈ (obs qs).filter (fun o => hasI ids o.1), 1 ≤ o.1 ∧ o.1 ≤ 999 from fun o ho => stV_ids hv o (List.mem_filter.1 ho).1)
    have HL := hide (show ((obs qs).filter (fun o => hasI ids o.1)).length ≤ 6 from Nat.le_trans (List.length_filter_le _ _) (stV_iff.1 hv).2.2)
    have HX := hide hx
    have HG := hide hg
    clear hr hv hx hg
    go_enter Try.func20, Try.ntmps20
    go_wp2_with (first
      | (go_at_call 30; refine H1.out.mono ?_; rintro e w1 ⟨b, f, rfl, hbb, hsh, hti, hb1⟩; have HB1 := hide hb1; have HT1 := hide (hti.only ids); have HO := hide (implOnly b 6 C m d X f ids w1 hsh (HX.out.below hb1 hC) (Nat.le_trans hC hb1.size) hm HG.out); clear hb1 hsh hti)
      | (go_at_call 37; refine HO.out.mono ?_; rintro e w2 ⟨b2, rfl, hs2, hb2⟩; have HS2 := hide hs2; have HB2 := hide (HB1.out.trans (hb2.mono HB1.out.size)); clear hs2 hb2)
      | (go_at_call 32; refine (implStore b2 m B _ _ w _ HS2.out hm HT1.out (HB2.out.mono hB) (Nat.le_trans hB HB2.out.size) (Nat.le_trans HL.out (by decide)) HID.out).mono ?_; rintro e w3 ⟨A3, m3, c3, qs3, rfl, ho3, hz3, hb3⟩; have HO3 := hide (ho3.mono HB2.out.size); have HZ3 := hide (hz3.trans HK.out.symm); have HB3 := hide (HB2.out.trans (hb3.mono HB2.out.size)); clear ho3 hz3 hb3))
    go_ret2
    exact ⟨_, _, _, _, rfl, HO3.out, HZ3.out, HB3.out⟩
end Go.Proofs.Yteeeioiaogogmaa
