/-
  The program's objectValid, StoreValid.
-/
import Derived.Test.YteeeioiaogogmaaSpecO3
namespace Go.Proofs.Yteeeioiaogogmaa
open Go.RowKit
set_option linter.unusedVariables false
set_option maxRecDepth 100000

theorem below_box1 (w : World) (o : Obj) : Below w.heap.size w (w.alloc o) := (Below.refl _ _).alloc (Nat.le_refl _) o
theorem cell_facts2 {w : World} {g : Nat} {t : TypeId} {a b : Value} (h : Blk w g t #[a, b]) : w.cell? ⟨g, 0, none⟩ = some a ∧ w.cell? ⟨g, 1, none⟩ = some b :=
  ⟨by rw [h.cell]; rfl, by rw [h.cell]; rfl⟩

theorem obOk_lo {id : Int} {vs : List Int} (h : id < 1) : obOk (id, vs) = false := by
  unfold obOk inB; rw [decide_eq_false (by omega)]; rfl
theorem obOk_hi {id : Int} {vs : List Int} (h : 999 < id) : obOk (id, vs) = false := by
  unfold obOk inB; rw [decide_eq_false (p := id ≤ 999) (by omega)]; simp
theorem obOk_none {id : Int} {vs : List Int} (h : vs.length < 1 ∨ 6 < vs.length) : obOk (id, vs) = false := by
  unfold obOk valsOk inB
  rcases h with h | h
  · rw [decide_eq_false (p := (1 : Int) ≤ (vs.length : Int)) (by omega)]; simp
  · rw [decide_eq_false (p := (vs.length : Int) ≤ 6) (by omega)]; simp
theorem obOk_in {id : Int} {vs : List Int} (h0 : 1 ≤ id) (h1 : id ≤ 999) (h2 : 1 ≤ vs.length) (h3 : vs.length ≤ 6) : obOk (id, vs) = vs.all valOk := by
  unfold obOk valsOk
  rw [inB_true h0 h1, inB_true (n := (vs.length : Int)) (by omega) (by omega)]
  simp

set_option maxHeartbeats 1600000 in
theorem implOb (A : Option Addr) (m c B : Nat) (id : Int) (vs : List Int) (w : World) (hi : Ints w B A m vs) (hB : B ≤ w.heap.size) (hm : m ≤ maxLen) :
    Calls Try.prog 31 #[.agg #[.int .i64 id, .slice A m c]] w fun e w' => e = .returned (.bool (obOk (id, vs))) ∧ Below w.heap.size w w' := by
  have hbl := Blk.new w 35 #[.int .i64 id, .slice A m c]
  have hc0 := (cell_facts2 hbl).1
  have hc1 := (cell_facts2 hbl).2
  have HI := hide (hi.alloc hB (.cells #[.int .i64 id, .slice A m c] 35))
  have HB := hide (below_box1 w (.cells #[.int .i64 id, .slice A m c] 35))
  have HL := hide hi.1
  clear hi hbl
  unfold maxLen at hm
  by_cases h1 : id < 1
  · have HG := hide (obOk_lo (vs := vs) h1)
    go_enter Try.func31, Try.ntmps31
    go_wp2
    go_ret
    exact ⟨ret_bool HG.out.symm, HB.out⟩
  · by_cases h2 : 999 < id
    · have HG := hide (obOk_hi (vs := vs) h2)
      go_enter Try.func31, Try.ntmps31
      go_wp2
      go_ret
      exact ⟨ret_bool HG.out.symm, HB.out⟩
    · by_cases h3 : m < 1
      · have HG := hide (obOk_none (id := id) (vs := vs) (.inl (by rw [HL.out]; exact h3)))
        have h3' : (m : Int) < 1 := by omega
        clear h3
        go_enter Try.func31, Try.ntmps31
        go_wp2
        go_ret
        exact ⟨ret_bool HG.out.symm, HB.out⟩
      · by_cases h4 : 6 < m
        · have HG := hide (obOk_none (id := id) (vs := vs) (.inr (by rw [HL.out]; exact h4)))
          have h4' : (6 : Int) < (m : Int) := by omega
          have h3' : (1 : Int) ≤ (m : Int) := by omega
          clear h3 h4
          go_enter Try.func31, Try.ntmps31
          go_wp2
          go_ret
          exact ⟨ret_bool HG.out.symm, HB.out⟩
        · have HG := hide (obOk_in (id := id) (vs := vs) (by omega) (by omega) (by rw [HL.out]; omega) (by rw [HL.out]; omega))
          have h4' : (m : Int) ≤ 6 := by omega
          have h3' : (1 : Int) ≤ (m : Int) := by omega
          clear h3 h4
          go_enter Try.func31, Try.ntmps31
          go_wp2
          go_loop [4, 26] (fun _ i => ∃ (k : Nat), k ≤ m ∧ i = .int .i64 k ∧ Hid (vs.all valOk = (vs.drop k).all valOk)) (fun _ i => m - (intOf i).toNat)
          case atStart => exact ⟨0, Nat.zero_le _, rfl, rfl⟩
          case round =>
            obtain ⟨k, hk, rfl, HS⟩ := hrel
            by_cases hlt : k < m
            · have hd := valOk_drop vs k (by rw [HL.out]; exact hlt)
              obtain ⟨ad, rfl, hb, hc⟩ := HI.out.at_ hlt
              have HX : Hid (_ = _) := HS.out.trans hd
              have k0 : (0 : Int) ≤ (k : Int) := by omega
              have k1 : (k : Int) < (m : Int) := by omega
              clear hd HS
              generalize vs.getD k 0 = x at hc HX
              by_cases g1 : x < 1
              · have HE := hide (show vs.all valOk = false by rw [HX.out]; unfold inB; rw [decide_eq_false (p := 1 ≤ x) (by omega)]; rfl)
                go_wp2
                go_ret
                exact ⟨ret_bool (HG.out.trans HE.out).symm, HB.out⟩
              · by_cases g2 : 99 < x
                · have HE := hide (show vs.all valOk = false by rw [HX.out]; unfold inB; rw [decide_eq_false (p := x ≤ 99) (by omega)]; simp)
                  go_wp2
                  go_ret
                  exact ⟨ret_bool (HG.out.trans HE.out).symm, HB.out⟩
                · have HE := hide (show vs.all valOk = (vs.drop (k + 1)).all valOk by rw [HX.out, inB_true (by omega) (by omega)]; rfl)
                  go_wp2
                  go_round
                  case rel => exact ⟨k + 1, by omega, by go_num, HE.out⟩
                  case measure => simp [intOf]; omega
            · obtain rfl : k = m := by omega
              have HE := hide (show vs.all valOk = true by rw [HS.out, List.drop_of_length_le (by rw [HL.out]; exact Nat.le_refl _)]; rfl)
              go_wp2
              go_ret
              exact ⟨ret_bool (HG.out.trans HE.out).symm, HB.out⟩

theorem ascF_ob {s : Sto} {k : Nat} {o : Int × List Int} (h : s[k]? = some o) {last : Int} (h0 : 0 ≤ last) : ascF last (s.drop k) = (decide (last < o.1) && obOk o && ascF o.1 (s.drop (k + 1))) := by
  rw [ascF_step h]
  congr 1
  unfold obOk inB
  rw [Bool.eq_iff_iff]
  simp only [Bool.and_eq_true, decide_eq_true_eq]
  constructor
  · rintro ⟨⟨a, b⟩, c⟩; exact ⟨by omega, ⟨by omega, b⟩, c⟩
  · rintro ⟨a, ⟨b, c⟩, d⟩; exact ⟨⟨by omega, c⟩, d⟩

set_option maxHeartbeats 3200000 in
theorem implSV (A : Option Addr) (n c B : Nat) (qs : List Oq) (w : World) (hr : Objs w B A n qs) (hB : B ≤ w.heap.size) (hn : n ≤ 1000000000000) :
    Calls Try.prog 16 #[.slice A n c] w fun e w' => e = .returned (.bool (stV (obs qs))) ∧ Below w.heap.size w w' := by
  have HR := hide hr
  clear hr
  by_cases h6 : 6 < n
  · have HE := hide (show stV (obs qs) = false by unfold stV; rw [obs_length, HR.out.1, decide_eq_false (by omega)]; simp)
    have h6' : (6 : Int) < (n : Int) := by omega
    clear h6
    go_enter Try.func16, Try.ntmps16
    go_wp2
    go_ret
    exact ⟨ret_bool HE.out.symm, Below.refl _ _⟩
  · have HE := hide (show stV (obs qs) = ascF 0 (obs qs) by unfold stV; rw [obs_length, HR.out.1, decide_eq_true (by omega)]; simp)
    have h6' : (n : Int) ≤ 6 := by omega
    clear h6
    go_enter Try.func16, Try.ntmps16
    go_wp2
    go_loopw [3, 5, 11] (fun l _ i wr => ∃ (k : Nat) (last : Int), k ≤ n ∧ i = .int .i64 k ∧ l = .int .i64 last ∧ 0 ≤ last ∧ last ≤ 999 ∧ Hid (ascF 0 (obs qs) = ascF last ((obs qs).drop k)) ∧ Hid (Below w.heap.size w wr)) (fun _ _ i _ => n - (intOf i).toNat)
    case atStart => exact ⟨0, 0, Nat.zero_le _, rfl, rfl, by omega, by omega, rfl, Below.refl _ _⟩
    case round =>
      obtain ⟨k, last, hk, rfl, rfl, hl0, hl1, HA, HB⟩ := hrel
      have hs := HB.out.size
      by_cases hlt : k < n
      · obtain ⟨q, hq⟩ : ∃ q, qs[k]? = some q := ⟨_, List.getElem?_eq_getElem (by rw [HR.out.1]; exact hlt)⟩
        have HX := hide (HA.out.trans (ascF_ob (obs_get hq) hl0))
        have hR := HR.out.below HB.out hB
        obtain ⟨ad, p, rfl, hp, hb, hc0, hc1⟩ := hR.at_ hq
        obtain ⟨hi, hle, hcm, _⟩ := hR.words hq
        clear HA hq hR
        obtain ⟨id, vs, qa, qc⟩ := q
        simp only [Oq.sl, Oq.ob] at hc0 hc1 hi hle hcm HX
        generalize vs.length = m at hc1 hi hle
        have hbl := Blk.new wr 35 #[.int .i64 id, .slice qa m qc]
        have hx0 := (cell_facts2 hbl).1
        have hx1 := (cell_facts2 hbl).2
        have HW := hide (below_box1 wr (.cells #[.int .i64 id, .slice qa m qc] 35))
        have HO := hide (implOb qa m qc B id vs (wr.alloc (.cells #[.int .i64 id, .slice qa m qc] 35)) (hi.alloc (by omega) _) (by simp; omega) (by omega))
        have k0 : (0 : Int) ≤ (k : Int) := by omega
        have k1 : (k : Int) < (n : Int) := by omega
        clear hi hle hcm hbl
        by_cases h1 : last < id
        · have h1' : decide (id ≤ last) = false := decide_eq_false (by omega)
          rcases h2 : obOk (id, vs) with _ | _
          · rw [h2] at HO HX
            have HF := hide (show ascF 0 (obs qs) = false by rw [HX.out]; simp)
            clear HX h2
            go_wp2_with (go_at_call 31; refine HO.out.mono ?_; rintro e w1 ⟨rfl, hb1⟩; have HB1 := hide (HB.out.trans ((HW.out.trans (hb1.mono HW.out.size)).mono hs)); clear hb1)
            go_ret
            exact ⟨ret_bool (HE.out.trans HF.out).symm, HB1.out⟩
          · obtain ⟨o1, o2, _⟩ := obOk_iff.1 h2
            simp only at o1 o2
            rw [h2] at HO HX
            have HF := hide (show ascF 0 (obs qs) = ascF id ((obs qs).drop (k + 1)) by rw [HX.out]; simp [h1])
            clear HX h2
            go_wp2_with (go_at_call 31; refine HO.out.mono ?_; rintro e w1 ⟨rfl, hb1⟩; have HB1 := hide (HB.out.trans ((HW.out.trans (hb1.mono HW.out.size)).mono hs)); have hy0 := (hb1.cell (p := ⟨wr.heap.size, 0, none⟩) (by simp)).trans hx0; clear hb1)
            go_roundw
            case rel => exact ⟨k + 1, id, by omega, by go_num, rfl, by omega, by omega, HF.out, HB1.out⟩
            case measure => simp [intOf]; omega
        · have h1' : decide (id ≤ last) = true := decide_eq_true (by omega)
          have HF := hide (show ascF 0 (obs qs) = false by rw [HX.out]; simp [h1])
          clear h1 HO
          go_wp2
          go_ret
          exact ⟨ret_bool (HE.out.trans HF.out).symm, HB.out.trans (HW.out.mono hs)⟩
      · obtain rfl : k = n := by omega
        have HF := hide (show ascF 0 (obs qs) = true by rw [HA.out, List.drop_of_length_le (by rw [obs_length, HR.out.1]; exact Nat.le_refl _)]; rfl)
        go_wp2
        go_ret
        exact ⟨ret_bool (HE.out.trans HF.out).symm, HB.out⟩
end Go.Proofs.Yteeeioiaogogmaa
