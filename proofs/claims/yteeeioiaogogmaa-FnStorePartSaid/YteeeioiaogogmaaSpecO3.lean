/-
  The model's StorePut.
-/
import Derived.Test.YteeeioiaogogmaaSpecO2
namespace Go.Proofs.Yteeeioiaogogmaa
open Go.RowKit
set_option linter.unusedVariables false
set_option maxRecDepth 100000

/-- a store and a number -/
def StoPostI (w : World) (v : Int) (t : Sto) (e : Ending) (w' : World) : Prop :=
  ∃ A2 m c2 qs2, e = .returned (.tuple #[.slice A2 m c2, .int .i64 v]) ∧ OwnO w' w.heap.size A2 m c2 qs2 ∧ obs qs2 = t ∧ Below w.heap.size w w'
/-- a store and whether it could be done -/
def StoPost (w : World) (v : Bool) (t : Sto) (e : Ending) (w' : World) : Prop :=
  ∃ A2 m c2 qs2, e = .returned (.tuple #[.slice A2 m c2, .bool v]) ∧ OwnO w' w.heap.size A2 m c2 qs2 ∧ obs qs2 = t ∧ Below w.heap.size w w'

theorem stV_len {qs : List Oq} (h : stV (obs qs) = true) : qs.length ≤ 6 ∧ ∀ q ∈ qs, q.vals.length ≤ 6 := by
  obtain ⟨h1, _, h3⟩ := stV_iff.1 h
  refine ⟨by rwa [obs_length] at h3, fun q hq => ?_⟩
  have := (obOk_iff.1 (h1 q.ob (List.mem_map_of_mem hq))).2.2
  exact (valsOk_len this).2

set_option maxHeartbeats 1600000 in
/-- invalid arguments -/
theorem specPutO_no (A X : Option Addr) (n c B C m d : Nat) (id : Int) (qs : List Oq) (vs : List Int) (w : World) (hr : Objs w B A n qs) (hn : n ≤ 10000000000) (hx : Ints w C X m vs) (hm : m ≤ 1000000000000) (hno : putOk (obs qs) id vs = false) :
    Calls Try.prog 13 #[.slice A n c, .int .i64 id, .slice X m d] w (StoPostI w 3 []) := by
  have H1 := hide (specSV A n c B qs w hr (by omega))
  have H2 := hide (in_any id 1 999 w)
  have H3 := hide (specVals X m d C vs w hx (by unfold maxLen; omega))
  clear hr hx
  unfold putOk at hno
  generalize stV (obs qs) = v1 at H1 hno
  generalize inB id 1 999 = v2 at H2 hno
  generalize valsOk vs = v3 at H3 hno
  rcases v1 with _ | _
  · clear hno H2 H3
    go_enter Try.func13, Try.ntmps13
    go_wp2_with (go_at_call 25; refine H1.out.mono ?_; rintro e w1 ⟨rfl, rfl⟩)
    go_ret2
    exact ⟨_, _, _, [], rfl, OwnO.lit0 w w.heap.size (Nat.le_refl _), rfl, below_new w _⟩
  · rcases v2 with _ | _
    · clear hno H3
      go_enter Try.func13, Try.ntmps13
      go_wp2_with (first
        | (go_at_call 25; refine H1.out.mono ?_; rintro e w1 ⟨rfl, rfl⟩)
        | (go_at_call 33; refine H2.out.mono ?_; rintro e w1 ⟨rfl, rfl⟩))
      go_ret2
      exact ⟨_, _, _, [], rfl, OwnO.lit0 w w.heap.size (Nat.le_refl _), rfl, below_new w _⟩
    · obtain rfl : v3 = false := by simpa using hno
      clear hno
      go_enter Try.func13, Try.ntmps13
      go_wp2_with (first
        | (go_at_call 25; refine H1.out.mono ?_; rintro e w1 ⟨rfl, rfl⟩)
        | (go_at_call 33; refine H2.out.mono ?_; rintro e w1 ⟨rfl, rfl⟩)
        | (go_at_call 34; refine H3.out.mono ?_; rintro e w1 ⟨rfl, rfl⟩))
      go_ret2
      exact ⟨_, _, _, [], rfl, OwnO.lit0 w w.heap.size (Nat.le_refl _), rfl, below_new w _⟩

/-- what the checks of a put tell -/
structure PutIn (A X : Option Addr) (n c m d : Nat) (id : Int) (qs : List Oq) (w : World) : Prop where
  valid : Calls Try.prog 25 #[.slice A n c] w fun e w' => e = .returned (.bool true) ∧ w = w'
  num : Calls Try.prog 33 #[.int .i64 id, .int .i64 1, .int .i64 999] w fun e w' => e = .returned (.bool true) ∧ w = w'
  vals : Calls Try.prog 34 #[.slice X m d] w fun e w' => e = .returned (.bool true) ∧ w = w'
  find : Calls Try.prog 35 #[.slice A n c, .int .i64 id] w fun e w' => e = .returned (.int .i64 (findF 0 (obs qs) id)) ∧ w = w'
theorem putIn {A X : Option Addr} {n c B C m d : Nat} {id : Int} {qs : List Oq} {vs : List Int} {w : World} (hr : Objs w B A n qs) (hn : n ≤ 10000000000) (hx : Ints w C X m vs) (hm : m ≤ 1000000000000) (hok : putOk (obs qs) id vs = true) : PutIn A X n c m d id qs w := by
  obtain ⟨h1, h2, h3⟩ := putOk_iff.1 hok
  exact ⟨h1 ▸ specSV A n c B qs w hr (by omega), h2 ▸ in_any id 1 999 w, h3 ▸ specVals X m d C vs w hx (by unfold maxLen; omega), specFind A n c B id qs w hr (by omega)⟩

set_option maxHeartbeats 1600000 in
/-- there is such an object -/
theorem specPutO_there (A X : Option Addr) (n c B C m d : Nat) (id : Int) (qs : List Oq) (vs : List Int) (w : World) (hr : Objs w B A n qs) (hB : B ≤ w.heap.size) (hn : n ≤ 10000000000) (hx : Ints w C X m vs) (hm : m ≤ 1000000000000) (hok : putOk (obs qs) id vs = true) (hh : hasS (obs qs) id = true) :
    Calls Try.prog 13 #[.slice A n c, .int .i64 id, .slice X m d] w (StoPostI w 1 (obs qs)) := by
  have HP := hide (putIn (c := c) (d := d) hr hn hx hm hok)
  have HC := hide (specCopyO A n c B qs w hr hB hn (fun q hq => Nat.le_trans ((stV_len (putOk_iff.1 hok).1).2 q hq) (by decide)))
  obtain ⟨i, o, hf, _⟩ := findF_yes (obs qs) id 0 hh
  rw [Nat.zero_add] at hf
  have HF := hide (hf ▸ HP.out.find)
  clear hr hx hok hh hf
  go_enter Try.func13, Try.ntmps13
  go_wp2_with (first
    | (go_at_call 25; refine HP.out.valid.mono ?_; rintro e w1 ⟨rfl, rfl⟩)
    | (go_at_call 33; refine HP.out.num.mono ?_; rintro e w1 ⟨rfl, rfl⟩)
    | (go_at_call 34; refine HP.out.vals.mono ?_; rintro e w1 ⟨rfl, rfl⟩)
    | (go_at_call 35; refine HF.out.mono ?_; rintro e w1 ⟨rfl, rfl⟩)
    | (go_at_call 36; refine HC.out.mono ?_; rintro e w1 ⟨A2, c2, qs2, rfl, ho, hz, hb⟩; have HO := hide ho; have HZ := hide hz; have HB := hide hb; clear ho hz hb))
  go_ret2
  exact ⟨_, _, _, _, rfl, HO.out, HZ.out, HB.out⟩

set_option maxHeartbeats 1600000 in
/-- there are too many -/
theorem specPutO_full (A X : Option Addr) (n c B C m d : Nat) (id : Int) (qs : List Oq) (vs : List Int) (w : World) (hr : Objs w B A n qs) (hB : B ≤ w.heap.size) (hn : n ≤ 10000000000) (hx : Ints w C X m vs) (hm : m ≤ 1000000000000) (hok : putOk (obs qs) id vs = true) (hh : hasS (obs qs) id = false) (hl : 6 ≤ n) :
    Calls Try.prog 13 #[.slice A n c, .int .i64 id, .slice X m d] w (StoPostI w 2 (obs qs)) := by
  have HP := hide (putIn (c := c) (d := d) hr hn hx hm hok)
  have HC := hide (specCopyO A n c B qs w hr hB hn (fun q hq => Nat.le_trans ((stV_len (putOk_iff.1 hok).1).2 q hq) (by decide)))
  have HF := hide (findF_no (obs qs) id 0 hh ▸ HP.out.find)
  have hl' : (6 : Int) ≤ (n : Int) := by omega
  clear hr hx hok hh
  go_enter Try.func13, Try.ntmps13
  go_wp2_with (first
    | (go_at_call 25; refine HP.out.valid.mono ?_; rintro e w1 ⟨rfl, rfl⟩)
    | (go_at_call 33; refine HP.out.num.mono ?_; rintro e w1 ⟨rfl, rfl⟩)
    | (go_at_call 34; refine HP.out.vals.mono ?_; rintro e w1 ⟨rfl, rfl⟩)
    | (go_at_call 35; refine HF.out.mono ?_; rintro e w1 ⟨rfl, rfl⟩)
    | (go_at_call 36; refine HC.out.mono ?_; rintro e w1 ⟨A2, c2, qs2, rfl, ho, hz, hb⟩; have HO := hide ho; have HZ := hide hz; have HB := hide hb; clear ho hz hb))
  go_ret2
  exact ⟨_, _, _, _, rfl, HO.out, HZ.out, HB.out⟩

set_option maxHeartbeats 3200000 in
/-- a further object -/
theorem specPutO_new (A X : Option Addr) (n c B C m d : Nat) (id : Int) (qs : List Oq) (vs : List Int) (w : World) (hr : Objs w B A n qs) (hB : B ≤ w.heap.size) (hnc : n ≤ c) (hc : c ≤ maxLen) (hx : Ints w C X m vs) (hC : C ≤ w.heap.size) (hm : m ≤ 1000000000000) (hok : putOk (obs qs) id vs = true) (hh : hasS (obs qs) id = false) (hl : n < 6) :
    Calls Try.prog 13 #[.slice A n c, .int .i64 id, .slice X m d] w (StoPostI w 0 (insS (obs qs) id vs)) := by
  have HP := hide (putIn (c := c) (d := d) hr (by omega) hx hm hok)
  have HF := hide (findF_no (obs qs) id 0 hh ▸ HP.out.find)
  have hlq := (stV_len (putOk_iff.1 hok).1).2
  have HE := hide (insS_cut (obs qs) id vs)
  have HX := hide hx
  have HR := hide hr
  have hl' : (n : Int) < 6 := by omega
  obtain ⟨K, hK⟩ : ∃ K, cntS (obs qs) id = K := ⟨_, rfl⟩
  have hKn : K ≤ n := by rw [← hK, ← hr.1, ← obs_length]; exact cntS_le _ _
  have HLT := hide fun (k : Nat) (q : Oq) (hq : qs[k]? = some q) (h : k < K) => (by rw [← hK] at h; exact cntS_at (obs_get hq) h : q.id < id)
  have HGE := hide fun (q : Oq) (hq : qs[K]? = some q) => (by rw [← hK] at hq; exact Int.not_lt.1 (cntS_end (obs_get hq)) : id ≤ q.id)
  rw [hK] at HE
  have HC1 := hide (specCopyO A K c B (qs.take K) w (hr.firsts hKn) hB (by omega) (fun q hq => Nat.le_trans (hlq q (List.mem_of_mem_take hq)) (by decide)))
  have HD := hide (hr.cut (k := K) (m := n) (cap := c) hKn (Nat.le_refl _) hnc)
  have HLQ := hide hlq
  clear hr hx hok hh hK hlq
  unfold maxLen at hc
  go_enter Try.func13, Try.ntmps13
  go_wp2_with (first
    | (go_at_call 25; refine HP.out.valid.mono ?_; rintro e w1 ⟨rfl, rfl⟩)
    | (go_at_call 33; refine HP.out.num.mono ?_; rintro e w1 ⟨rfl, rfl⟩)
    | (go_at_call 34; refine HP.out.vals.mono ?_; rintro e w1 ⟨rfl, rfl⟩)
    | (go_at_call 35; refine HF.out.mono ?_; rintro e w1 ⟨rfl, rfl⟩))
  go_loop [8] (fun i => ∃ (k : Nat), k ≤ K ∧ i = .int .i64 k) (fun i => n - (intOf i).toNat)
  case atStart => exact ⟨0, Nat.zero_le _, rfl⟩
  case round =>
    obtain ⟨k, hk, rfl⟩ := hrel
    have k0 : (0 : Int) ≤ (k : Int) := by omega
    by_cases hlt : k < K
    · obtain ⟨q, hq⟩ : ∃ q, qs[k]? = some q := ⟨_, List.getElem?_eq_getElem (by rw [HR.out.1]; omega)⟩
      obtain ⟨ad, p, rfl, hp, hb, hc0, hc1⟩ := HR.out.at_ hq
      have hid := HLT.out k q hq hlt
      have k1 : (k : Int) < (n : Int) := by omega
      clear hq hc1
      generalize q.id = y at hc0 hid
      go_wp2
      go_round
      case rel => exact ⟨k + 1, by omega, by go_num⟩
      case measure => simp [intOf]; omega
    · obtain rfl : k = K := by omega
      have HKQ : Hid ((k < n ∧ ∃ ad p y, A = some ad ∧ ad.add (k * 2) = p ∧ p.block < B ∧ w.cell? p = some (.int .i64 y) ∧ id ≤ y) ∨ k = n) := by
        rcases Nat.lt_or_ge k n with h | h
        · obtain ⟨q, hq⟩ : ∃ q, qs[k]? = some q := ⟨_, List.getElem?_eq_getElem (by rw [HR.out.1]; omega)⟩
          obtain ⟨ad, p, e, hp, hb, hc0, hc1⟩ := HR.out.at_ hq
          exact .inl ⟨h, ad, p, q.id, e, hp, hb, hc0, HGE.out q hq⟩
        · exact .inr (by omega)
      have HQ0 := hide fun (w1 : World) (h : w.heap.size ≤ w1.heap.size) => Own.lit0 w1 w.heap.size h
      obtain ⟨D, hD⟩ : ∃ D, (if c = k then A else Option.map (fun x => x.add (k * 2)) A) = D := ⟨_, rfl⟩
      obtain ⟨l, hl2⟩ : ∃ l, n - k = l := ⟨_, rfl⟩
      have HDD := hide (show Objs w B D l ((qs.take n).drop k) from hl2 ▸ hD ▸ HD.out)
      have HTN : Hid (qs.take n = qs) := List.take_of_length_le (by rw [HR.out.1]; exact Nat.le_refl _)
      have HE2 : Hid (insS (obs qs) id vs = obs (qs.take k) ++ [(id, vs)] ++ obs ((qs.take n).drop k)) := by show _ = _; rw [HTN.out, HE.out, obs_take, obs_drop]
      have HC2 := hide fun (W : World) (cc : Nat) (h : Below w.heap.size w W) => specCopyO D l cc B ((qs.take n).drop k) W (HDD.out.below h hB) (Nat.le_trans hB h.size) (by omega) (fun q hq => Nat.le_trans (HLQ.out q (List.mem_of_mem_take (List.mem_of_mem_drop hq))) (by decide))
      have hkn1 : k + 1 ≤ 100000000000 := by omega
      have hkn2 : k + 1 + l ≤ 100000000000 := by omega
      clear HD HF HP HLT HGE
      rcases HKQ.out with ⟨hkn, ad, p, y, rfl, hp, hb, hc0, hyn⟩ | rfl
      case' inl =>
        have hy0 : decide (y < id) = false := decide_eq_false (by omega)
        have k1 : (k : Int) < (n : Int) := by omega
        obtain rfl : some p = D := by rw [← hD, if_neg (by omega), ← hp]; rfl
        clear hyn hD
        go_wp2_with fail
      case' inr =>
        obtain rfl : l = 0 := by omega
        clear hl2
        rcases A with _ | ad
        case' none =>
          obtain rfl : none = D := by simpa using hD
          clear hD
          go_wp2_with fail
        case' some =>
          simp only [Option.map_some] at hD
          go_wp2_with fail
      all_goals
        refine HC1.out.mono ?_
        rintro e w1 ⟨A2, c2, qs2, rfl, ho, hz, hb1⟩
        have HO := hide ho
        have HZ := hide hz
        have HB := hide hb1
        have hs1 := hb1.size
        have HX1 := hide (HX.out.below hb1 hC)
        have HXA := hide (HX1.out.alloc (Nat.le_trans hC hs1) (.cells #[] 3))
        have hbs : w.heap.size ≤ (w1.alloc (.cells #[] 3)).heap.size := by rw [size_allocO]; omega
        have hnm : 0 + m ≤ 17592186044416 := by omega
        clear ho hz hb1
        go_wp2_with (first
          | (at_builtin; refine wpList_append_ints rfl (.tmp 57) (.tmp 58) rfl w.heap.size 0 0 C m d (some ⟨w1.heap.size, 0, none⟩) X [] vs rfl (HQ0.out w1 hs1) rfl HXA.out hnm hbs ?_; intro A3 c3 w3 ho3 hg3 hat3; simp only [Nat.zero_add, List.nil_append] at ho3 hat3 ⊢; have HMID := hide (midO (A3 := A3) (c3 := c3) (m := m) (ws := vs) id HB.out HO.out ho3 hg3 hat3); have HVL := hide ho3.1; have hbz : w.heap.size ≤ (w3.alloc (.cells #[.int .i64 id, .slice A3 m c3] 35)).heap.size := Nat.le_trans HMID.out.below.size (by rw [size_allocO]; omega); have HZC := hide (HMID.out.news HVL.out); clear hat3 hg3 ho3)
          | (at_builtin; refine wpList_append_objs rfl (.tmp 55) (.tmp 61) rfl w.heap.size k c2 1 1 A2 (some ⟨w3.heap.size, 0, none⟩) qs2 [⟨id, vs, A3, c3⟩] rfl rfl HZC.out hkn1 hbz ?_; intro A4 c4 w4 ho4 hg4 hat4; have HB4 := hide (below_app_o HMID.out.below HMID.out.below.size HMID.out.own (Nat.le_refl _) hg4); have HO4 := hide ho4; clear hat4 hg4 ho4)
          | (go_at_call 36; refine (HC2.out w4 _ HB4.out).mono ?_; rintro e w5 ⟨A5, c5, qs5, rfl, ho5, hz5, hb5⟩; have HNW := hide (News.row HO4.out ho5 hb5 HB4.out.size); have HB5 := hide (HB4.out.trans (hb5.mono HB4.out.size)); have HZ5 := hide hz5; have hs5 := HB5.out.size; clear ho5 hz5 hb5)
          | (at_builtin; refine wpList_append_objs rfl (.tmp 63) (.tmp 67) rfl w.heap.size (k + 1) c4 _ c5 A4 A5 (qs2 ++ [⟨id, vs, A3, c3⟩]) qs5 rfl rfl HNW.out hkn2 hs5 ?_; intro A6 c6 w6 ho6 hg6 hat6; have HB6 := hide (HB5.out.grown hg6 hs5 (fun g hg => (HNW.out.own.block g hg).1)); have HO6 := hide ho6; clear hat6 hg6 ho6))
        go_ret2
        exact ⟨_, _, _, _, rfl, HO6.out, by rw [obs_append, obs_append, HZ.out, HZ5.out, HE2.out]; rfl, HB6.out⟩
theorem specPutO (A X : Option Addr) (n c B C m d : Nat) (id : Int) (qs : List Oq) (vs : List Int) (w : World) (hr : Objs w B A n qs) (hB : B ≤ w.heap.size) (hn : n ≤ 10000000000) (hnc : n ≤ c) (hc : c ≤ maxLen) (hx : Ints w C X m vs) (hC : C ≤ w.heap.size) (hm : m ≤ 1000000000000) :
    Calls Try.prog 13 #[.slice A n c, .int .i64 id, .slice X m d] w (StoPostI w (putN (obs qs) id vs) (putS (obs qs) id vs)) := by
  rcases putN_cases (obs qs) id vs with ⟨h1, h2, h3⟩ | ⟨h1, h0, h2, h3⟩ | ⟨h1, h0, h4, h2, h3⟩ | ⟨h1, h0, h4, h2, h3⟩
  · rw [h2, h3]; exact specPutO_no A X n c B C m d id qs vs w hr hn hx hm h1
  · rw [h2, h3]; exact specPutO_there A X n c B C m d id qs vs w hr hB hn hx hm h1 h0
  · rw [h2, h3]; exact specPutO_full A X n c B C m d id qs vs w hr hB hn hx hm h1 h0 (by rwa [obs_length, hr.1] at h4)
  · rw [h2, h3]; exact specPutO_new A X n c B C m d id qs vs w hr hB hnc hc hx hC hm h1 h0 (by rwa [obs_length, hr.1] at h4)
end Go.Proofs.Yteeeioiaogogmaa
