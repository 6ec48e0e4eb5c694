/-
  The program's StorePut, StoreGet, StoreKeep.
-/
import Derived.Test.YteeeioiaogogmaaImpO3
import Derived.Test.YteeeioiaogogmaaSpecO4
namespace Go.Proofs.Yteeeioiaogogmaa
open Go.RowKit Go.Maps
set_option linter.unusedVariables false
set_option maxRecDepth 100000

theorem stV_ids {t : Sto} (h : stV t = true) : ∀ o ∈ t, 1 ≤ o.1 ∧ o.1 ≤ 999 := fun o ho => by
  have := obOk_iff.1 ((stV_iff.1 h).1 o ho)
  exact ⟨this.1, this.2.1⟩
theorem insS_ids {t : Sto} {id : Int} {vs : List Int} (h : ∀ o ∈ t, 1 ≤ o.1 ∧ o.1 ≤ 999) (h1 : inB id 1 999 = true) : ∀ o ∈ insS t id vs, 1 ≤ o.1 ∧ o.1 ≤ 999 := fun o ho => by
  rcases insS_mem.1 ho with rfl | ho
  · exact inB_iff.1 h1
  · exact h o ho

set_option maxHeartbeats 3200000 in
theorem implPutO_no (A X : Option Addr) (n c B C m d : Nat) (id : Int) (qs : List Oq) (vs : List Int) (w : World) (hr : Objs w B A n qs) (hB : B ≤ w.heap.size) (hn : n ≤ 10000000000) (hx : Ints w C X m vs) (hC : C ≤ w.heap.size) (hm : m ≤ 1000000000000) (hno : putOk (obs qs) id vs = false) :
    Calls Try.prog 12 #[.slice A n c, .int .i64 id, .slice X m d] w (StoPostI w 3 []) := by
  rcases hv : stV (obs qs) with _ | _
  · have H1 := hide (implShelf_no A n c B qs w hr hB (by omega) hv)
    clear hr hx hv hno
    go_enter Try.func12, Try.ntmps12
    go_wp2_with (go_at_call 30; refine H1.out.mono ?_; rintro e w1 ⟨rfl, hb1⟩; have HB1 := hide hb1; clear hb1)
    go_ret2
    exact ⟨_, _, _, [], rfl, OwnO.nil_ _ _, rfl, HB1.out⟩
  · have H1 := hide (implShelf_yes A n c B qs w hr hB (by omega) hv)
    have ho : obOk (id, vs) = false := by
      unfold putOk at hno
      unfold obOk
      rw [hv] at hno
      simpa using hno
    have H2 := hide fun (W : World) (h : Below w.heap.size w W) => ho ▸ implOb X m d C id vs W (hx.below h hC) (Nat.le_trans hC h.size) (by unfold maxLen; omega)
    clear hr hx hv hno ho
    go_enter Try.func12, Try.ntmps12
    go_wp2_with (first
      | (go_at_call 30; refine H1.out.mono ?_; rintro e w1 ⟨b, f, rfl, hbb, hsh, hti, hb1⟩; have HB1 := hide hb1; clear hb1 hsh hti)
      | (go_at_call 31; refine (H2.out _ HB1.out).mono ?_; rintro e w2 ⟨rfl, hb2⟩; have HB2 := hide (HB1.out.trans (hb2.mono HB1.out.size)); clear hb2))
    go_ret2
    exact ⟨_, _, _, [], rfl, OwnO.nil_ _ _, rfl, HB2.out⟩

set_option maxHeartbeats 3200000 in
/-- there is such an object -/
theorem implPutO_there (A X : Option Addr) (n c B C m d : Nat) (id : Int) (qs : List Oq) (vs : List Int) (w : World) (hr : Objs w B A n qs) (hB : B ≤ w.heap.size) (hn : n ≤ 10000000000) (hx : Ints w C X m vs) (hC : C ≤ w.heap.size) (hm : m ≤ 1000000000000) (hok : putOk (obs qs) id vs = true) (hh : hasS (obs qs) id = true) :
    Calls Try.prog 12 #[.slice A n c, .int .i64 id, .slice X m d] w (StoPostI w 1 (obs qs)) := by
  obtain ⟨k1, k2, k3⟩ := putOk_iff.1 hok
  have H1 := hide (implShelf_yes A n c B qs w hr hB (by omega) k1)
  have ho : obOk (id, vs) = true := by unfold obOk; rw [k2, k3]; rfl
  have H2 := hide fun (W : World) (h : Below w.heap.size w W) => ho ▸ implOb X m d C id vs W (hx.below h hC) (Nat.le_trans hC h.size) (by unfold maxLen; omega)
  obtain ⟨i0, i1⟩ := inB_iff.1 k2
  have i0' : -9223372036854775808 ≤ id := by omega
  have i1' : id ≤ 9223372036854775807 := by omega
  have HID := hide (stV_ids k1)
  have HL6 := hide (show (obs qs).length ≤ 6 from (stV_iff.1 k1).2.2)
  have HH := hide hh
  clear hr hx hok hh ho k1 k2 k3
  go_enter Try.func12, Try.ntmps12
  go_wp2_with (first
    | (go_at_call 30; refine H1.out.mono ?_; rintro e w1 ⟨b, f, rfl, hbb, hsh, hti, hb1⟩; have HB1 := hide hb1; have HS1 := hide hsh; have HT1 := hide hti; have HF := hide (show (f id).isSome = true from (hti.mem id).trans HH.out); obtain ⟨v0, hv0⟩ : ∃ v0, (f id).getD (.slice none 0 0) = v0 := ⟨_, rfl⟩; have HV0 := hide hv0; clear hb1 hsh hti hv0)
    | (go_at_call 31; refine (H2.out _ HB1.out).mono ?_; rintro e w2 ⟨rfl, hb2⟩; have HB2 := hide (HB1.out.trans (hb2.mono HB1.out.size)); have HS2 := hide (HS1.out.below hb2 HS1.out.lt); clear hb2)
    | (at_lookup; refine wpList_look_ok rfl (.tmp 27) (.tmp 28) rfl b 6 f rfl HS2.out id v0 true rfl i0' i1' HV0.out HF.out ?_)
    | (go_at_call 32; refine (implStore b 6 B f (obs qs) w _ HS2.out (by omega) HT1.out (HB2.out.mono hB) (Nat.le_trans hB HB2.out.size) (by have := HL6.out; omega) HID.out).mono ?_; rintro e w3 ⟨A3, m3, c3, qs3, rfl, ho3, hz3, hb3⟩; have HO3 := hide (ho3.mono HB2.out.size); have HZ3 := hide hz3; have HB3 := hide (HB2.out.trans (hb3.mono HB2.out.size)); clear ho3 hz3 hb3))
  go_ret2
  exact ⟨_, _, _, _, rfl, HO3.out, HZ3.out, HB3.out⟩

set_option maxHeartbeats 3200000 in
/-- there are too many -/
theorem implPutO_full (A X : Option Addr) (n c B C m d : Nat) (id : Int) (qs : List Oq) (vs : List Int) (w : World) (hr : Objs w B A n qs) (hB : B ≤ w.heap.size) (hn : n ≤ 10000000000) (hx : Ints w C X m vs) (hC : C ≤ w.heap.size) (hm : m ≤ 1000000000000) (hok : putOk (obs qs) id vs = true) (hh : hasS (obs qs) id = false) (hl : 6 ≤ (obs qs).length) :
    Calls Try.prog 12 #[.slice A n c, .int .i64 id, .slice X m d] w (StoPostI w 2 (obs qs)) := by
  obtain ⟨k1, k2, k3⟩ := putOk_iff.1 hok
  have H1 := hide (implShelf_yes A n c B qs w hr hB (by omega) k1)
  have ho : obOk (id, vs) = true := by unfold obOk; rw [k2, k3]; rfl
  have H2 := hide fun (W : World) (h : Below w.heap.size w W) => ho ▸ implOb X m d C id vs W (hx.below h hC) (Nat.le_trans hC h.size) (by unfold maxLen; omega)
  obtain ⟨i0, i1⟩ := inB_iff.1 k2
  have i0' : -9223372036854775808 ≤ id := by omega
  have i1' : id ≤ 9223372036854775807 := by omega
  have HID := hide (stV_ids k1)
  have HL6 := hide (show ((obs qs).map (·.1)).length = 6 by have := (stV_iff.1 k1).2.2; rw [List.length_map]; omega)
  have HH := hide hh
  clear hr hx hok hh ho k1 k2 k3 hl
  go_enter Try.func12, Try.ntmps12
  go_wp2_with (first
    | (go_at_call 30; refine H1.out.mono ?_; rintro e w1 ⟨b, f, rfl, hbb, hsh, hti, hb1⟩; have HB1 := hide hb1; have HS1 := hide hsh; have HT1 := hide hti; have HD1 := hide hti.dom; have HF := hide (show (f id).isSome = false from (hti.mem id).trans HH.out); obtain ⟨v0, hv0⟩ : ∃ v0, (f id).getD (.slice none 0 0) = v0 := ⟨_, rfl⟩; have HV0 := hide hv0; clear hb1 hsh hti hv0)
    | (go_at_call 31; refine (H2.out _ HB1.out).mono ?_; rintro e w2 ⟨rfl, hb2⟩; have HB2 := hide (HB1.out.trans (hb2.mono HB1.out.size)); have HS2 := hide (HS1.out.below hb2 HS1.out.lt); clear hb2)
    | (at_lookup; refine wpList_look_ok rfl (.tmp 27) (.tmp 28) rfl b 6 f rfl HS2.out id v0 false rfl i0' i1' HV0.out HF.out ?_)
    | (at_len; refine wpList_lenS rfl (.tmp 35) rfl b 6 f _ rfl HS2.out HD1.out 6 HL6.out ?_)
    | (go_at_call 32; refine (implStore b 6 B f (obs qs) w _ HS2.out (by omega) HT1.out (HB2.out.mono hB) (Nat.le_trans hB HB2.out.size) (by have := HL6.out; rw [List.length_map] at this; omega) HID.out).mono ?_; rintro e w3 ⟨A3, m3, c3, qs3, rfl, ho3, hz3, hb3⟩; have HO3 := hide (ho3.mono HB2.out.size); have HZ3 := hide hz3; have HB3 := hide (HB2.out.trans (hb3.mono HB2.out.size)); clear ho3 hz3 hb3))
  go_ret2
  exact ⟨_, _, _, _, rfl, HO3.out, HZ3.out, HB3.out⟩

set_option maxHeartbeats 3200000 in
/-- a further object -/
theorem implPutO_new (A X : Option Addr) (n c B C m d : Nat) (id : Int) (qs : List Oq) (vs : List Int) (w : World) (hr : Objs w B A n qs) (hB : B ≤ w.heap.size) (hn : n ≤ 10000000000) (hx : Ints w C X m vs) (hC : C ≤ w.heap.size) (hm : m ≤ 1000000000000) (hmd : m ≤ d) (hd : d ≤ maxLen) (hX : X = none → d = 0) (hok : putOk (obs qs) id vs = true) (hh : hasS (obs qs) id = false) (hl : (obs qs).length < 6) :
    Calls Try.prog 12 #[.slice A n c, .int .i64 id, .slice X m d] w (StoPostI w 0 (insS (obs qs) id vs)) := by
  obtain ⟨k1, k2, k3⟩ := putOk_iff.1 hok
  have H1 := hide (implShelf_yes A n c w.heap.size qs w (hr.more hB) (Nat.le_refl _) (by omega) k1)
  have ho : obOk (id, vs) = true := by unfold obOk; rw [k2, k3]; rfl
  have H2 := hide fun (W : World) (h : Below w.heap.size w W) => ho ▸ implOb X m d C id vs W (hx.below h hC) (Nat.le_trans hC h.size) (by unfold maxLen; omega)
  obtain ⟨i0, i1⟩ := inB_iff.1 k2
  have i0' : -9223372036854775808 ≤ id := by omega
  have i1' : id ≤ 9223372036854775807 := by omega
  have HID := hide (insS_ids (vs := vs) (stV_ids k1) k2)
  have HL6 := hide hl
  obtain ⟨l, hll⟩ : ∃ l, ((obs qs).map (·.1)).length = l := ⟨_, rfl⟩
  have hl6' : ((l : Int) == 6) = false := by rw [← hll, List.length_map]; simp; omega
  have HLL := hide hll
  have hm6 : m ≤ 6 := by rw [← hx.1]; exact (valsOk_len k3).2
  have HX := hide (hx.more hC)
  have HMD := hide (And.intro hmd (And.intro hd hX))
  have HH := hide hh
  clear hr hx hok hh ho k1 k2 k3 hl hX hd hmd hll
  go_enter Try.func12, Try.ntmps12
  go_wp2_with (first
    | (go_at_call 30; refine H1.out.mono ?_; rintro e w1 ⟨b, f, rfl, hbb, hsh, hti, hb1⟩; have HB1 := hide hb1; have HS1 := hide hsh; have HT1 := hide hti; have HD1 := hide hti.dom; have HF := hide (show (f id).isSome = false from (hti.mem id).trans HH.out); obtain ⟨v0, hv0⟩ : ∃ v0, (f id).getD (.slice none 0 0) = v0 := ⟨_, rfl⟩; have HV0 := hide hv0; clear hb1 hsh hti hv0)
    | (go_at_call 31; refine (H2.out _ HB1.out).mono ?_; rintro e w2 ⟨rfl, hb2⟩; have HB2 := hide (HB1.out.trans (hb2.mono HB1.out.size)); have HS2 := hide (HS1.out.below hb2 HS1.out.lt); clear hb2)
    | (at_lookup; refine wpList_look_ok rfl (.tmp 27) (.tmp 28) rfl b 6 f rfl HS2.out id v0 false rfl i0' i1' HV0.out HF.out ?_)
    | (at_len; refine wpList_lenS rfl (.tmp 35) rfl b 6 f _ rfl HS2.out HD1.out l HLL.out ?_)
    | (at_mapUpdate; refine wpList_put rfl (.tmp 40) (.tmp 41) (.tmp 42) rfl b 6 f rfl HS2.out (by omega) id (.slice X m d) rfl rfl i0' i1' ?_; intro w4 hsh4 hg4; have HS4 := hide hsh4; have HB4 := hide (HB2.out.grown hg4 HB2.out.size (fun g hg => by injection hg with hg; omega)); have HT4 := hide (HT1.out.ins (vs := vs) HH.out HX.out.1 HX.out HMD.out.1 HMD.out.2.1 HMD.out.2.2 hm6); clear hsh4 hg4)
    | (go_at_call 32; refine (implStore b 7 w.heap.size _ (insS (obs qs) id vs) w _ HS4.out (by omega) HT4.out HB4.out HB4.out.size (by rw [insS_length]; have := HL6.out; omega) HID.out).mono ?_; rintro e w3 ⟨A3, m3, c3, qs3, rfl, ho3, hz3, hb3⟩; have HO3 := hide (ho3.mono HB4.out.size); have HZ3 := hide hz3; have HB3 := hide (HB4.out.trans (hb3.mono HB4.out.size)); clear ho3 hz3 hb3))
  go_ret2
  exact ⟨_, _, _, _, rfl, HO3.out, HZ3.out, HB3.out⟩

theorem implPutO (A X : Option Addr) (n c B C m d : Nat) (id : Int) (qs : List Oq) (vs : List Int) (w : World) (hr : Objs w B A n qs) (hB : B ≤ w.heap.size) (hn : n ≤ 10000000000) (hx : Ints w C X m vs) (hC : C ≤ w.heap.size) (hm : m ≤ 1000000000000) (hmd : m ≤ d) (hd : d ≤ maxLen) (hX : X = none → d = 0) :
    Calls Try.prog 12 #[.slice A n c, .int .i64 id, .slice X m d] w (StoPostI w (putN (obs qs) id vs) (putS (obs qs) id vs)) := by
  rcases putN_cases (obs qs) id vs with ⟨h1, h2, h3⟩ | ⟨h1, h0, h2, h3⟩ | ⟨h1, h0, h4, h2, h3⟩ | ⟨h1, h0, h4, h2, h3⟩
  · rw [h2, h3]; exact implPutO_no A X n c B C m d id qs vs w hr hB hn hx hC hm h1
  · rw [h2, h3]; exact implPutO_there A X n c B C m d id qs vs w hr hB hn hx hC hm h1 h0
  · rw [h2, h3]; exact implPutO_full A X n c B C m d id qs vs w hr hB hn hx hC hm h1 h0 h4
  · rw [h2, h3]; exact implPutO_new A X n c B C m d id qs vs w hr hB hn hx hC hm hmd hd hX h1 h0 h4
end Go.Proofs.Yteeeioiaogogmaa
