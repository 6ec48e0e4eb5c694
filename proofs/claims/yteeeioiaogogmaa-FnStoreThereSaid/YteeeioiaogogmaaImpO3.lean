/-
  The program's shelf.store: the objects of a shelf in the order of their numbers, in new memory.
-/
import Derived.Test.YteeeioiaogogmaaImpO2
import Derived.Test.YteeeioiaogogmaaKeys
namespace Go.Proofs.Yteeeioiaogogmaa
open Go.RowKit Go.Maps
set_option linter.unusedVariables false
set_option maxRecDepth 100000

set_option maxHeartbeats 800000 in
theorem cloneO (A : Option Addr) (n c B : Nat) (xs : List Int) (w : World) (hr : Ints w B A n xs) (hB : B ≤ w.heap.size) (hn : n ≤ 17592186044416) (h0 : A = none → n = 0 ∧ c = 0) :
    Calls Try.prog 41 #[.slice A n c] w fun e w' => ∃ A2 c2, e = .returned (.slice A2 n c2) ∧ Own w' w.heap.size A2 n c2 xs ∧ Below w.heap.size w w' := by
  rcases A with _ | ad
  · obtain ⟨rfl, rfl⟩ := h0 rfl
    have hx : xs = [] := List.eq_nil_of_length_eq_zero hr.1
    subst hx
    have hq := fun (W : World) => Lib.run_eql_slice_nil (P := Try.prog) W 24 3 none 0 0 0 0 Try.underlying24
    go_enter Try.func41, Try.ntmps41
    go_wp2
    go_ret
    exact ⟨_, _, rfl, Own.nil_ _ _, Below.refl _ _⟩
  · have HI := hide hr
    clear hr h0
    have hq := fun (W : World) => Lib.run_eql_slice_nil (P := Try.prog) W 24 3 (some ad) n c 0 0 Try.underlying24
    go_enter Try.func41, Try.ntmps41
    go_wp2_with (at_builtin; refine wpList_append_ints rfl _ _ rfl w.heap.size 0 0 B n c _ _ [] xs rfl (Own.lit0 w _ (Nat.le_refl _)) rfl (HI.out.alloc hB _) (by omega) (by simp) ?_; intro A2 c2 w3 ho3 hg3 hat3; clear hat3; simp only [Nat.zero_add, List.nil_append] at ho3 ⊢)
    go_ret
    exact ⟨_, _, rfl, ho3, below_app0 (Below.refl _ _) (Nat.le_refl _) hg3⟩

theorem info_obj : (Try.prog.info? 35).map (fun i => (i.zero, i.size, i.bytes)) = some (some (.agg #[.int .i64 0, .slice none 0 0]), 2, 32) := by kernel_rfl

theorem midC {w wr w3 : World} {A2 A3 : Option Addr} {k c2 m c3 : Nat} {qs : List Oq} {ws : List Int} (id : Int) (hB : Below w.heap.size w wr) (hown : OwnO wr w.heap.size A2 k c2 qs) (hq : Own w3 wr.heap.size A3 m c3 ws) (hb : Below wr.heap.size wr w3) :
    MidO w wr w3 A2 k c2 qs ⟨id, ws, A3, c3⟩ := by
  have hs := hB.size
  have hl := hq.1
  subst hl
  exact ⟨hown.below hb, hq.mono hs, new_sepO hown (fun g h => (hq.block g h).1), hB.trans (hb.mono hs), fun p v hp h => (hb.cell hp).trans h⟩

set_option maxHeartbeats 3200000 in
theorem implStore (b N B : Nat) (f : Int → Option Value) (t : Sto) (w0 w : World) (hs : Shelf w b N f) (hN : N ≤ 1000000000000) (ht : Tied w0 B f t) (hw : Below B w0 w) (hB : B ≤ w.heap.size) (hl : t.length ≤ 1000000000) (hid : ∀ o ∈ t, 1 ≤ o.1 ∧ o.1 ≤ 999) :
    Calls Try.prog 32 #[.map (some b)] w fun e w' => ∃ A2 m c2 qs2, e = .returned (.slice A2 m c2) ∧ OwnO w' w.heap.size A2 m c2 qs2 ∧ obs qs2 = t ∧ Below w.heap.size w w' := by
  obtain ⟨i0, hi, hz0, hz1, hz2⟩ := info_parts info_obj
  have HD := hide ht.dom
  have hbl := hs.lt
  have HS := hide hs
  have HT := hide (ht.keep (fun p hp => hw.cell hp) : Tied w B f t)
  obtain ⟨n, hn⟩ : ∃ n, t.length = n := ⟨_, rfl⟩
  have hkl : (t.map (·.1)).length = n := by rw [List.length_map, hn]
  have HN := hide hn
  have HKL := hide hkl
  have HID := hide hid
  rw [hn] at hl
  have hb2 : i0.bytes * n ≤ 281474976710656 := by rw [hz2]; omega
  clear hs ht hkl hn hid hw
  go_enter Try.func32, Try.ntmps32
  go_wp2_with (first
    | (at_len; refine wpList_lenS rfl (.tmp 6) rfl b N f (t.map (·.1)) rfl HS.out HD.out n HKL.out ?_)
    | (at_make; refine wpList_make_own _ rfl _ _ 23 rfl w.heap.size 35 i0 (.agg #[.int .i64 0, .slice none 0 0]) 2 Try.underlying23 hi hz0 hz1 .i64 .i64 _ n rfl rfl rfl hb2 (by unfold maxLen; omega) (Nat.le_refl _) ?_; intro w1 hown hgrow; have HO1 := hide (show OwnO w1 w.heap.size (some ⟨w.heap.size, 0, none⟩) 0 n [] from ⟨rfl, hown, by simp, by simp⟩); have HB1 := hide (below_of_grown hgrow); clear hown hgrow)
    | (go_at_call 40; refine (keys_any (some b) w1).mono ?_; rintro e w' ⟨rfl, rfl⟩; have HSO := hide (sorted_any b N f (t.map (·.1)) w1 (HS.out.below HB1.out hbl) HD.out hN); rw [HKL.out] at HSO)
    | (go_at_call 39; refine HSO.out.mono ?_; rintro e w2 ⟨As, cs, rfl, hos, hbs⟩; have HK2 := hide hos; have HB2 := hide (((HB1.out.alloc HB1.out.size _).trans (hbs.mono (Nat.le_succ_of_le HB1.out.size)) : Below w.heap.size w w2)); have HO2 := hide ((HO1.out.alloc (.cells #[.map (some b)] 52)).below (by rw [size_allocS]; exact hbs)); clear hos hbs HSO))
  go_loopw [3, 5, 13] (fun o _ i wr => ∃ (k c2 : Nat) (A2 : Option Addr) (rs : List Oq), k ≤ n ∧ i = .int .i64 k ∧ o = .slice A2 k c2 ∧ Hid (OwnO wr w.heap.size A2 k c2 rs) ∧ Hid (Own wr (w1.heap.size + 1) As n cs (t.map (·.1))) ∧ Hid (obs rs = t.take k) ∧ Hid (Below w.heap.size w wr)) (fun _ _ i _ => n - (RowKit.intOf i).toNat)
  case atStart => exact ⟨0, n, _, [], Nat.zero_le _, rfl, rfl, HO2.out, HK2.out, rfl, HB2.out⟩
  case round =>
    obtain ⟨k, c2, A2, rs, hk, rfl, rfl, HO, HK, HZ, HB⟩ := hrel
    have hsz := HB.out.size
    by_cases hlt : k < n
    · obtain ⟨o, ho⟩ : ∃ o, t[k]? = some o := ⟨_, List.getElem?_eq_getElem (by rw [HN.out]; exact hlt)⟩
      have HZ2 : Hid (t.take (k + 1) = obs rs ++ [o]) := by
        show _ = _
        rw [List.take_add_one, HZ.out, ho]
        rfl
      have hom := List.mem_of_getElem? ho
      obtain ⟨d0, d1⟩ := HID.out o hom
      obtain ⟨Av, cv, hf, hiv, hv1, hv2, hv3, hv4⟩ := HT.out.val o hom
      obtain ⟨ad, rfl, hb, hc⟩ := HK.out.ints.at_ hlt
      have hge : (t.map (·.1)).getD k 0 = o.1 := by simp [List.getD, ho]
      rw [hge] at hc
      clear hge ho hom
      obtain ⟨id, vs⟩ := o
      simp only at hf hiv hv1 hv4 hc d0 d1
      obtain ⟨m, hm⟩ : ∃ m, vs.length = m := ⟨_, rfl⟩
      rw [hm] at hf hiv hv1 hv4
      have HM := hide hm
      have HSW := hide (HS.out.below HB.out hbl)
      have HF := hide (show (f id).getD (.slice none 0 0) = .slice Av m cv by rw [hf]; rfl)
      have HC := hide (cloneO Av m cv B vs wr (hiv.below HB.out hB) (by omega) (by omega) (fun e => by have := hv3 e; omega))
      have k0 : (0 : Int) ≤ (k : Int) := by omega
      have k1 : (k : Int) < (n : Int) := by omega
      have i0' : -9223372036854775808 ≤ id := by omega
      have i1' : id ≤ 9223372036854775807 := by omega
      have hk9 : k + 1 ≤ 100000000000 := by omega
      clear hm hf hiv hv1 hv2 hv3
      go_wp2_with (first
        | (at_lookup; refine wpList_look rfl (.tmp 19) (.tmp 20) rfl b N f rfl HSW.out id (.slice Av m cv) rfl i0' i1' HF.out ?_)
        | (go_at_call 41; refine HC.out.mono ?_; rintro e w3 ⟨A3, c3, rfl, ho3, hb3⟩; have HMID := hide (midC (A3 := A3) (c3 := c3) (m := m) (ws := vs) id HB.out HO.out ho3 hb3); have HKC := hide (HK.out.below hb3); have hbz : w.heap.size ≤ (w3.alloc (.cells #[.int .i64 id, .slice A3 m c3] 35)).heap.size := Nat.le_trans HMID.out.below.size (by rw [size_allocO]; omega); have HZC := hide (HMID.out.news HM.out); clear ho3 hb3)
        | (at_builtin; refine wpList_append_objs rfl (.tmp 17) (.tmp 24) rfl w.heap.size k c2 1 1 A2 (some ⟨w3.heap.size, 0, none⟩) rs [⟨id, vs, A3, c3⟩] rfl rfl HZC.out hk9 hbz ?_; intro A4 c4 w4 ho4 hg4 hat4; have HB4 := hide (below_app_o HMID.out.below HMID.out.below.size HMID.out.own (Nat.le_refl _) hg4); have HK4 := hide ((HKC.out.alloc _).kept hg4 (fun g hg => rows_neO HMID.out.own.row HKC.out.2 (by decide) hg)); have HO4 := hide ho4; clear hat4 hg4 ho4))
      go_roundw
      case rel => exact ⟨k + 1, c4, A4, _, by omega, by go_num, rfl, HO4.out, HK4.out, by show obs (rs ++ [_]) = _; rw [HZ2.out]; simp [obs, Oq.ob], HB4.out⟩
      case measure => simp [RowKit.intOf]; omega
    · obtain rfl : k = n := by omega
      have HE := hide (show obs rs = t by have := HZ.out; rwa [List.take_of_length_le (by rw [HN.out]; exact Nat.le_refl _)] at this)
      go_wp2
      go_ret
      exact ⟨_, _, _, _, rfl, HO.out, HE.out, HB.out⟩
end Go.Proofs.Yteeeioiaogogmaa
