/-
  The walk of FnStorePart.
-/
import Derived.Test.YteeeioiaogogmaaDrawO3
import Derived.Test.YteeeioiaogogmaaImpO5
import Derived.Test.YteeeioiaogogmaaStoL
import Derived.Deep.RegionHeld3
namespace Go.Proofs.Yteeeioiaogogmaa
open Go.RowKit
set_option linter.unusedVariables false
set_option maxRecDepth 100000

theorem part_yesO {s : Sto} (h : stV s = true) (k : Nat) : stV (s.take k ++ s.drop (k + 1)) = true := by
  refine stV_sub h ?_
  have h1 : (s.drop (k + 1)).Sublist (s.drop k) := by rw [← List.tail_drop]; exact List.tail_sublist _
  have h2 := (List.Sublist.refl (s.take k)).append h1
  rwa [List.take_append_drop] at h2
theorem part_noO {s : Sto} {k : Nat} (hk : k < s.length) : stV (s.take (k + 1) ++ s.drop k) = false := by
  rcases hv : stV (s.take (k + 1) ++ s.drop k) with _ | _
  · rfl
  · exfalso
    have ha := (stV_iff.1 hv).2.1
    unfold Asc at ha
    have h1 := (List.pairwise_append.1 ha).2.2 s[k] (List.mem_take_iff_getElem.2 ⟨k, by omega, rfl⟩) s[k] (by rw [List.drop_eq_getElem_cons hk]; exact List.mem_cons_self ..)
    omega
theorem RowO.lit0 (w : World) (vb : Nat) : RowO (w.alloc (.cells #[] 35)) w.heap.size vb (some ⟨w.heap.size, 0, none⟩) 0 0 [] :=
  ⟨rfl, (OwnO.lit0 w _ (Nat.le_refl _)).row, by simp⟩
theorem RowO.drew {w : World} {base vb n c : Nat} {A : Option Addr} {qs : List Oq} (h : RowO w base vb A n c qs) : RowO w.drew base vb A n c qs := ⟨h.len, h.row, fun q hq => h.vals q hq⟩
theorem Objs.src {w : World} {B n : Nat} {A : Option Addr} {qs : List Oq} (h : Objs w B A n qs) : 0 < n → ∃ ad, A = some ad ∧ ∀ j u, (flatO qs)[j]? = some u → w.cell? (ad.add j) = some u := fun hn => by
  obtain ⟨ad, e, _, hc⟩ := h.2.1 hn
  exact ⟨ad, e, hc⟩

theorem step_append_row {w : World} {ops : Array Oper} {o : Oper} {a : Act} {K : Act → World → Prop} {Q : Exit → Act → World → Prop} {E : Prop} (hgd : o.guard = none) (s x : Operand)
    (ho : o.op = .call { callee := .builtin .append, args := #[s, x], argTypes := #[23, 23] })
    (base vb n c m d : Nat) (A X : Option Addr) (qs q2 : List Oq) (hs : a.eval s = .slice A n c) (hx : a.eval x = .slice X m d) (hown : RowO w base vb A n c qs)
    (hl : q2.length = m) (hr : 0 < m → ∃ ad, X = some ad ∧ ∀ j u, (flatO q2)[j]? = some u → w.cell? (ad.add j) = some u) (hq : ∀ q ∈ q2, Own w vb q.addr q.vals.length q.cap q.vals)
    (hn : n + m ≤ 100000000000) (hbase : base ≤ w.heap.size)
    (h : ∀ A2 c2 w', RowO w' base vb A2 (n + m) c2 (qs ++ q2) → w.grownBy w' (Value.slice A n c).ownBlock → K (a.put o.dst (.slice A2 (n + m) c2)) w') :
    if Region.wanted o (yielded ops a.tmps) = true then Oper.wp Try.prog o a w K Q else E := by
  have hw : Region.wanted o (yielded ops a.tmps) = true := by simp [Region.wanted, hgd]
  rw [if_pos hw]
  obtain ⟨A2, c2, w', hrun, h2, h3⟩ := run_append_row w base vb n c m d A X qs q2 o.type hown hl hr hq hn hbase
  unfold Oper.wp execOp
  simp only [ho, resolve, invoke, builtin, Sem.run_bind, Sem.run_pure, Result.andThen_ok, List.map_toArray, List.map_cons, List.map_nil, hs, hx, hrun]
  exact h A2 c2 w' h2 h3

set_option maxHeartbeats 6400000 in
theorem storePart_walk (A : Option Addr) (n c : Nat) (bs : Nat → Int) (A' : Option Addr) (n' c' : Nat) (bs' : Nat → Int) (w : World) (hb : Bytes w w.heap.size A n bs) (hn : n ≤ c) (hc : c ≤ maxLen)
    (hb' : Bytes w w.heap.size A' n' bs') (hn1 : n' ≤ c') (hc1 : c' ≤ maxLen) :
    Calls Try.prog 10 #[.slice A n c, .slice A' n' c'] w fun e w' => e = .returned (.bool true) ∧ Below w.heap.size w w' := by
  have hn' : n' ≤ 9223372036854775807 := by unfold maxLen at hc1; omega
  clear hc1 hb'
  by_cases hbig : 1048576 < n
  · go_enter Try.func10, Try.ntmps10
    go_wp2
    go_ret
    exact ⟨rfl, Below.refl _ _⟩
  by_cases hbig' : 1048576 < n'
  · go_enter Try.func10, Try.ntmps10
    go_wp2
    go_ret
    exact ⟨rfl, Below.refl _ _⟩
  · go_enter Try.func10, Try.ntmps10
    go_wp2_with fail
    refine (drawSV_any A n c bs _ hb hn hc).mono ?_
    rintro e w1 ⟨A1, m, c1, qs, rfl, hd⟩
    have HDS := hide hd
    have HB1 := hide hd.below
    have hm := hd.num
    have hmc := hd.nc
    have hcm : c1 ≤ 9223372036854775807 := by have := hd.cm; unfold maxLen at this; omega
    have hs1 := HB1.out.size
    have HP1 := hide (implSV A1 m c1 _ qs w1 hd.objs (Nat.le_refl _) (by omega))
    have HP2 := hide fun (W : World) (h : Below w1.heap.size w1 W) => specSV A1 m c1 _ qs W (hd.objs.below h (Nat.le_refl _)) (by omega)
    clear hb hd
    rcases hv : stV (obs qs) with _ | _
    · rw [hv] at HP1 HP2
      clear hv
      go_wp2_with fail
      refine HP1.out.mono ?_
      rintro e w2 ⟨rfl, hB2⟩
      have HW2 := hide hB2
      clear hB2 HP1
      go_wp2_with fail
      refine (HP2.out _ HW2.out).mono ?_
      rintro e w3 ⟨rfl, rfl⟩
      have HE := hide (HB1.out.trans (HW2.out.mono hs1))
      clear HP2
      go_wp2
      go_ret
      exact ⟨rfl, HE.out⟩
    · rw [hv] at HP1 HP2
      have HV := hide hv
      clear hv
      go_wp2_with fail
      refine HP1.out.mono ?_
      rintro e w2 ⟨rfl, hB2⟩
      have HW2 := hide hB2
      clear hB2 HP1
      go_wp2_with fail
      refine (HP2.out _ HW2.out).mono ?_
      rintro e w3 ⟨rfl, rfl⟩
      have HE := hide (HB1.out.trans (HW2.out.mono hs1))
      clear HP2
      by_cases hm0 : m = 0
      · subst hm0
        go_wp2
        go_ret
        exact ⟨rfl, HE.out⟩
      · have hmn : ¬ (m : Int) = 0 := by omega
        obtain ⟨k, hK⟩ : ∃ k : Nat, (n' : Int) % (m : Int) = (k : Int) := Int.eq_ofNat_of_zero_le (Int.emod_nonneg _ hmn)
        have hkm : k < m := by have := Int.emod_lt_of_pos (n' : Int) (show (0 : Int) < m by omega); omega
        obtain ⟨J, hJ⟩ : ∃ J, k + 1 = J := ⟨_, rfl⟩
        have HQ1 := hide (part_yesO HV.out k)
        have HQ2 := hide (part_noO (s := obs qs) (k := k) (by rw [obs_length, HDS.out.objs.1]; exact hkm))
        rw [hJ] at HQ1 HQ2
        have hJi : (k : Int) + 1 = (J : Int) := by omega
        have b0 : (0 : Int) ≤ (k : Int) := by omega
        have b1 : (k : Int) ≤ (c1 : Int) := by omega
        have b2 : (0 : Int) ≤ (J : Int) := by omega
        have b3 : (J : Int) ≤ (m : Int) := by omega
        have b4 : (m : Int) ≤ (c1 : Int) := by omega
        have b5 : (J : Int) ≤ (c1 : Int) := by omega
        have b6 : (k : Int) ≤ (m : Int) := by omega
        have wJ : IntKind.i64.wrap (J : Int) = (J : Int) := IntWalk.i64_in _ (by omega)
        have HI := hide (HDS.out.objs.below HW2.out (Nat.le_refl _))
        have HVL := hide (fun q hq => (HDS.out.vals q hq).below HW2.out)
        have hw12 := HW2.out.size
        have hQL := HI.out.1
        obtain ⟨ad, hA, _, _⟩ := HI.out.2.1 (by omega)
        subst hA
        have hIK : ∀ W : World, Objs W w1.heap.size (some ad) m qs → Objs W w1.heap.size (some ad) k (qs.take k) := fun W h => h.firsts (by omega)
        have hIJ : ∀ W : World, Objs W w1.heap.size (some ad) m qs → Objs W w1.heap.size (some ad) J (qs.take J) := fun W h => h.firsts (by omega)
        obtain ⟨D1, hD1⟩ : ∃ D1, (if c1 = J then some ad else some (ad.add (J * 2))) = D1 := ⟨_, rfl⟩
        have hID : ∀ W : World, Objs W w1.heap.size (some ad) m qs → Objs W w1.heap.size D1 (m - J) (qs.drop J) := fun W h => by
          have h0 := h.cut (k := J) (m := m) (cap := c1) (by omega) (Nat.le_refl _) hmc
          rw [List.take_of_length_le (by rw [hQL]; exact Nat.le_refl _), Option.map_some, hD1] at h0
          exact h0
        have hcK : ¬ c1 = k := by omega
        have hIE : ∀ W : World, Objs W w1.heap.size (some ad) m qs → Objs W w1.heap.size (some (ad.add (k * 2))) (m - k) (qs.drop k) := fun W h => by
          have h0 := h.cut (k := k) (m := m) (cap := c1) (by omega) (Nat.le_refl _) hmc
          rw [List.take_of_length_le (by rw [hQL]; exact Nat.le_refl _), Option.map_some, if_neg hcK] at h0
          exact h0
        have HIK := hide hIK
        have HIJ := hide hIJ
        have HID := hide hID
        have HIE := hide hIE
        clear hIK hIJ hID hIE hQL
        generalize w2 = W at *
        go_wp2_with fail
        refine wp_region_any (by kernel_rfl) ?_
        try (change wpAny _ _ _ _ _ _ _ (World.drew _))
        refine wpAny_take (i := 1) (v := .slice (some ad) m c1) rfl (by kernel_rfl) (by kernel_rfl) (by kernel_rfl) (fun _ _ _ h => h) (Or.inl ⟨by kernel_rfl, fun w => by first | (go_simp; done) | (go_simp; simp; done) | (go_simp; intro h; omega)⟩) ?_
        refine wpAny_take (i := 2) (v := .int .i64 (k : Int)) rfl (by kernel_rfl) (by kernel_rfl) (by kernel_rfl) (fun _ _ _ h => h) (Or.inl ⟨by kernel_rfl, fun w => by first | (go_simp; done) | (go_simp; simp; done) | (go_simp; intro h; omega)⟩) ?_
        refine wpAny_take (i := 3) (v := .slice (some ad) k c1) rfl (by kernel_rfl) (by kernel_rfl) (by kernel_rfl) (fun _ _ _ h => h) (Or.inl ⟨by kernel_rfl, fun w => by first | (go_simp; done) | (go_simp; simp; done) | (go_simp; intro h; omega)⟩) ?_
        refine wpAny_take (i := 5) (v := .slice (some ad) m c1) rfl (by kernel_rfl) (by kernel_rfl) (by kernel_rfl) (fun _ _ _ h => h) (Or.inl ⟨by kernel_rfl, fun w => by first | (go_simp; done) | (go_simp; simp; done) | (go_simp; intro h; omega)⟩) ?_
        refine wpAny_take (i := 6) (v := .int .i64 (k : Int)) rfl (by kernel_rfl) (by kernel_rfl) (by kernel_rfl) (fun _ _ _ h => h) (Or.inl ⟨by kernel_rfl, fun w => by first | (go_simp; done) | (go_simp; simp; done) | (go_simp; intro h; omega)⟩) ?_
        refine wpAny_take (i := 7) (v := .int .i64 (J : Int)) rfl (by kernel_rfl) (by kernel_rfl) (by kernel_rfl) (fun _ _ _ h => h) (Or.inl ⟨by kernel_rfl, fun w => by first | (go_simp; done) | (go_simp; simp; done) | (go_simp; intro h; omega)⟩) ?_
        refine wpAny_take (i := 8) (v := .slice D1 (m - J) (c1 - J)) rfl (by kernel_rfl) (by kernel_rfl) (by kernel_rfl) (fun _ _ _ h => h) (Or.inl ⟨by kernel_rfl, fun w => by first | (go_simp; done) | (go_simp; simp; done) | (go_simp; intro h; omega)⟩) ?_
        refine wpAny_ready (rs := [0]) (by kernel_rfl) (by simp) ?_
        refine AllReady.cons rfl (fun K' hK => ?_) AllReady.nil
        go_simp
        refine hK _ _ ?_
        clear hK K'
        refine wpAny_ready (rs := [4]) (by kernel_rfl) (by simp) ?_
        refine AllReady.cons rfl (fun K' hK => ?_) AllReady.nil
        refine step_append_row rfl (.tmp 45) (.tmp 48) rfl W.heap.size w.heap.size 0 0 k c1 (some ⟨W.heap.size, 0, none⟩) (some ad) [] (qs.take k) rfl rfl (RowO.lit0 W _).drew (HIK.out _ HI.out).1 (HIK.out _ (HI.out.alloc hw12 _)).src (fun q hq => (HVL.out q (List.mem_of_mem_take hq)).alloc _) (by omega) (by simp) ?_
        intro A15 c15 w15 ho5 hg5
        simp only [Nat.zero_add, List.nil_append] at ho5 ⊢
        have hB5 := below_app0 (Below.refl _ W) (Nat.le_refl _) (grown_undrawn hg5)
        have hs5 := hB5.size
        refine hK _ _ ?_
        clear hK K' hg5
        refine wpAny_ready (rs := [9]) (by kernel_rfl) (by simp) ?_
        refine AllReady.cons rfl (fun K' hK => ?_) AllReady.nil
        refine step_append_row rfl (.tmp 49) (.tmp 53) rfl W.heap.size w.heap.size k c15 (m - J) _ A15 D1 (qs.take k) (qs.drop J) rfl rfl ho5 (HID.out _ (HI.out.below hB5 hw12)).1 (HID.out _ (HI.out.below hB5 hw12)).src (fun q hq => (HVL.out q (List.mem_of_mem_drop hq)).below hB5) (by omega) hs5 ?_
        intro A17 c17 w17 ho7 hg7
        have hB7 := hB5.grown hg7 hs5 (fun q e => (ho5.block q e).1)
        have hs7 := hB7.size
        refine hK _ _ ?_
        clear hK K' hg7 hB5 ho5 hs5
        refine wpAny_take (i := 10) (v := .slice A17 (k + (m - J)) c17) rfl (by kernel_rfl) (by kernel_rfl) (by kernel_rfl) (fun _ _ _ h => h) (Or.inl ⟨by kernel_rfl, fun w => by first | (go_simp; done) | (go_simp; simp; done) | (go_simp; intro h; omega)⟩) ?_
        refine wpAny_done (by kernel_rfl) ?_ _
        have HO7 := hide ho7.objs
        have HB7 := hide hB7
        have HI7 := hide (HI.out.below hB7 hw12)
        have HVL7 := hide (fun q hq => (HVL.out q hq).below hB7)
        have hw17 : w1.heap.size ≤ w17.heap.size := Nat.le_trans hw12 hs7
        clear ho7 hB7
        go_wp2_with fail
        refine wp_region_any (by kernel_rfl) ?_
        try (change wpAny _ _ _ _ _ _ _ (World.drew _))
        refine wpAny_take (i := 1) (v := .slice (some ad) m c1) rfl (by kernel_rfl) (by kernel_rfl) (by kernel_rfl) (fun _ _ _ h => h) (Or.inl ⟨by kernel_rfl, fun w => by first | (go_simp; done) | (go_simp; simp; done) | (go_simp; intro h; omega)⟩) ?_
        refine wpAny_take (i := 2) (v := .int .i64 (k : Int)) rfl (by kernel_rfl) (by kernel_rfl) (by kernel_rfl) (fun _ _ _ h => h) (Or.inl ⟨by kernel_rfl, fun w => by first | (go_simp; done) | (go_simp; simp; done) | (go_simp; intro h; omega)⟩) ?_
        refine wpAny_take (i := 3) (v := .int .i64 (J : Int)) rfl (by kernel_rfl) (by kernel_rfl) (by kernel_rfl) (fun _ _ _ h => h) (Or.inl ⟨by kernel_rfl, fun w => by first | (go_simp; done) | (go_simp; simp; done) | (go_simp; intro h; omega)⟩) ?_
        refine wpAny_take (i := 4) (v := .slice (some ad) J c1) rfl (by kernel_rfl) (by kernel_rfl) (by kernel_rfl) (fun _ _ _ h => h) (Or.inl ⟨by kernel_rfl, fun w => by first | (go_simp; done) | (go_simp; simp; done) | (go_simp; intro h; omega)⟩) ?_
        refine wpAny_take (i := 6) (v := .slice (some ad) m c1) rfl (by kernel_rfl) (by kernel_rfl) (by kernel_rfl) (fun _ _ _ h => h) (Or.inl ⟨by kernel_rfl, fun w => by first | (go_simp; done) | (go_simp; simp; done) | (go_simp; intro h; omega)⟩) ?_
        refine wpAny_take (i := 7) (v := .int .i64 (k : Int)) rfl (by kernel_rfl) (by kernel_rfl) (by kernel_rfl) (fun _ _ _ h => h) (Or.inl ⟨by kernel_rfl, fun w => by first | (go_simp; done) | (go_simp; simp; done) | (go_simp; intro h; omega)⟩) ?_
        refine wpAny_take (i := 8) (v := .slice (some (ad.add (k * 2))) (m - k) (c1 - k)) rfl (by kernel_rfl) (by kernel_rfl) (by kernel_rfl) (fun _ _ _ h => h) (Or.inl ⟨by kernel_rfl, fun w => by first | (go_simp; done) | (go_simp; simp; done) | (go_simp; intro h; omega)⟩) ?_
        refine wpAny_ready (rs := [0]) (by kernel_rfl) (by simp) ?_
        refine AllReady.cons rfl (fun K' hK => ?_) AllReady.nil
        go_simp
        refine hK _ _ ?_
        clear hK K'
        refine wpAny_ready (rs := [5]) (by kernel_rfl) (by simp) ?_
        refine AllReady.cons rfl (fun K' hK => ?_) AllReady.nil
        refine step_append_row rfl (.tmp 55) (.tmp 59) rfl w17.heap.size w.heap.size 0 0 J c1 (some ⟨w17.heap.size, 0, none⟩) (some ad) [] (qs.take J) rfl rfl (RowO.lit0 w17 _).drew (HIJ.out _ HI7.out).1 (HIJ.out _ (HI7.out.alloc hw17 _)).src (fun q hq => (HVL7.out q (List.mem_of_mem_take hq)).alloc _) (by omega) (by simp) ?_
        intro A25 c25 w25 ho5 hg5
        simp only [Nat.zero_add, List.nil_append] at ho5 ⊢
        have hB5 := below_app0 (Below.refl _ w17) (Nat.le_refl _) (grown_undrawn hg5)
        have hs5 := hB5.size
        refine hK _ _ ?_
        clear hK K' hg5
        refine wpAny_ready (rs := [9]) (by kernel_rfl) (by simp) ?_
        refine AllReady.cons rfl (fun K' hK => ?_) AllReady.nil
        refine step_append_row rfl (.tmp 60) (.tmp 63) rfl w17.heap.size w.heap.size J c25 (m - k) _ A25 (some (ad.add (k * 2))) (qs.take J) (qs.drop k) rfl rfl ho5 (HIE.out _ (HI7.out.below hB5 hw17)).1 (HIE.out _ (HI7.out.below hB5 hw17)).src (fun q hq => (HVL7.out q (List.mem_of_mem_drop hq)).below hB5) (by omega) hs5 ?_
        intro A27 c27 w27 ho7 hg7
        have hB7 := hB5.grown hg7 hs5 (fun q e => (ho5.block q e).1)
        refine hK _ _ ?_
        clear hK K' hg7 hB5 ho5 hs5
        refine wpAny_take (i := 10) (v := .slice A27 (J + (m - k)) c27) rfl (by kernel_rfl) (by kernel_rfl) (by kernel_rfl) (fun _ _ _ h => h) (Or.inl ⟨by kernel_rfl, fun w => by first | (go_simp; done) | (go_simp; simp; done) | (go_simp; intro h; omega)⟩) ?_
        refine wpAny_done (by kernel_rfl) ?_ _
        have HX := hide (HO7.out.below hB7 (Nat.le_refl _))
        have hs27 := hB7.size
        have HY := hide ho7.objs
        have HB9 := hide (HB7.out.trans (hB7.mono hs7))
        have HS1 := hide (implSV A17 (k + (m - J)) c17 w17.heap.size _ w27 HX.out hs27 (by omega))
        have HS2 := hide fun (W : World) (h : Below w27.heap.size w27 W) => implSV A27 (J + (m - k)) c27 w27.heap.size _ W (HY.out.below h (Nat.le_refl _)) h.size (by omega)
        rw [obs_append, obs_take, obs_drop, HQ1.out] at HS1
        rw [obs_append, obs_take, obs_drop, HQ2.out] at HS2
        clear ho7 hB7 HX HY HO7 HI7 HVL7 HI HVL HIK HIJ HID HIE
        go_wp2_with fail
        refine HS1.out.mono ?_
        rintro e w28 ⟨rfl, hB28⟩
        have HB28 := hide hB28
        clear hB28
        go_wp2_with fail
        refine (HS2.out _ HB28.out).mono ?_
        rintro e w29 ⟨rfl, hB29⟩
        have HEND := hide (HE.out.trans ((HB9.out.trans ((HB28.out.trans (hB29.mono HB28.out.size)).mono HB9.out.size)).mono HE.out.size))
        clear hB29
        go_wp2
        go_ret
        exact ⟨rfl, HEND.out⟩
end Go.Proofs.Yteeeioiaogogmaa
