/-
  The walk of FnExtentsPart.
-/
import Derived.Test.YtphnckknhlmgaaaDrawE2
import Derived.Test.YtphnckknhlmgaaaImpE
import Derived.Deep.RegionHeld3
namespace Go.Proofs.Ytphnckknhlmgaaa
open Go.RowKit
set_option linter.unusedVariables false
set_option maxRecDepth 100000

theorem ExI.firsts {w : World} {B n m : Nat} {A : Option Addr} {es : Exs} (h : ExI w B A n es) (hm : m ≤ n) : ExI w B A m (es.take m) :=
  ⟨by rw [List.length_take, h.1]; omega, by rw [fl_take]; exact h.2.firsts (Nat.mul_le_mul_right _ hm)⟩
theorem ExI.cut {w : World} {B n k cap : Nat} {ad : Addr} {es : Exs} (h : ExI w B (some ad) n es) (hk : k ≤ n) (hc : n ≤ cap) : ExI w B (if cap = k then some ad else some (ad.add (k * 2))) (n - k) (es.drop k) := by
  refine ⟨by rw [List.length_drop, h.1], ?_⟩
  have h0 := h.2.cut (k := k * 2) (m := n * 2) (cap := cap * 2) (Nat.mul_le_mul_right _ hk) (Nat.le_refl _) (Nat.mul_le_mul_right _ hc)
  rw [List.take_of_length_le (by rw [fl_length, h.1]; exact Nat.le_refl _), ← fl_drop, Option.map_some, ← Nat.sub_mul] at h0
  by_cases e : cap = k
  · rw [if_pos (by rw [e])] at h0; rw [if_pos e]; exact h0
  · rw [if_neg (by omega)] at h0; rw [if_neg e]; exact h0
theorem ExR.drew {w : World} {base n c : Nat} {A : Option Addr} {es : Exs} (h : ExR w base A n c es) : ExR w.drew base A n c es := h
theorem step_appendE {w : World} {ops : Array Oper} {o : Oper} {a : Act} {K : Act → World → Prop} {Q : Exit → Act → World → Prop} {E : Prop} (hgd : o.guard = none) (s x : Operand)
    (ho : o.op = .call { callee := .builtin .append, args := #[s, x], argTypes := #[25, 25] })
    (base n c B m d : Nat) (A A' : Option Addr) (es fs : Exs) (hs : a.eval s = .slice A n c) (hx : a.eval x = .slice A' m d) (hown : ExR w base A n c es) (hr : ExI w B A' m fs)
    (hnm : n + m ≤ 1000000000000) (hbase : base ≤ w.heap.size)
    (h : ∀ A2 c2 w', ExR w' base A2 (n + m) c2 (es ++ fs) → w.grownBy w' (Value.slice A n c).ownBlock → K (a.put o.dst (.slice A2 (n + m) c2)) w') :
    if Region.wanted o (yielded ops a.tmps) = true then Oper.wp Try.prog o a w K Q else E :=
  step_append_recs extT hgd s x ho base n c B m d A A' (fl es) (fl fs) hs hown.2 hx hr.2 hnm hbase fun A2 c2 w' h1 h2 _ => h A2 c2 w' ⟨by rw [List.length_append, hown.1, hr.1], by rw [fl_append]; exact h1⟩ h2
theorem wpList_appendE {w : World} {ops : Array Oper} {rest : List Oper} {o : Oper} {a : Act} {Q : Exit → Act → World → Prop} (hgd : o.guard = none) (s x : Operand)
    (ho : o.op = .call { callee := .builtin .append, args := #[s, x], argTypes := #[25, 25] })
    (base n c B m d : Nat) (A A' : Option Addr) (es fs : Exs) (hs : a.eval s = .slice A n c) (hx : a.eval x = .slice A' m d) (hown : ExR w base A n c es) (hr : ExI w B A' m fs)
    (hnm : n + m ≤ 1000000000000) (hbase : base ≤ w.heap.size)
    (h : ∀ A2 c2 w', ExR w' base A2 (n + m) c2 (es ++ fs) → w.grownBy w' (Value.slice A n c).ownBlock → wpList Try.prog ops Q rest (a.put o.dst (.slice A2 (n + m) c2)) w') : wpList Try.prog ops Q (o :: rest) a w :=
  wpList_append_recs extT hgd s x ho base n c B m d A A' (fl es) (fl fs) hs hown.2 hx hr.2 hnm hbase fun A2 c2 w' h1 h2 _ => h A2 c2 w' ⟨by rw [List.length_append, hown.1, hr.1], by rw [fl_append]; exact h1⟩ h2

set_option maxHeartbeats 6400000 in
theorem extentsPart_walk (A : Option Addr) (n c : Nat) (bs : Nat → Int) (A' : Option Addr) (n' c' : Nat) (bs' : Nat → Int) (w : World) (hb : Bytes w w.heap.size A n bs) (hn : n ≤ c) (hc : c ≤ maxLen)
    (hb' : Bytes w w.heap.size A' n' bs') (hn1 : n' ≤ c') (hc1 : c' ≤ maxLen) :
    Calls Try.prog 9 #[.slice A n c, .slice A' n' c'] w fun e w' => e = .returned (.bool true) ∧ Below w.heap.size w w' := by
  have hn' : n' ≤ 9223372036854775807 := by unfold maxLen at hc1; omega
  clear hc1 hb'
  by_cases hbig : 1048576 < n
  · go_enter Try.func9, Try.ntmps9
    go_wp2
    go_ret
    exact ⟨rfl, Below.refl _ _⟩
  by_cases hbig' : 1048576 < n'
  · go_enter Try.func9, Try.ntmps9
    go_wp2
    go_ret
    exact ⟨rfl, Below.refl _ _⟩
  · go_enter Try.func9, Try.ntmps9
    go_wp2_with fail
    refine (drawEV_any A n c bs _ hb hn hc).mono ?_
    rintro e w1 ⟨A1, m, c1, es, rfl, hd⟩
    have HDS := hide hd
    have HB1 := hide hd.below
    have hm := hd.num
    have hmc := hd.nc
    have hcm : c1 ≤ 9223372036854775807 := by have := hd.cm; unfold maxLen at this; omega
    have hs1 := HB1.out.size
    have HP1 := hide (implEV A1 m c1 _ es w1 hd.exi (Nat.le_refl _) (by omega) hd.rng)
    have HP2 := hide fun (W : World) (h : Below w1.heap.size w1 W) => specEV A1 m c1 _ es W (hd.exi.below h (Nat.le_refl _)) (by omega)
    clear hb hd
    rcases hv : exV es with _ | _
    · rw [hv] at HP1 HP2
      clear hv
      go_wp2_with fail
      refine HP1.out.mono ?_
      rintro e w2 ⟨rfl, hB2⟩
      have HW2 := hide hB2
      clear hB2 HP1
      go_wp2_with fail
      refine (HP2.out _ HW2.out).mono ?_
      rintro e w3 ⟨rfl, z, rfl⟩
      have HE := hide (below_drewN (HB1.out.trans (HW2.out.mono hs1)) z)
      clear HP2
      go_wp2
      go_ret
      exact ⟨rfl, HE.out⟩
    · rw [hv] at HP1 HP2
      have HV := hide hv
      clear hv
      go_wp2_with fail
      refine HP1.out.mono ?_
      rintro e w2 ⟨rfl, hB2⟩
      have HW2 := hide hB2
      clear hB2 HP1
      go_wp2_with fail
      refine (HP2.out _ HW2.out).mono ?_
      rintro e w3 ⟨rfl, z, rfl⟩
      have HW3 := hide (below_drewN HW2.out z)
      have HE := hide (HB1.out.trans (HW3.out.mono hs1))
      clear HP2 HW2
      by_cases hm0 : m = 0
      · subst hm0
        go_wp2
        go_ret
        exact ⟨rfl, HE.out⟩
      · have hmn : ¬ (m : Int) = 0 := by omega
        obtain ⟨k, hK⟩ : ∃ k : Nat, (n' : Int) % (m : Int) = (k : Int) := Int.eq_ofNat_of_zero_le (Int.emod_nonneg _ hmn)
        have hkm : k < m := by have := Int.emod_lt_of_pos (n' : Int) (show (0 : Int) < m by omega); omega
        obtain ⟨J, hJ⟩ : ∃ J, k + 1 = J := ⟨_, rfl⟩
        have hke : k < es.length := by rw [HDS.out.exi.1]; exact hkm
        obtain ⟨q, hq⟩ : ∃ q, es[k]? = some q := ⟨_, List.getElem?_eq_getElem hke⟩
        have HQ := hide hq
        have HQ1 := hide (part_yesE HV.out k)
        have HQ2 := hide (part_zeroE hke q.1)
        have HQ3 := hide (part_twiceE hke)
        rw [hJ] at HQ1 HQ3
        have hJi : (k : Int) + 1 = (J : Int) := by omega
        have b0 : (0 : Int) ≤ (k : Int) := by omega
        have b1 : (k : Int) ≤ (c1 : Int) := by omega
        have b2 : (0 : Int) ≤ (J : Int) := by omega
        have b3 : (J : Int) ≤ (m : Int) := by omega
        have b4 : (m : Int) ≤ (c1 : Int) := by omega
        have b5 : (J : Int) ≤ (c1 : Int) := by omega
        have b6 : (k : Int) ≤ (m : Int) := by omega
        have b7 : (k : Int) < (m : Int) := by omega
        have wJ : IntKind.i64.wrap (J : Int) = (J : Int) := IntWalk.i64_in _ (by omega)
        have HI := hide (HDS.out.exi.below HW3.out (Nat.le_refl _))
        have hw12 := HW3.out.size
        obtain ⟨ad, hA, _, _⟩ := HI.out.2.2 (by omega)
        subst hA
        have HIK : Hid (∀ W : World, ExI W w1.heap.size (some ad) m es → ExI W w1.heap.size (some ad) k (es.take k)) := fun W h => h.firsts (by omega)
        have HIJ : Hid (∀ W : World, ExI W w1.heap.size (some ad) m es → ExI W w1.heap.size (some ad) J (es.take J)) := fun W h => h.firsts (by omega)
        obtain ⟨D1, hD1⟩ : ∃ D1, (if c1 = J then some ad else some (ad.add (J * 2))) = D1 := ⟨_, rfl⟩
        have HID : Hid (∀ W : World, ExI W w1.heap.size (some ad) m es → ExI W w1.heap.size D1 (m - J) (es.drop J)) := fun W h => by
          have h0 := h.cut (k := J) (cap := c1) (by omega) hmc
          rwa [hD1] at h0
        have hcK : ¬ c1 = k := by omega
        have HIE : Hid (∀ W : World, ExI W w1.heap.size (some ad) m es → ExI W w1.heap.size (some (ad.add (k * 2))) (m - k) (es.drop k)) := fun W h => by
          have h0 := h.cut (k := k) (cap := c1) (by omega) hmc
          rwa [if_neg hcK] at h0
        clear hq hke
        generalize w2.drewN z = W at *
        go_wp2_with fail
        refine wp_region_any (by kernel_rfl) ?_
        try (change wpAny _ _ _ _ _ _ _ (World.drew _))
        refine wpAny_take (i := 1) (v := .slice (some ad) m c1) rfl (by kernel_rfl) (by kernel_rfl) (by kernel_rfl) (fun _ _ _ h => h) (Or.inl ⟨by kernel_rfl, fun w => by first | (go_simp; done) | (go_simp; simp; done) | (go_simp; intro h; omega)⟩) ?_
        refine wpAny_take (i := 2) (v := .int .i64 (k : Int)) rfl (by kernel_rfl) (by kernel_rfl) (by kernel_rfl) (fun _ _ _ h => h) (Or.inl ⟨by kernel_rfl, fun w => by first | (go_simp; done) | (go_simp; simp; done) | (go_simp; intro h; omega)⟩) ?_
        refine wpAny_take (i := 3) (v := .slice (some ad) k c1) rfl (by kernel_rfl) (by kernel_rfl) (by kernel_rfl) (fun _ _ _ h => h) (Or.inl ⟨by kernel_rfl, fun w => by first | (go_simp; done) | (go_simp; simp; done) | (go_simp; intro h; omega)⟩) ?_
        refine wpAny_take (i := 5) (v := .slice (some ad) m c1) rfl (by kernel_rfl) (by kernel_rfl) (by kernel_rfl) (fun _ _ _ h => h) (Or.inl ⟨by kernel_rfl, fun w => by first | (go_simp; done) | (go_simp; simp; done) | (go_simp; intro h; omega)⟩) ?_
        refine wpAny_take (i := 6) (v := .int .i64 (k : Int)) rfl (by kernel_rfl) (by kernel_rfl) (by kernel_rfl) (fun _ _ _ h => h) (Or.inl ⟨by kernel_rfl, fun w => by first | (go_simp; done) | (go_simp; simp; done) | (go_simp; intro h; omega)⟩) ?_
        refine wpAny_take (i := 7) (v := .int .i64 (J : Int)) rfl (by kernel_rfl) (by kernel_rfl) (by kernel_rfl) (fun _ _ _ h => h) (Or.inl ⟨by kernel_rfl, fun w => by first | (go_simp; done) | (go_simp; simp; done) | (go_simp; intro h; omega)⟩) ?_
        refine wpAny_take (i := 8) (v := .slice D1 (m - J) (c1 - J)) rfl (by kernel_rfl) (by kernel_rfl) (by kernel_rfl) (fun _ _ _ h => h) (Or.inl ⟨by kernel_rfl, fun w => by first | (go_simp; done) | (go_simp; simp; done) | (go_simp; intro h; omega)⟩) ?_
        refine wpAny_ready (rs := [0]) (by kernel_rfl) (by simp) ?_
        refine AllReady.cons rfl (fun K' hK => ?_) AllReady.nil
        go_simp
        refine hK _ _ ?_
        clear hK K'
        refine wpAny_ready (rs := [4]) (by kernel_rfl) (by simp) ?_
        refine AllReady.cons rfl (fun K' hK => ?_) AllReady.nil
        refine step_appendE rfl (.tmp 46) (.tmp 49) rfl W.heap.size 0 0 w1.heap.size k c1 (some ⟨W.heap.size, 0, none⟩) (some ad) [] (es.take k) rfl rfl (ExR.lit0 W _ (Nat.le_refl _)).drew (HIK.out _ (HI.out.alloc hw12 _)) (by omega) (by simp) ?_
        intro A15 c15 w15 ho5 hg5
        simp only [Nat.zero_add, List.nil_append] at ho5 ⊢
        have hB5 := below_app0 (Below.refl _ W) (Nat.le_refl _) (grown_undrawn hg5)
        have hs5 := hB5.size
        refine hK _ _ ?_
        clear hK K' hg5
        refine wpAny_ready (rs := [9]) (by kernel_rfl) (by simp) ?_
        refine AllReady.cons rfl (fun K' hK => ?_) AllReady.nil
        refine step_appendE rfl (.tmp 50) (.tmp 54) rfl W.heap.size k c15 w1.heap.size (m - J) _ A15 D1 (es.take k) (es.drop J) rfl rfl ho5 (HID.out _ (HI.out.below hB5 hw12)) (by omega) hs5 ?_
        intro A17 c17 w17 ho7 hg7
        have hB7 := hB5.grown hg7 hs5 (fun q e => (ho5.2.block q e).1)
        have hs7 := hB7.size
        refine hK _ _ ?_
        clear hK K' hg7 hB5 ho5 hs5
        refine wpAny_take (i := 10) (v := .slice A17 (k + (m - J)) c17) rfl (by kernel_rfl) (by kernel_rfl) (by kernel_rfl) (fun _ _ _ h => h) (Or.inl ⟨by kernel_rfl, fun w => by first | (go_simp; done) | (go_simp; simp; done) | (go_simp; intro h; omega)⟩) ?_
        refine wpAny_done (by kernel_rfl) ?_ _
        have HO7 := hide ho7.exi
        have HB7 := hide hB7
        have HI7 := hide (HI.out.below hB7 hw12)
        have hw17 : w1.heap.size ≤ w17.heap.size := Nat.le_trans hw12 hs7
        clear ho7 hB7
        go_upto_region 11 with (at_builtin; refine wpList_appendE rfl (.tmp 56) (.tmp 57) rfl w17.heap.size 0 0 w1.heap.size m c1 (some ⟨w17.heap.size, 0, none⟩) (some ad) [] es rfl rfl (ExR.lit0 w17 _ (Nat.le_refl _)) (HI7.out.alloc hw17 _) (by omega) (by simp) ?_; intro A25 c25 w25 ho5 hg5; simp only [Nat.zero_add, List.nil_append] at ho5 ⊢; have HR5 := hide ho5; have HB5 := hide (below_app0 (Below.refl _ w17) (Nat.le_refl _) hg5); clear ho5 hg5)
        have hsz5 := HB5.out.size
        obtain ⟨g, rfl, hg0, hgl⟩ := HR5.out.2.shape (by omega)
        obtain ⟨_, hp5, hg5⟩ := HR5.out.put HQ.out 0
        have he1 := (HR5.out.at_ HQ.out).2
        have hf1 := HR5.out.2.free (j := k * 2 + 1)
        have HP5 := hide hp5
        have HBS := hide (HB5.out.trans (below_of_grown' hg5 hsz5 (fun b e => by injection e with e; omega)))
        clear hp5 hg5
        generalize hW6 : w25.setCell ⟨g, k * 2 + 1, none⟩ (.int .i64 0) = W6 at HP5 HBS
        go_upto_region 12 with fail
        try rw [hW6]
        have hs6 := HBS.out.size
        have HI6 := hide (HI7.out.below HBS.out hw17)
        have hw16 : w1.heap.size ≤ W6.heap.size := Nat.le_trans hw17 hs6
        have HX6 := hide (HO7.out.below HBS.out (Nat.le_refl _))
        have HY6 := hide HP5.out.exi
        have HB9 := hide (HB7.out.trans (HBS.out.mono hs7))
        clear HP5 HR5 HO7 HI7 HI HB5 HB7 HBS he1 hf1 hW6
        refine wp_region_any (by kernel_rfl) ?_
        try (change wpAny _ _ _ _ _ _ _ (World.drew _))
        refine wpAny_take (i := 1) (v := .slice (some ad) m c1) rfl (by kernel_rfl) (by kernel_rfl) (by kernel_rfl) (fun _ _ _ h => h) (Or.inl ⟨by kernel_rfl, fun w => by first | (go_simp; done) | (go_simp; simp; done) | (go_simp; intro h; omega)⟩) ?_
        refine wpAny_take (i := 2) (v := .int .i64 (k : Int)) rfl (by kernel_rfl) (by kernel_rfl) (by kernel_rfl) (fun _ _ _ h => h) (Or.inl ⟨by kernel_rfl, fun w => by first | (go_simp; done) | (go_simp; simp; done) | (go_simp; intro h; omega)⟩) ?_
        refine wpAny_take (i := 3) (v := .int .i64 (J : Int)) rfl (by kernel_rfl) (by kernel_rfl) (by kernel_rfl) (fun _ _ _ h => h) (Or.inl ⟨by kernel_rfl, fun w => by first | (go_simp; done) | (go_simp; simp; done) | (go_simp; intro h; omega)⟩) ?_
        refine wpAny_take (i := 4) (v := .slice (some ad) J c1) rfl (by kernel_rfl) (by kernel_rfl) (by kernel_rfl) (fun _ _ _ h => h) (Or.inl ⟨by kernel_rfl, fun w => by first | (go_simp; done) | (go_simp; simp; done) | (go_simp; intro h; omega)⟩) ?_
        refine wpAny_take (i := 6) (v := .slice (some ad) m c1) rfl (by kernel_rfl) (by kernel_rfl) (by kernel_rfl) (fun _ _ _ h => h) (Or.inl ⟨by kernel_rfl, fun w => by first | (go_simp; done) | (go_simp; simp; done) | (go_simp; intro h; omega)⟩) ?_
        refine wpAny_take (i := 7) (v := .int .i64 (k : Int)) rfl (by kernel_rfl) (by kernel_rfl) (by kernel_rfl) (fun _ _ _ h => h) (Or.inl ⟨by kernel_rfl, fun w => by first | (go_simp; done) | (go_simp; simp; done) | (go_simp; intro h; omega)⟩) ?_
        refine wpAny_take (i := 8) (v := .slice (some (ad.add (k * 2))) (m - k) (c1 - k)) rfl (by kernel_rfl) (by kernel_rfl) (by kernel_rfl) (fun _ _ _ h => h) (Or.inl ⟨by kernel_rfl, fun w => by first | (go_simp; done) | (go_simp; simp; done) | (go_simp; intro h; omega)⟩) ?_
        refine wpAny_ready (rs := [0]) (by kernel_rfl) (by simp) ?_
        refine AllReady.cons rfl (fun K' hK => ?_) AllReady.nil
        go_simp
        refine hK _ _ ?_
        clear hK K'
        refine wpAny_ready (rs := [5]) (by kernel_rfl) (by simp) ?_
        refine AllReady.cons rfl (fun K' hK => ?_) AllReady.nil
        refine step_appendE rfl (.tmp 63) (.tmp 67) rfl W6.heap.size 0 0 w1.heap.size J c1 (some ⟨W6.heap.size, 0, none⟩) (some ad) [] (es.take J) rfl rfl (ExR.lit0 W6 _ (Nat.le_refl _)).drew (HIJ.out _ (HI6.out.alloc hw16 _)) (by omega) (by simp) ?_
        intro A35 c35 w35 ho5 hg5
        simp only [Nat.zero_add, List.nil_append] at ho5 ⊢
        have hB5 := below_app0 (Below.refl _ W6) (Nat.le_refl _) (grown_undrawn hg5)
        have hs5 := hB5.size
        refine hK _ _ ?_
        clear hK K' hg5
        refine wpAny_ready (rs := [9]) (by kernel_rfl) (by simp) ?_
        refine AllReady.cons rfl (fun K' hK => ?_) AllReady.nil
        refine step_appendE rfl (.tmp 68) (.tmp 71) rfl W6.heap.size J c35 w1.heap.size (m - k) _ A35 (some (ad.add (k * 2))) (es.take J) (es.drop k) rfl rfl ho5 (HIE.out _ (HI6.out.below hB5 hw16)) (by omega) hs5 ?_
        intro A37 c37 w37 ho7 hg7
        have hB7 := hB5.grown hg7 hs5 (fun q e => (ho5.2.block q e).1)
        have hs7 := hB7.size
        refine hK _ _ ?_
        clear hK K' hg7 hB5 ho5 hs5
        refine wpAny_take (i := 10) (v := .slice A37 (J + (m - k)) c37) rfl (by kernel_rfl) (by kernel_rfl) (by kernel_rfl) (fun _ _ _ h => h) (Or.inl ⟨by kernel_rfl, fun w => by first | (go_simp; done) | (go_simp; simp; done) | (go_simp; intro h; omega)⟩) ?_
        refine wpAny_done (by kernel_rfl) ?_ _
        have HS1 := hide (implEV A17 (k + (m - J)) c17 w17.heap.size _ w37 ((HX6.out).below hB7 hs6) (Nat.le_trans hs6 hs7) (by omega) ((HDS.out.rng.take _).app (HDS.out.rng.drop _)))
        have HS2 := hide fun (W : World) (h : Below w37.heap.size w37 W) => implEV (some ⟨g, 0, none⟩) m c25 W6.heap.size _ W ((HY6.out.below hB7 (Nat.le_refl _)).below h hs7) (Nat.le_trans hs7 h.size) (by omega) (HDS.out.rng.set _ _ _ (HDS.out.rng.at HQ.out))
        have HZ := hide ho7.exi
        have HS3 := hide fun (W : World) (h : Below w37.heap.size w37 W) => implEV A37 (J + (m - k)) c37 w37.heap.size _ W (HZ.out.below h (Nat.le_refl _)) h.size (by omega) ((HDS.out.rng.take _).app (HDS.out.rng.drop _))
        rw [HQ1.out] at HS1
        rw [HQ2.out] at HS2
        rw [HQ3.out] at HS3
        have HB10 := hide (HB9.out.trans (hB7.mono HB9.out.size))
        clear ho7 hB7 HX6 HY6 HZ HI6 HIK HIJ HID HIE
        go_wp2_with fail
        refine HS1.out.mono ?_
        rintro e w38 ⟨rfl, hB38⟩
        have HB38 := hide hB38
        clear hB38
        go_wp2_with fail
        refine (HS2.out _ HB38.out).mono ?_
        rintro e w39 ⟨rfl, hB39⟩
        have HB39 := hide (HB38.out.trans (hB39.mono HB38.out.size))
        clear hB39
        go_wp2_with fail
        refine (HS3.out _ HB39.out).mono ?_
        rintro e w40 ⟨rfl, hB40⟩
        have HEND := hide (HE.out.trans ((HB10.out.trans ((HB39.out.trans (hB40.mono HB39.out.size)).mono HB10.out.size)).mono HE.out.size))
        clear hB40
        go_wp2
        go_ret
        exact ⟨rfl, HEND.out⟩
end Go.Proofs.Ytphnckknhlmgaaa
