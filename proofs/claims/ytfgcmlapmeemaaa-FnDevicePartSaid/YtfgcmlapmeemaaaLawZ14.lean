/-
  The walk of FnDevicePart.
-/
import Derived.Test.YtfgcmlapmeemaaaDrawZ4
import Derived.Test.YtfgcmlapmeemaaaImpZ1
import Derived.Test.YtfgcmlapmeemaaaRowZ
import Derived.Deep.RegionHeld3
namespace Go.Proofs.Ytfgcmlapmeemaaa
open Go.RowKit
set_option linter.unusedVariables false
set_option maxRecDepth 100000

theorem zns_append (qs rs : List Zq) : zns (qs ++ rs) = zns qs ++ zns rs := by unfold zns; rw [List.map_append]
theorem dev_short {ds : Dev} (h : ds.length ≠ 4) : devV ds = false := by
  rcases hv : devV ds with _ | _
  · rfl
  · exact absurd (devV_iff.1 hv).2 h
theorem dev_long {ds : Dev} {k : Nat} (hk : k < ds.length) (ws : List Int) (fu : Bool) : devV (ds.set k (ws, (ws.length : Int) + 1, fu)) = false := by
  rcases hv : devV (ds.set k (ws, (ws.length : Int) + 1, fu)) with _ | _
  · rfl
  · exfalso
    have h := (devV_iff.1 hv).1 _ (List.mem_set hk _)
    unfold zoneOk at h
    rw [Bool.and_eq_true] at h
    have h2 : (ws.length : Int) + 1 ≤ (ws.length : Int) := (inB_iff.1 h.2).2
    omega

set_option maxHeartbeats 6400000 in
theorem devicePart_walk (A : Option Addr) (n c : Nat) (bs : Nat → Int) (A' : Option Addr) (n' c' : Nat) (bs' : Nat → Int) (w : World) (hb : Bytes w w.heap.size A n bs) (hn : n ≤ c) (hc : c ≤ maxLen)
    (hb' : Bytes w w.heap.size A' n' bs') (hn1 : n' ≤ c') (hc1 : c' ≤ maxLen) :
    Calls Try.prog 4 #[.slice A n c, .slice A' n' c'] w fun e w' => e = .returned (.bool true) ∧ Below w.heap.size w w' := by
  have hn' : n' ≤ 9223372036854775807 := by unfold maxLen at hc1; omega
  clear hc1 hb'
  by_cases hbig : 1048576 < n
  · go_enter Try.func4, Try.ntmps4
    go_wp2
    go_ret
    exact ⟨rfl, Below.refl _ _⟩
  by_cases hbig' : 1048576 < n'
  · go_enter Try.func4, Try.ntmps4
    go_wp2
    go_ret
    exact ⟨rfl, Below.refl _ _⟩
  · go_enter Try.func4, Try.ntmps4
    go_wp2_with fail
    refine (drawValid_any A n c bs _ hb hn hc).mono ?_
    rintro e w1 ⟨A1, m, c1, qs, rfl, ⟨hz1, hm, hmc, hcm1, hl1, hB1⟩⟩
    have HB1 := hide hB1
    have HZ1 := hide hz1
    have hcm : c1 ≤ 9223372036854775807 := by unfold maxLen at hcm1; omega
    have hs1 := hB1.size
    have HP1 := hide (implDV A1 m c1 _ qs w1 hz1 (Nat.le_refl _) (by omega))
    have HP2 := hide fun (W : World) (h : Below w1.heap.size w1 W) => specDV A1 m c1 _ qs W (hz1.below h (Nat.le_refl _)) (by omega)
    have HLW := hide hl1
    clear hb hB1 hz1 hl1 hcm1
    rcases hv : devV (zns qs) with _ | _
    · rw [hv] at HP1 HP2
      clear hv
      go_wp2_with fail
      refine HP1.out.mono ?_
      rintro e w2 ⟨rfl, hB2⟩
      have HW2 := hide hB2
      clear hB2 HP1
      go_wp2_with fail
      refine (HP2.out _ HW2.out).mono ?_
      rintro e w3 ⟨rfl, z, rfl⟩
      have HE := hide (below_drewN (HB1.out.trans (HW2.out.mono hs1)) z)
      clear HP2
      go_wp2
      go_ret
      exact ⟨rfl, HE.out⟩
    · rw [hv] at HP1 HP2
      have HL4 := hide (devV_iff.1 hv).2
      have hm4 : m = 4 := by
        have h := (devV_iff.1 hv).2
        unfold zns at h
        rw [List.length_map, HZ1.out.1] at h
        exact h
      subst hm4
      clear hv
      go_wp2_with fail
      refine HP1.out.mono ?_
      rintro e w2 ⟨rfl, hB2⟩
      have HW2 := hide hB2
      clear hB2 HP1
      go_wp2_with fail
      refine (HP2.out _ HW2.out).mono ?_
      rintro e w3 ⟨rfl, z, rfl⟩
      have HW3 := hide (below_drewN HW2.out z)
      have HE := hide (HB1.out.trans (HW3.out.mono hs1))
      clear HP2 HW2
      obtain ⟨k, hK⟩ : ∃ k : Nat, (n' : Int) % 4 = (k : Int) := Int.eq_ofNat_of_zero_le (Int.emod_nonneg _ (by decide))
      have hkm : k < 4 := by have := Int.emod_lt_of_pos (n' : Int) (show (0 : Int) < 4 by omega); omega
      obtain ⟨J, hJ⟩ : ∃ J, k + 1 = J := ⟨_, rfl⟩
      have HQ1 := hide (dev_short (ds := (zns qs).take k ++ (zns qs).drop J) (by rw [List.length_append, List.length_take, List.length_drop, HL4.out]; omega))
      have hJi : (k : Int) + 1 = (J : Int) := by omega
      have b0 : (0 : Int) ≤ (k : Int) := by omega
      have b1 : (k : Int) ≤ (c1 : Int) := by omega
      have b2 : (0 : Int) ≤ (J : Int) := by omega
      have b3 : (J : Int) ≤ 4 := by omega
      have b4 : (4 : Int) ≤ (c1 : Int) := by omega
      have b5 : (J : Int) ≤ (c1 : Int) := by omega
      have b6 : (k : Int) ≤ 4 := by omega
      have b7 : (k : Int) < 4 := by omega
      have wJ : IntKind.i64.wrap (J : Int) = (J : Int) := IntWalk.i64_in _ (by omega)
      have HI := hide (HZ1.out.below HW3.out (Nat.le_refl _))
      have hw12 := HW3.out.size
      have hQL := HI.out.1
      obtain ⟨ad, hA, _, _⟩ := HI.out.2.1 (by omega)
      subst hA
      have hIK : ∀ W : World, Zns W w1.heap.size (some ad) 4 qs → Zns W w1.heap.size (some ad) k (qs.take k) := fun W h => h.firsts (by omega)
      obtain ⟨D1, hD1⟩ : ∃ D1, (if c1 = J then some ad else some (ad.add (J * 3))) = D1 := ⟨_, rfl⟩
      have hID : ∀ W : World, Zns W w1.heap.size (some ad) 4 qs → Zns W w1.heap.size D1 (4 - J) (qs.drop J) := fun W h => by
        have h0 := h.cut (k := J) (m := 4) (cap := c1) (by omega) (Nat.le_refl _) hmc
        rw [List.take_of_length_le (by rw [hQL]; exact Nat.le_refl _), Option.map_some, hD1] at h0
        exact h0
      obtain ⟨q, hq⟩ : ∃ q, qs[k]? = some q := ⟨_, List.getElem?_eq_getElem (by rw [hQL]; exact hkm)⟩
      have hq70 := HLW.out q (List.mem_of_getElem? hq)
      have HQ := hide hq
      have HQ2 := hide (dev_long (ds := zns qs) (k := k) (by rw [HL4.out]; exact hkm) q.words q.full)
      have HIK := hide hIK
      have HID := hide hID
      clear hIK hID hQL hq
      generalize w2.drewN z = W at *
      go_wp2_with fail
      refine wp_region_any (by kernel_rfl) ?_
      try (change wpAny _ _ _ _ _ _ _ (World.drew _))
      refine wpAny_take (i := 1) (v := .slice (some ad) 4 c1) rfl (by kernel_rfl) (by kernel_rfl) (by kernel_rfl) (fun _ _ _ h => h) (Or.inl ⟨by kernel_rfl, fun w => by first | (go_simp; done) | (go_simp; simp; done) | (go_simp; intro h; omega)⟩) ?_
      refine wpAny_take (i := 2) (v := .int .i64 (k : Int)) rfl (by kernel_rfl) (by kernel_rfl) (by kernel_rfl) (fun _ _ _ h => h) (Or.inl ⟨by kernel_rfl, fun w => by first | (go_simp; done) | (go_simp; simp; done) | (go_simp; intro h; omega)⟩) ?_
      refine wpAny_take (i := 3) (v := .slice (some ad) k c1) rfl (by kernel_rfl) (by kernel_rfl) (by kernel_rfl) (fun _ _ _ h => h) (Or.inl ⟨by kernel_rfl, fun w => by first | (go_simp; done) | (go_simp; simp; done) | (go_simp; intro h; omega)⟩) ?_
      refine wpAny_take (i := 5) (v := .slice (some ad) 4 c1) rfl (by kernel_rfl) (by kernel_rfl) (by kernel_rfl) (fun _ _ _ h => h) (Or.inl ⟨by kernel_rfl, fun w => by first | (go_simp; done) | (go_simp; simp; done) | (go_simp; intro h; omega)⟩) ?_
      refine wpAny_take (i := 6) (v := .int .i64 (k : Int)) rfl (by kernel_rfl) (by kernel_rfl) (by kernel_rfl) (fun _ _ _ h => h) (Or.inl ⟨by kernel_rfl, fun w => by first | (go_simp; done) | (go_simp; simp; done) | (go_simp; intro h; omega)⟩) ?_
      refine wpAny_take (i := 7) (v := .int .i64 (J : Int)) rfl (by kernel_rfl) (by kernel_rfl) (by kernel_rfl) (fun _ _ _ h => h) (Or.inl ⟨by kernel_rfl, fun w => by first | (go_simp; done) | (go_simp; simp; done) | (go_simp; intro h; omega)⟩) ?_
      refine wpAny_take (i := 8) (v := .slice D1 (4 - J) (c1 - J)) rfl (by kernel_rfl) (by kernel_rfl) (by kernel_rfl) (fun _ _ _ h => h) (Or.inl ⟨by kernel_rfl, fun w => by first | (go_simp; done) | (go_simp; simp; done) | (go_simp; intro h; omega)⟩) ?_
      refine wpAny_ready (rs := [0]) (by kernel_rfl) (by simp) ?_
      refine AllReady.cons rfl (fun K' hK => ?_) AllReady.nil
      go_simp
      refine hK _ _ ?_
      clear hK K'
      refine wpAny_ready (rs := [4]) (by kernel_rfl) (by simp) ?_
      refine AllReady.cons rfl (fun K' hK => ?_) AllReady.nil
      refine step_append_rowZ rfl (.tmp 40) (.tmp 43) rfl W.heap.size w1.heap.size 0 0 k c1 (some ⟨W.heap.size, 0, none⟩) (some ad) [] (qs.take k) rfl rfl (RowZ.lit0 W hw12).drew (HIK.out _ HI.out).1 (HIK.out _ (HI.out.alloc hw12 _)).src (HIK.out _ (HI.out.alloc hw12 _)).2.2 (by omega) (by simp) ?_
      intro A15 c15 w15 ho5 hg5
      simp only [Nat.zero_add, List.nil_append] at ho5 ⊢
      have hB5 := below_app0 (Below.refl _ W) (Nat.le_refl _) (grown_undrawn hg5)
      have hs5 := hB5.size
      refine hK _ _ ?_
      clear hK K' hg5
      refine wpAny_ready (rs := [9]) (by kernel_rfl) (by simp) ?_
      refine AllReady.cons rfl (fun K' hK => ?_) AllReady.nil
      refine step_append_rowZ rfl (.tmp 44) (.tmp 48) rfl W.heap.size w1.heap.size k c15 (4 - J) _ A15 D1 (qs.take k) (qs.drop J) rfl rfl ho5 (HID.out _ (HI.out.below hB5 hw12)).1 (HID.out _ (HI.out.below hB5 hw12)).src (HID.out _ (HI.out.below hB5 hw12)).2.2 (by omega) hs5 ?_
      intro A17 c17 w17 ho7 hg7
      have hB7 := hB5.grown hg7 hs5 (fun q e => (ho5.block q e).1)
      have hs7 := hB7.size
      refine hK _ _ ?_
      clear hK K' hg7 hB5 ho5 hs5
      refine wpAny_take (i := 10) (v := .slice A17 (k + (4 - J)) c17) rfl (by kernel_rfl) (by kernel_rfl) (by kernel_rfl) (fun _ _ _ h => h) (Or.inl ⟨by kernel_rfl, fun w => by first | (go_simp; done) | (go_simp; simp; done) | (go_simp; intro h; omega)⟩) ?_
      refine wpAny_done (by kernel_rfl) ?_ _
      have HO7 := hide (ho7.zns hs7)
      have HB7 := hide hB7
      have HI7 := hide (HI.out.below hB7 hw12)
      have hw17 : w1.heap.size ≤ w17.heap.size := Nat.le_trans hw12 hs7
      clear ho7 hB7
      go_upto_region 11 with (at_builtin; refine wpList_append_rowZ rfl (.tmp 50) (.tmp 51) rfl w17.heap.size w1.heap.size 0 0 4 c1 (some ⟨w17.heap.size, 0, none⟩) (some ad) [] qs rfl rfl (RowZ.lit0 w17 hw17) HI7.out.1 (HI7.out.alloc hw17 _).src (HI7.out.alloc hw17 _).2.2 (by omega) (by simp) ?_; intro A25 c25 w25 ho5 hg5; have HR5 := hide ho5; have HB5 := hide (below_app0 (Below.refl _ w17) (Nat.le_refl _) hg5); clear ho5 hg5)
      have hsz5 := HB5.out.size
      obtain ⟨g, rfl, hg0, hgl⟩ := HR5.out.shape (by omega)
      have hQ5 : ([] ++ qs)[k]? = some q := HQ.out
      have HP5 := hide (HR5.out.put hsz5 hQ5 ((q.words.length : Int) + 1))
      have he1 := HR5.out.at_ hQ5
      have hf1 := HR5.out.free (j := k * 3 + 1)
      obtain ⟨ad2, p, hA2, hp, hbp, hc0, _, _⟩ := (HI7.out.below HB5.out hw17).at_ HQ.out
      injection hA2 with hA2
      subst hA2
      have hcq := ((HI7.out.below HB5.out hw17).words HQ.out).2.2
      have hlq := ((HI7.out.below HB5.out hw17).words HQ.out).2.1
      have hcq' : q.cap ≤ 9223372036854775807 := by unfold maxLen at hcq; omega
      simp only [Zq.sl] at hc0
      have wL : IntKind.i64.wrap ((q.words.length : Int) + 1) = (q.words.length : Int) + 1 := IntWalk.i64_in _ (by omega)
      have k4 : (k : Int) < ((0 + 4 : Nat) : Int) := by omega
      have HX := hide fun (W : World) (h : Below w25.heap.size w25 W) => (HO7.out.below HB5.out (Nat.le_refl _)).below h hsz5
      clear hQ5 hcq
      go_wp2_with fail

      have HBS := hide (HB5.out.trans (below_of_grown' HP5.out.2 hsz5 (fun b e => by injection e with e; omega)))
      generalize hW6 : w25.setCell ⟨g, k * 3 + 1, none⟩ (.int .i64 ((q.words.length : Int) + 1)) = W6 at HP5 HBS ⊢
      have hs6 := HBS.out.size
      have e1 : zns (qs.take k ++ qs.drop J) = (zns qs).take k ++ (zns qs).drop J := by unfold zns; rw [List.map_append, List.map_take, List.map_drop]
      have e2 : zns (([] ++ qs).set k ⟨q.words, (q.words.length : Int) + 1, q.full, q.addr, q.cap⟩) = (zns qs).set k (q.words, (q.words.length : Int) + 1, q.full) := by rw [List.nil_append, zns_set]; rfl
      have HS1 := hide (implDV A17 (k + (4 - J)) c17 w17.heap.size _ W6 (HO7.out.below HBS.out (Nat.le_refl _)) hs6 (by omega))
      have HY := hide (HP5.out.1.zns hs6)
      have HS2 := hide fun (W : World) (h : Below W6.heap.size W6 W) => implDV (some ⟨g, 0, none⟩) (0 + 4) c25 W6.heap.size _ W (HY.out.below h (Nat.le_refl _)) h.size (by omega)
      rw [e1, HQ1.out] at HS1
      rw [e2, HQ2.out] at HS2
      have HB9 := hide (HB7.out.trans (HBS.out.mono hs7))
      clear e1 e2 hW6 HY HP5 HX HR5 HO7 HI7 HI HB5 HB7 HBS hc0 he1 hf1
      go_wp2_with fail
      refine HS1.out.mono ?_
      rintro e w28 ⟨rfl, hB28⟩
      have HB28 := hide hB28
      clear hB28
      go_wp2_with fail
      refine (HS2.out _ HB28.out).mono ?_
      rintro e w29 ⟨rfl, hB29⟩
      have HEND := hide (HE.out.trans ((HB9.out.trans ((HB28.out.trans (hB29.mono HB28.out.size)).mono HB9.out.size)).mono HE.out.size))
      clear hB29
      go_wp2
      go_ret
      exact ⟨rfl, HEND.out⟩
end Go.Proofs.Ytfgcmlapmeemaaa
