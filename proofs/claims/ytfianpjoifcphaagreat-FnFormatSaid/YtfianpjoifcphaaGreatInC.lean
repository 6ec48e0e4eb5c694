/-
  impl.coldIn and its iterator over a body.
-/
import Derived.Test.YtfianpjoifcphaaGreatAsc
import Derived.Test.YtfianpjoifcphaaGreatG1
import Derived.Stop.RegionWithIn
namespace Go.Proofs.YtfianpjoifcphaaGreat
open Go.RowKit Go.Shelf
set_option linter.unusedVariables false
set_option maxRecDepth 100000

attribute [local go_sem] Oper.semAt_some

/-- the first k records of a body -/
def recsC (xs : List Int) (k : Nat) : List (Int × Int × Int) := (List.range k).map fun j => (xs.getD (j * 3) 0, xs.getD (j * 3 + 1) 0, xs.getD (j * 3 + 2) 0)
theorem recsC_length (xs : List Int) (k : Nat) : (recsC xs k).length = k := by simp [recsC]
theorem recsC_succ (xs : List Int) (k : Nat) : recsC xs (k + 1) = recsC xs k ++ [(xs.getD (k * 3) 0, xs.getD (k * 3 + 1) 0, xs.getD (k * 3 + 2) 0)] := by simp [recsC, List.range_succ]
theorem recsC_prefix (xs : List Int) {k n : Nat} (h : k ≤ n) : recsC xs k <+: recsC xs n := by
  obtain ⟨d, rfl⟩ := Nat.exists_eq_add_of_le h
  induction d with
  | zero => exact List.prefix_rfl
  | succ d ih => rw [← Nat.add_assoc, recsC_succ]; exact (ih (by omega)).trans (List.prefix_append _ _)
def flatC (l : List (Int × Int × Int)) : List Int := l.flatMap fun x => [x.1, x.2.1, x.2.2]
theorem flatC_snoc (l : List (Int × Int × Int)) (x : Int × Int × Int) : flatC (l ++ [x]) = flatC l ++ [x.1, x.2.1, x.2.2] := by simp [flatC]
theorem flatC_length (l : List (Int × Int × Int)) : (flatC l).length = l.length * 3 := by
  induction l with
  | nil => rfl
  | cons x l ih => simp [flatC] at ih ⊢; omega
theorem flatC_recs (xs : List Int) (k : Nat) (h : k * 3 ≤ xs.length) : flatC (recsC xs k) = xs.take (k * 3) := by
  induction k with
  | zero => simp [recsC, flatC]
  | succ k ih =>
    rw [recsC_succ, flatC_snoc, ih (by omega)]
    exact take_rec3 xs k (by omega)

set_option maxHeartbeats 400000 in
theorem coldIn_any (A : Option Addr) (n c : Nat) (w : World) :
    Calls Tryz.prog 263 #[.slice A n c] w fun e w' => e = .returned (.func (.func 279) #[] #[.pointer (some ⟨w.heap.size, 0, none⟩)]) ∧ w' = w.alloc (.cells #[.slice A n c] 27) := by
  go_enter Tryz.func263, Tryz.ntmps263
  go_wp2
  go_ret
  exact ⟨rfl, rfl⟩

set_option maxHeartbeats 4000000 in
theorem coldIn_stops (A : Option Addr) (n c m Bs n₀ : Nat) (xs : List Int) (w : World) (hm : 1 ≤ m) (hBs : Bs < w.heap.size) (hn₀ : n₀ ≤ w.heap.size) (hc : w.cell? ⟨Bs, 0, none⟩ = some (.slice A n c)) (hI : Ints w n₀ A n xs) (hn : n ≤ 1000000000) (hnc : n ≤ c) (hcm : c ≤ 9223372036854775807) :
    SeqStopsK Fence.wide m Tryz.prog 279 #[.pointer (some ⟨Bs, 0, none⟩)] (fun x : Int × Int × Int => #[.agg #[.int .i64 x.1, .int .i64 x.2.1, .int .i64 x.2.2]]) (Below n₀) (fun ys => ys = recsC xs (n / 3)) (fun pre => pre <+: recsC xs (n / 3)) (n / 3) w := fun l J Jx W hW hJ hJx hY h0 => by
  have hc' := (hW.cell (p := ⟨Bs, 0, none⟩) hBs).trans hc
  have HI := hide (hI.below (hW.mono hn₀) (Nat.le_refl _))
  have hn1 : n₀ ≤ W.heap.size := Nat.le_trans hn₀ hW.size
  have HL := hide hI.1
  clear hI hc
  refine callsIn_of_wp Tryz.func279 rfl trivial ?_ rfl
  simp only [Tryz.ntmps279, List.size_toArray, List.length_cons, List.length_nil, Nat.reduceAdd, Nat.reduceSub, Array.replicate_succ, Array.replicate_zero, List.push_toArray, List.append_toArray, List.nil_append, List.cons_append]
  gi_wp2
  gi_loopw [3] (fun r wr => ∃ (k d c' : Nat) (A' : Option Addr), r = .slice A' d c' ∧ Hid (d + k * 3 = n) ∧ d ≤ n ∧ d ≤ c' ∧ c' ≤ 9223372036854775807 ∧ Hid (Ints wr n₀ A' d (xs.drop (k * 3))) ∧ J (recsC xs k) wr ∧ Below n₀ W wr) (fun r _ => sliceLen r)
  case atStart => exact ⟨0, n, c, A, rfl, by show _ = _; simp, Nat.le_refl _, hnc, hcm, by simpa using HI, h0, Below.refl _ _⟩
  case round =>
    obtain ⟨k, d, c', A', rfl, HD, hdn, hdc, hcm', HA, hJs, hB⟩ := hrel
    by_cases hlt : 3 ≤ d
    · obtain ⟨ad, rfl, hb, hcs⟩ := HA.out.2 (by omega)
      have hc0 : wr.cell? ad = some (.int .i64 ((xs.drop (k * 3)).getD 0 0)) := by
        have h := hcs 0 (by omega)
        simpa [Addr.add] using h
      rw [getD_drop'] at hc0
      obtain ⟨x0, hx0⟩ : ∃ x, xs.getD (k * 3) 0 = x := ⟨_, rfl⟩
      rw [Nat.add_zero, hx0] at hc0
      have hc1 : wr.cell? ⟨ad.block, ad.off + 1, none⟩ = some (.int .i64 ((xs.drop (k * 3)).getD 1 0)) := by
        have h := hcs 1 (by omega)
        simpa [Addr.add] using h
      rw [getD_drop'] at hc1
      obtain ⟨x1, hx1⟩ : ∃ x, xs.getD (k * 3 + 1) 0 = x := ⟨_, rfl⟩
      rw [hx1] at hc1
      have hc2 : wr.cell? ⟨ad.block, ad.off + 2, none⟩ = some (.int .i64 ((xs.drop (k * 3)).getD 2 0)) := by
        have h := hcs 2 (by omega)
        simpa [Addr.add] using h
      rw [getD_drop'] at hc2
      obtain ⟨x2, hx2⟩ : ∃ x, xs.getD (k * 3 + 2) 0 = x := ⟨_, rfl⟩
      rw [hx2] at hc2
      have hJd := hJ _ wr wr.drew none hJs ⟨rfl, rfl, rfl, Nat.le_refl _, fun _ _ _ => rfl⟩ (by simp)
      obtain ⟨fn, tmps, assign, body, hy, hR⟩ := hY _ (x0, x1, x2) wr.drew hJd (by rw [recsC_length]; have := HD.out; omega)
      dsimp only at hy
      have hX := recsC_succ xs k
      rw [hx0, hx1, hx2] at hX
      have HX := hide hX
      have hcut : Ints wr n₀ (if c' = 3 then some ad else some ⟨ad.block, ad.off + 3, none⟩) (d - 3) (xs.drop ((k + 1) * 3)) := by
        have h0 := HA.out.cut (k := 3) (m := d) (cap := c') hlt (Nat.le_refl _) hdc
        rw [List.take_of_length_le (by rw [HA.out.1]; exact Nat.le_refl _), List.drop_drop] at h0
        rw [show (k + 1) * 3 = k * 3 + 3 by omega]
        simpa [Addr.add] using h0
      have HCUT := hide hcut
      have HBB := hide hB
      have HKN : Hid (k + 1 ≤ n / 3) := by
        have := HD.out
        show k + 1 ≤ n / 3
        omega
      have HDN : Hid ((d - 3) + (k + 1) * 3 = n) := by
        have := HD.out
        show (d - 3) + (k + 1) * 3 = n
        omega
      clear hcs hcut hB hX hx0 hx1 hx2
      have hR' := hR.mono (R' := fun e W' => ∃ b, e = .returned (.bool b) ∧ ((b = true ∧ J (recsC xs k ++ [(x0, x1, x2)]) W' ∧ Below n₀ wr.drew W') ∨ (b = false ∧ Jx (recsC xs k ++ [(x0, x1, x2)]) W'))) (by
        rintro e W' (⟨rfl, h1, h2⟩ | ⟨rfl, h1⟩)
        · exact ⟨true, rfl, .inl ⟨rfl, h1, h2⟩⟩
        · exact ⟨false, rfl, .inr ⟨rfl, h1⟩⟩)
      clear hR
      gi_wp2
      refine wpIn_region_any (by kernel_rfl) ?_
      try (change wpAnyIn _ _ _ _ _ _ _ _ _ (World.drew _))
      refine wpAnyIn_take (i := 0) (v := .func (.yield l) #[] #[]) rfl rfl (by kernel_rfl) (by kernel_rfl) (by kernel_rfl) (fun _ _ _ h => h) ⟨Or.inl ⟨by rfl, fun w => by first | (go_simp; done) | (go_simp; intro h; omega)⟩, fun _ => rfl⟩ ?_
      refine wpAnyIn_take (i := 1) (v := .slice (some ad) d c') rfl rfl (by kernel_rfl) (by kernel_rfl) (by kernel_rfl) (fun _ _ _ h => h) ⟨Or.inl ⟨by rfl, fun w => by first | (go_simp; done) | (go_simp; intro h; omega)⟩, fun _ => rfl⟩ ?_
      refine wpAnyIn_take (i := 2) (v := .pointer (some ad)) rfl rfl (by kernel_rfl) (by kernel_rfl) (by kernel_rfl) (fun _ _ _ h => h) ⟨Or.inl ⟨by rfl, fun w => by first | (go_simp; done) | (go_simp; intro h; omega)⟩, fun _ => rfl⟩ ?_
      refine wpAnyIn_take (i := 4) (v := .slice (some ad) d c') rfl rfl (by kernel_rfl) (by kernel_rfl) (by kernel_rfl) (fun _ _ _ h => h) ⟨Or.inl ⟨by rfl, fun w => by first | (go_simp; done) | (go_simp; intro h; omega)⟩, fun _ => rfl⟩ ?_
      refine wpAnyIn_take (i := 5) (v := .pointer (some ⟨ad.block, ad.off + 1, none⟩)) rfl rfl (by kernel_rfl) (by kernel_rfl) (by kernel_rfl) (fun _ _ _ h => h) ⟨Or.inl ⟨by rfl, fun w => by first | (go_simp; done) | (go_simp; intro h; omega)⟩, fun _ => rfl⟩ ?_
      refine wpAnyIn_take (i := 7) (v := .slice (some ad) d c') rfl rfl (by kernel_rfl) (by kernel_rfl) (by kernel_rfl) (fun _ _ _ h => h) ⟨Or.inl ⟨by rfl, fun w => by first | (go_simp; done) | (go_simp; intro h; omega)⟩, fun _ => rfl⟩ ?_
      refine wpAnyIn_take (i := 8) (v := .pointer (some ⟨ad.block, ad.off + 2, none⟩)) rfl rfl (by kernel_rfl) (by kernel_rfl) (by kernel_rfl) (fun _ _ _ h => h) ⟨Or.inl ⟨by rfl, fun w => by first | (go_simp; done) | (go_simp; intro h; omega)⟩, fun _ => rfl⟩ ?_
      refine wpAnyIn_ready (rs := [3, 6, 9]) (by kernel_rfl) (by simp) ?_
      refine AllReadyIn.cons rfl (fun K hK => ?_) ?_
      · go_simp
        refine hK _ _ ?_
        clear hK K
        refine wpAnyIn_ready (rs := [6, 9]) (by kernel_rfl) (by simp) ?_
        refine AllReadyIn.cons rfl (fun K hK => ?_) ?_
        · go_simp
          refine hK _ _ ?_
          clear hK K
          refine wpAnyIn_ready (rs := [9]) (by kernel_rfl) (by simp) ?_
          refine AllReadyIn.cons rfl (fun K hK => ?_) ?_
          · go_simp
            refine hK _ _ ?_
            clear hK K
            refine wpAnyIn_take (i := 10) (v := .agg #[.int .i64 x0, .int .i64 x1, .int .i64 x2]) rfl rfl (by kernel_rfl) (by kernel_rfl) (by kernel_rfl) (fun _ _ _ h => h) ⟨Or.inl ⟨by rfl, fun w => by first | (go_simp; done) | (go_simp; intro h; omega)⟩, fun _ => rfl⟩ ?_
            refine wpAnyIn_ready (rs := [11]) (by kernel_rfl) (by simp) ?_
            refine AllReadyIn.cons rfl (fun K hK => ?_) AllReadyIn.nil
            go_simp
            (refine hR'.mono ?_; rintro e W3 ⟨b, rfl, hres⟩; refine hK _ _ ?_; clear hK K)
            refine wpAnyIn_ready (rs := [12]) (by kernel_rfl) (by simp) ?_
            refine AllReadyIn.cons rfl (fun K hK => ?_) AllReadyIn.nil
            go_simp
            (refine hK _ _ ?_; clear hK K)
            refine wpAnyIn_done (by kernel_rfl) ?_ _
            have HCUT2 := hide hres
            clear hres hR'
            try go_frame
            rcases HCUT2.out with ⟨rfl, hJ3, hk3⟩ | ⟨rfl, hJx3⟩
            · gi_wp2
              refine ⟨⟨k + 1, d - 3, c' - 3, _, rfl, HDN, by omega, by omega, by omega, ?_, ?_, ?_⟩, ?_⟩
              · exact (show Ints wr.drew _ _ _ _ from HCUT.out).below hk3 (Nat.le_refl _)
              · rw [HX.out]; exact hJ3
              · exact HBB.out.drew.trans hk3
              · simp [sliceLen]; omega
            · gi_wp2
              refine bodyPost_ret (results_none rfl _ _ _) rfl ?_
              exact ⟨⟨_, rfl⟩, .inr ⟨_, by rw [← HX.out]; exact recsC_prefix _ HKN.out, hJx3⟩⟩
          exact AllReadyIn.nil
        refine AllReadyIn.cons rfl (fun K hK => ?_) ?_
        · go_simp
          refine hK _ _ ?_
          clear hK K
          refine wpAnyIn_ready (rs := [6]) (by kernel_rfl) (by simp) ?_
          refine AllReadyIn.cons rfl (fun K hK => ?_) ?_
          · go_simp
            refine hK _ _ ?_
            clear hK K
            refine wpAnyIn_take (i := 10) (v := .agg #[.int .i64 x0, .int .i64 x1, .int .i64 x2]) rfl rfl (by kernel_rfl) (by kernel_rfl) (by kernel_rfl) (fun _ _ _ h => h) ⟨Or.inl ⟨by rfl, fun w => by first | (go_simp; done) | (go_simp; intro h; omega)⟩, fun _ => rfl⟩ ?_
            refine wpAnyIn_ready (rs := [11]) (by kernel_rfl) (by simp) ?_
            refine AllReadyIn.cons rfl (fun K hK => ?_) AllReadyIn.nil
            go_simp
            (refine hR'.mono ?_; rintro e W3 ⟨b, rfl, hres⟩; refine hK _ _ ?_; clear hK K)
            refine wpAnyIn_ready (rs := [12]) (by kernel_rfl) (by simp) ?_
            refine AllReadyIn.cons rfl (fun K hK => ?_) AllReadyIn.nil
            go_simp
            (refine hK _ _ ?_; clear hK K)
            refine wpAnyIn_done (by kernel_rfl) ?_ _
            have HCUT2 := hide hres
            clear hres hR'
            try go_frame
            rcases HCUT2.out with ⟨rfl, hJ3, hk3⟩ | ⟨rfl, hJx3⟩
            · gi_wp2
              refine ⟨⟨k + 1, d - 3, c' - 3, _, rfl, HDN, by omega, by omega, by omega, ?_, ?_, ?_⟩, ?_⟩
              · exact (show Ints wr.drew _ _ _ _ from HCUT.out).below hk3 (Nat.le_refl _)
              · rw [HX.out]; exact hJ3
              · exact HBB.out.drew.trans hk3
              · simp [sliceLen]; omega
            · gi_wp2
              refine bodyPost_ret (results_none rfl _ _ _) rfl ?_
              exact ⟨⟨_, rfl⟩, .inr ⟨_, by rw [← HX.out]; exact recsC_prefix _ HKN.out, hJx3⟩⟩
          exact AllReadyIn.nil
        exact AllReadyIn.nil
      refine AllReadyIn.cons rfl (fun K hK => ?_) ?_
      · go_simp
        refine hK _ _ ?_
        clear hK K
        refine wpAnyIn_ready (rs := [3, 9]) (by kernel_rfl) (by simp) ?_
        refine AllReadyIn.cons rfl (fun K hK => ?_) ?_
        · go_simp
          refine hK _ _ ?_
          clear hK K
          refine wpAnyIn_ready (rs := [9]) (by kernel_rfl) (by simp) ?_
          refine AllReadyIn.cons rfl (fun K hK => ?_) ?_
          · go_simp
            refine hK _ _ ?_
            clear hK K
            refine wpAnyIn_take (i := 10) (v := .agg #[.int .i64 x0, .int .i64 x1, .int .i64 x2]) rfl rfl (by kernel_rfl) (by kernel_rfl) (by kernel_rfl) (fun _ _ _ h => h) ⟨Or.inl ⟨by rfl, fun w => by first | (go_simp; done) | (go_simp; intro h; omega)⟩, fun _ => rfl⟩ ?_
            refine wpAnyIn_ready (rs := [11]) (by kernel_rfl) (by simp) ?_
            refine AllReadyIn.cons rfl (fun K hK => ?_) AllReadyIn.nil
            go_simp
            (refine hR'.mono ?_; rintro e W3 ⟨b, rfl, hres⟩; refine hK _ _ ?_; clear hK K)
            refine wpAnyIn_ready (rs := [12]) (by kernel_rfl) (by simp) ?_
            refine AllReadyIn.cons rfl (fun K hK => ?_) AllReadyIn.nil
            go_simp
            (refine hK _ _ ?_; clear hK K)
            refine wpAnyIn_done (by kernel_rfl) ?_ _
            have HCUT2 := hide hres
            clear hres hR'
            try go_frame
            rcases HCUT2.out with ⟨rfl, hJ3, hk3⟩ | ⟨rfl, hJx3⟩
            · gi_wp2
              refine ⟨⟨k + 1, d - 3, c' - 3, _, rfl, HDN, by omega, by omega, by omega, ?_, ?_, ?_⟩, ?_⟩
              · exact (show Ints wr.drew _ _ _ _ from HCUT.out).below hk3 (Nat.le_refl _)
              · rw [HX.out]; exact hJ3
              · exact HBB.out.drew.trans hk3
              · simp [sliceLen]; omega
            · gi_wp2
              refine bodyPost_ret (results_none rfl _ _ _) rfl ?_
              exact ⟨⟨_, rfl⟩, .inr ⟨_, by rw [← HX.out]; exact recsC_prefix _ HKN.out, hJx3⟩⟩
          exact AllReadyIn.nil
        refine AllReadyIn.cons rfl (fun K hK => ?_) ?_
        · go_simp
          refine hK _ _ ?_
          clear hK K
          refine wpAnyIn_ready (rs := [3]) (by kernel_rfl) (by simp) ?_
          refine AllReadyIn.cons rfl (fun K hK => ?_) ?_
          · go_simp
            refine hK _ _ ?_
            clear hK K
            refine wpAnyIn_take (i := 10) (v := .agg #[.int .i64 x0, .int .i64 x1, .int .i64 x2]) rfl rfl (by kernel_rfl) (by kernel_rfl) (by kernel_rfl) (fun _ _ _ h => h) ⟨Or.inl ⟨by rfl, fun w => by first | (go_simp; done) | (go_simp; intro h; omega)⟩, fun _ => rfl⟩ ?_
            refine wpAnyIn_ready (rs := [11]) (by kernel_rfl) (by simp) ?_
            refine AllReadyIn.cons rfl (fun K hK => ?_) AllReadyIn.nil
            go_simp
            (refine hR'.mono ?_; rintro e W3 ⟨b, rfl, hres⟩; refine hK _ _ ?_; clear hK K)
            refine wpAnyIn_ready (rs := [12]) (by kernel_rfl) (by simp) ?_
            refine AllReadyIn.cons rfl (fun K hK => ?_) AllReadyIn.nil
            go_simp
            (refine hK _ _ ?_; clear hK K)
            refine wpAnyIn_done (by kernel_rfl) ?_ _
            have HCUT2 := hide hres
            clear hres hR'
            try go_frame
            rcases HCUT2.out with ⟨rfl, hJ3, hk3⟩ | ⟨rfl, hJx3⟩
            · gi_wp2
              refine ⟨⟨k + 1, d - 3, c' - 3, _, rfl, HDN, by omega, by omega, by omega, ?_, ?_, ?_⟩, ?_⟩
              · exact (show Ints wr.drew _ _ _ _ from HCUT.out).below hk3 (Nat.le_refl _)
              · rw [HX.out]; exact hJ3
              · exact HBB.out.drew.trans hk3
              · simp [sliceLen]; omega
            · gi_wp2
              refine bodyPost_ret (results_none rfl _ _ _) rfl ?_
              exact ⟨⟨_, rfl⟩, .inr ⟨_, by rw [← HX.out]; exact recsC_prefix _ HKN.out, hJx3⟩⟩
          exact AllReadyIn.nil
        exact AllReadyIn.nil
      refine AllReadyIn.cons rfl (fun K hK => ?_) ?_
      · go_simp
        refine hK _ _ ?_
        clear hK K
        refine wpAnyIn_ready (rs := [3, 6]) (by kernel_rfl) (by simp) ?_
        refine AllReadyIn.cons rfl (fun K hK => ?_) ?_
        · go_simp
          refine hK _ _ ?_
          clear hK K
          refine wpAnyIn_ready (rs := [6]) (by kernel_rfl) (by simp) ?_
          refine AllReadyIn.cons rfl (fun K hK => ?_) ?_
          · go_simp
            refine hK _ _ ?_
            clear hK K
            refine wpAnyIn_take (i := 10) (v := .agg #[.int .i64 x0, .int .i64 x1, .int .i64 x2]) rfl rfl (by kernel_rfl) (by kernel_rfl) (by kernel_rfl) (fun _ _ _ h => h) ⟨Or.inl ⟨by rfl, fun w => by first | (go_simp; done) | (go_simp; intro h; omega)⟩, fun _ => rfl⟩ ?_
            refine wpAnyIn_ready (rs := [11]) (by kernel_rfl) (by simp) ?_
            refine AllReadyIn.cons rfl (fun K hK => ?_) AllReadyIn.nil
            go_simp
            (refine hR'.mono ?_; rintro e W3 ⟨b, rfl, hres⟩; refine hK _ _ ?_; clear hK K)
            refine wpAnyIn_ready (rs := [12]) (by kernel_rfl) (by simp) ?_
            refine AllReadyIn.cons rfl (fun K hK => ?_) AllReadyIn.nil
            go_simp
            (refine hK _ _ ?_; clear hK K)
            refine wpAnyIn_done (by kernel_rfl) ?_ _
            have HCUT2 := hide hres
            clear hres hR'
            try go_frame
            rcases HCUT2.out with ⟨rfl, hJ3, hk3⟩ | ⟨rfl, hJx3⟩
            · gi_wp2
              refine ⟨⟨k + 1, d - 3, c' - 3, _, rfl, HDN, by omega, by omega, by omega, ?_, ?_, ?_⟩, ?_⟩
              · exact (show Ints wr.drew _ _ _ _ from HCUT.out).below hk3 (Nat.le_refl _)
              · rw [HX.out]; exact hJ3
              · exact HBB.out.drew.trans hk3
              · simp [sliceLen]; omega
            · gi_wp2
              refine bodyPost_ret (results_none rfl _ _ _) rfl ?_
              exact ⟨⟨_, rfl⟩, .inr ⟨_, by rw [← HX.out]; exact recsC_prefix _ HKN.out, hJx3⟩⟩
          exact AllReadyIn.nil
        refine AllReadyIn.cons rfl (fun K hK => ?_) ?_
        · go_simp
          refine hK _ _ ?_
          clear hK K
          refine wpAnyIn_ready (rs := [3]) (by kernel_rfl) (by simp) ?_
          refine AllReadyIn.cons rfl (fun K hK => ?_) ?_
          · go_simp
            refine hK _ _ ?_
            clear hK K
            refine wpAnyIn_take (i := 10) (v := .agg #[.int .i64 x0, .int .i64 x1, .int .i64 x2]) rfl rfl (by kernel_rfl) (by kernel_rfl) (by kernel_rfl) (fun _ _ _ h => h) ⟨Or.inl ⟨by rfl, fun w => by first | (go_simp; done) | (go_simp; intro h; omega)⟩, fun _ => rfl⟩ ?_
            refine wpAnyIn_ready (rs := [11]) (by kernel_rfl) (by simp) ?_
            refine AllReadyIn.cons rfl (fun K hK => ?_) AllReadyIn.nil
            go_simp
            (refine hR'.mono ?_; rintro e W3 ⟨b, rfl, hres⟩; refine hK _ _ ?_; clear hK K)
            refine wpAnyIn_ready (rs := [12]) (by kernel_rfl) (by simp) ?_
            refine AllReadyIn.cons rfl (fun K hK => ?_) AllReadyIn.nil
            go_simp
            (refine hK _ _ ?_; clear hK K)
            refine wpAnyIn_done (by kernel_rfl) ?_ _
            have HCUT2 := hide hres
            clear hres hR'
            try go_frame
            rcases HCUT2.out with ⟨rfl, hJ3, hk3⟩ | ⟨rfl, hJx3⟩
            · gi_wp2
              refine ⟨⟨k + 1, d - 3, c' - 3, _, rfl, HDN, by omega, by omega, by omega, ?_, ?_, ?_⟩, ?_⟩
              · exact (show Ints wr.drew _ _ _ _ from HCUT.out).below hk3 (Nat.le_refl _)
              · rw [HX.out]; exact hJ3
              · exact HBB.out.drew.trans hk3
              · simp [sliceLen]; omega
            · gi_wp2
              refine bodyPost_ret (results_none rfl _ _ _) rfl ?_
              exact ⟨⟨_, rfl⟩, .inr ⟨_, by rw [← HX.out]; exact recsC_prefix _ HKN.out, hJx3⟩⟩
          exact AllReadyIn.nil
        exact AllReadyIn.nil
      exact AllReadyIn.nil
    · have hk2 : k = n / 3 := by have := HD.out; omega
      subst hk2
      gi_wp2
      go_end0
      exact ⟨⟨_, rfl⟩, .inl ⟨_, rfl, hJs⟩⟩
end Go.Proofs.YtfianpjoifcphaaGreat
