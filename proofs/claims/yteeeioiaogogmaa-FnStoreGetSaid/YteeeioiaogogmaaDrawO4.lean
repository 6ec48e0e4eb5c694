/-
  The drawn arguments of StoreGet.
-/
import Derived.Test.YteeeioiaogogmaaDrawO3
namespace Go.Proofs.Yteeeioiaogogmaa
open Go.RowKit
set_option linter.unusedVariables false
set_option maxRecDepth 100000

set_option maxHeartbeats 3200000 in
theorem drawSG_any (A : Option Addr) (n c : Nat) (bs : Nat → Int) (w : World) (hb : Bytes w w.heap.size A n bs) (hn : n ≤ c) (hc : c ≤ maxLen) :
    Calls Try.prog 17 #[.slice A n c] w fun e w' => ∃ A2 m c2 qs id ix, e = .returned (.tuple #[.slice A2 m c2, .int .i64 id, .int .i64 ix]) ∧ StoDrawn w w' A2 m c2 qs ∧ -1 ≤ id ∧ id ≤ 999 ∧ -1 ≤ ix ∧ ix ≤ 20 := by
  go_enter Try.func17, Try.ntmps17
  go_wp2_with fail
  refine (open_any A n c bs _ hb hn hc).mono ?_
  rintro e w1 ⟨rfl, hr, hB⟩
  have HB1 := hide hB
  clear hB hb
  go_wp2_with fail
  refine (store91_any _ 0 _ hr (by omega)).mono ?_
  rintro e w2 ⟨A2, m, c2, qs, p2, rfl, hp0, hp1, ho⟩
  have HO := hide ho
  clear ho hr
  have LAST : ∀ (wx : World) (px : Int), 0 ≤ px → px ≤ 300 → Hid (RO w1 wx w.heap.size px A2 m c2 qs) → Hid (∀ (v : Int), 1 ≤ v → Calls Try.prog 28 #[.pointer (some ⟨w.heap.size, 0, none⟩), .int .i64 v] wx fun e w' => ∃ x, e = .returned (.int .i64 x) ∧ 0 ≤ x ∧ x < v ∧ Hid (RO w1 w' w.heap.size (px + 1) A2 m c2 qs) ∧ wx.grownBy w' (some w.heap.size)) := by
    intro wx px h0 h1 HX v hv
    refine (pick_any _ _ v _ HX.out.rd (by omega) (by omega)).mono ?_
    rintro e w5 ⟨x, rfl, hx0, hx1, hr5, hg5⟩
    exact ⟨x, rfl, hx0, hx1, HX.out.pick hr5 hg5, hg5⟩
  have HLAST := hide LAST
  clear LAST
  have hm12 := HO.out.num
  by_cases hm0 : m = 0
  · subst hm0
    have h00 : decide ((0 : Int) < 0) = false := by decide
    go_wp2_with fail
    refine (HLAST.out _ _ (by omega) (by omega) HO.out |>.out 14 (by omega)).mono ?_
    rintro e w3 ⟨x, rfl, hx0, hx1, HO3, hg3⟩
    clear hg3 HO
    go_wp2_with fail
    refine (HLAST.out _ _ (by omega) (by omega) HO3.out |>.out 7 (by omega)).mono ?_
    rintro e w4 ⟨y, rfl, hy0, hy1, HO4, hg4⟩
    clear hg4 HO3
    go_wp2
    refine bodyPost_ret (results_tmp3 Try.results17 _ _ _) rfl ?_
    exact ⟨_, _, _, _, _, _, rfl, HO4.out.drawn rfl HB1.out, by omega, by omega, by omega, by omega⟩
  · have hmp : decide ((0 : Int) < (m : Int)) = true := by simp; omega
    have hmp' : 0 < m := by omega
    go_wp2_with fail
    refine (HLAST.out _ _ (by omega) (by omega) HO.out |>.out 5 (by omega)).mono ?_
    rintro e w3 ⟨v3, rfl, hv30, hv31, HO3, hg3⟩
    clear hg3 HO
    by_cases h0 : v3 = 0
    · subst h0
      go_wp2_with fail
      refine (HLAST.out _ _ (by omega) (by omega) HO3.out |>.out 14 (by omega)).mono ?_
      rintro e w4 ⟨x, rfl, hx0, hx1, HO4, hg4⟩
      clear hg4 HO3
      go_wp2_with fail
      refine (HLAST.out _ _ (by omega) (by omega) HO4.out |>.out 7 (by omega)).mono ?_
      rintro e w5 ⟨y, rfl, hy0, hy1, HO5, hg5⟩
      clear hg5 HO4
      go_wp2
      refine bodyPost_ret (results_tmp3 Try.results17 _ _ _) rfl ?_
      exact ⟨_, _, _, _, _, _, rfl, HO5.out.drawn rfl HB1.out, by omega, by omega, by omega, by omega⟩
    · have hv3 : decide ((0 : Int) < v3) = true := by simp; omega
      go_wp2_with fail
      refine (HLAST.out _ _ (by omega) (by omega) HO3.out |>.out m (by omega)).mono ?_
      rintro e w4 ⟨j, rfl, hj0, hj1, HO4, hg4⟩
      clear hg4 HO3
      obtain ⟨J, rfl⟩ := Int.eq_ofNat_of_zero_le hj0
      obtain ⟨q, hq⟩ : ∃ q, qs[J]? = some q := ⟨_, List.getElem?_eq_getElem (by rw [HO4.out.row.len]; omega)⟩
      have hql := HO4.out.len q (List.mem_of_getElem? hq)
      obtain ⟨ad, p, rfl, hp, hbp, hc0, hc1⟩ := HO4.out.row.objs.at_ hq
      obtain ⟨id, ws, qa, qc⟩ := q
      simp only [Oq.sl] at hc0 hc1 hql
      obtain ⟨k, hk⟩ : ∃ k, ws.length = k := ⟨_, rfl⟩
      rw [hk] at hc1 hql
      clear hq hk
      have HA : ∀ o : Obj, Hid (RO w1 ((w4.alloc o).drewN 1) w.heap.size (p2 + 1 + 1) (some ad) m c2 qs) := fun o => (HO4.out.below ((Below.refl _ _).alloc (Nat.le_refl _) o)).below (below_drewN (Below.refl _ _) 1)
      have HBL := hide (Blk.new w4 35 #[.int .i64 id, .slice qa k qc])
      have hRw : w.heap.size < w4.heap.size := HO4.out.rd.lt
      clear HO4
      have hx0 : (w4.alloc (.cells #[.int .i64 id, .slice qa k qc] 35)).cell? ⟨w4.heap.size, 0, none⟩ = some (.int .i64 id) := by rw [HBL.out.cell]; rfl
      have hx1 : (w4.alloc (.cells #[.int .i64 id, .slice qa k qc] 35)).cell? ⟨w4.heap.size, 1, none⟩ = some (.slice qa k qc) := by rw [HBL.out.cell]; rfl
      have HC := fun o => HLAST.out _ _ (by omega) (by omega) (HA o) |>.out (k + 2) (by omega)
      go_upto_region 5 with (fail)
      refine wp_region_held_drew (S := fun W => W.cell? ⟨w4.heap.size, 0, none⟩ = some (.int .i64 id) ∧ W.cell? ⟨w4.heap.size, 1, none⟩ = some (.slice qa k qc)) (by kernel_rfl) ⟨hx0, hx1⟩ (fun hHeld => ?_)
      refine wpAnyH_take (i := 0) (v := .slice (some ad) m c2) rfl (by kernel_rfl) (by kernel_rfl) (by kernel_rfl) (fun _ _ _ h => h) (Or.inl ⟨by kernel_rfl, fun w hSw => by (go_simp; done)⟩) (by assumption) ?_
      refine wpAnyH_take (i := 1) (v := .pointer (some ⟨w4.heap.size, 0, none⟩)) rfl (by kernel_rfl) (by kernel_rfl) (by kernel_rfl) (fun _ _ _ h => h) (Or.inl ⟨by kernel_rfl, fun w hSw => by (go_simp; done)⟩) (by assumption) ?_
      refine wpAnyH_take (i := 3) (v := .pointer (some ⟨w.heap.size, 0, none⟩)) rfl (by kernel_rfl) (by kernel_rfl) (by kernel_rfl) (fun _ _ _ h => h) (Or.inl ⟨by kernel_rfl, fun w hSw => by (go_simp; done)⟩) (by assumption) ?_
      refine wpAnyH_take (i := 4) (v := .pointer (some ⟨w4.heap.size, 1, none⟩)) rfl (by kernel_rfl) (by kernel_rfl) (by kernel_rfl) (fun _ _ _ h => h) (Or.inl ⟨by kernel_rfl, fun w hSw => by (go_simp; done)⟩) (by assumption) ?_
      refine wpAnyH_take (i := 2) (v := .int .i64 id) rfl (by kernel_rfl) (by kernel_rfl) (by kernel_rfl) (fun _ _ _ h => h) (Or.inl ⟨by kernel_rfl, fun w hSw => by obtain ⟨s0, s1⟩ := hSw; (go_simp; done)⟩) (by assumption) ?_
      refine wpAnyH_take (i := 5) (v := .slice qa k qc) rfl (by kernel_rfl) (by kernel_rfl) (by kernel_rfl) (fun _ _ _ h => h) (Or.inl ⟨by kernel_rfl, fun w hSw => by obtain ⟨s0, s1⟩ := hSw; (go_simp; done)⟩) (by assumption) ?_
      refine wpAnyH_take (i := 6) (v := .int .i64 (k : Int)) rfl (by kernel_rfl) (by kernel_rfl) (by kernel_rfl) (fun _ _ _ h => h) (Or.inl ⟨by kernel_rfl, fun w hSw => by (go_simp; done)⟩) (by assumption) ?_
      refine wpAnyH_take (i := 7) (v := .int .i64 ((k : Int) + 2)) rfl (by kernel_rfl) (by kernel_rfl) (by kernel_rfl) (fun _ _ _ h => h) (Or.inl ⟨by kernel_rfl, fun w hSw => by (go_simp; exact IntWalk.i64_in _ (by omega))⟩) (by assumption) ?_
      refine wpAnyH_ready (rs := [8]) (by kernel_rfl) (by simp) ?_
      refine AllReadyH.cons rfl (fun K hK => ?_) AllReadyH.nil
      go_simp
      refine (HC _).mono ?_
      rintro e w5 ⟨y, rfl, hy0, hy1, HO5, hg5⟩
      refine hK.out _ _ ⟨(grown_cell hg5 (p := ⟨w4.heap.size, 0, none⟩) (by simp) (by simp; omega)).trans hx0, (grown_cell hg5 (p := ⟨w4.heap.size, 1, none⟩) (by simp) (by simp; omega)).trans hx1⟩ (fun hHeld => ?_)
      clear hK K
      refine wpAnyH_take (i := 9) (v := .int .i64 (y - 1)) rfl (by kernel_rfl) (by kernel_rfl) (by kernel_rfl) (fun _ _ _ h => h) (Or.inl ⟨by kernel_rfl, fun w hSw => by (go_simp; exact IntWalk.i64_in _ (by omega))⟩) (by assumption) ?_
      refine wpAnyH_take (i := 10) (v := .slice (some ad) m c2) rfl (by kernel_rfl) (by kernel_rfl) (by kernel_rfl) (fun _ _ _ h => h) (Or.inl ⟨by kernel_rfl, fun w hSw => by (go_simp; done)⟩) (by assumption) ?_
      refine wpAnyH_take (i := 11) (v := .int .i64 id) rfl (by kernel_rfl) (by kernel_rfl) (by kernel_rfl) (fun _ _ _ h => h) (Or.inl ⟨by kernel_rfl, fun w hSw => by (go_simp; done)⟩) (by assumption) ?_
      refine wpAnyH_take (i := 12) (v := .int .i64 (y - 1)) rfl (by kernel_rfl) (by kernel_rfl) (by kernel_rfl) (fun _ _ _ h => h) (Or.inl ⟨by kernel_rfl, fun w hSw => by (go_simp; done)⟩) (by assumption) ?_
      refine wpAnyH_done (by kernel_rfl) ?_ _
      clear hg5 hHeld HC
      go_wp2
      refine bodyPost_ret (results_tmp3 Try.results17 _ _ _) rfl ?_
      exact ⟨_, _, _, _, _, _, rfl, HO5.out.drawn rfl HB1.out, hql.2.1, hql.2.2, by omega, by omega⟩
end Go.Proofs.Yteeeioiaogogmaa
