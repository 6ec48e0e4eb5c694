/-
  The exact laws' helpers on elements of a map: copies, equality, marks, a count.
-/
import Derived.Test.YtfianpjoifcphaaGreatG1
import Derived.Test.YtfianpjoifcphaaGreatG2
import Derived.Deep.RegionHeld3
import Derived.Handy
namespace Go.Proofs.YtfianpjoifcphaaGreat
open Go.RowKit
set_option linter.unusedVariables false
set_option maxRecDepth 100000

theorem ints_at5 {w : World} {B n k : Nat} {A : Option Addr} {xs : List Int} (h : Ints w B A (n * 5) xs) (hk : k < n) : ∃ ad p, A = some ad ∧ ad.add (k * 5) = p ∧ p.block < B ∧ w.cell? p = some (.int .i64 (xs.getD (k * 5) 0)) ∧ w.cell? ⟨p.block, p.off + 1, none⟩ = some (.int .i64 (xs.getD (k * 5 + 1) 0)) ∧ w.cell? ⟨p.block, p.off + 2, none⟩ = some (.int .i64 (xs.getD (k * 5 + 2) 0)) ∧ w.cell? ⟨p.block, p.off + 3, none⟩ = some (.int .i64 (xs.getD (k * 5 + 3) 0)) ∧ w.cell? ⟨p.block, p.off + 4, none⟩ = some (.int .i64 (xs.getD (k * 5 + 4) 0)) := by
  obtain ⟨ad, e, hb, hc⟩ := h.2 (by omega)
  exact ⟨ad, _, e, rfl, by rw [block_of_add]; exact hb, hc _ (by omega), cell_next' (by decide) rfl (hc (k * 5 + 1) (by omega)), cell_next' (by decide) rfl (hc (k * 5 + 2) (by omega)), cell_next' (by decide) rfl (hc (k * 5 + 3) (by omega)), cell_next' (by decide) rfl (hc (k * 5 + 4) (by omega))⟩

set_option maxHeartbeats 400000 in
theorem szW_any (A : Option Addr) (n c : Nat) (l : Int) (w : World) (hn : n ≤ 9223372036854775807) (h0 : 0 ≤ l) (hl : l ≤ 9223372036854775807) :
    Calls Tryz.prog 57 #[.slice A n c, .int .i64 l] w fun e w' => e = .returned (.int .i64 (if l < n then -1 else l - n)) ∧ w = w' := by
  by_cases h : l < n
  · have h' : l - n < 0 := by omega
    go_enter Tryz.func57, Tryz.ntmps57
    go_wp2
    go_ret
    exact ⟨ret_int (by first | rfl | rw [if_pos h]), rfl⟩
  · have h' : ¬ l - n < 0 := by omega
    go_enter Tryz.func57, Tryz.ntmps57
    go_wp2
    go_ret
    exact ⟨ret_int (by first | rfl | rw [if_neg h]), rfl⟩

set_option maxHeartbeats 1600000 in
theorem toWhere_any (x0 x1 x2 x3 x4 : Int) (w : World) :
    Calls Tryz.prog 132 #[.agg #[.int .i64 x0, .int .i64 x1, .int .i64 x2, .int .i64 x3, .int .i64 x4]] w fun e w' => e = .returned (.agg #[.int .i64 x0, .int .i64 x1, .int .i64 x2, .int .i64 x3, .int .i64 x4]) ∧ Below w.heap.size w w' := by
  go_enter Tryz.func132, Tryz.ntmps132
  go_wp2
  refine bodyPost_ret (v := .agg #[.int .i64 x0, .int .i64 x1, .int .i64 x2, .int .i64 x3, .int .i64 x4]) (by simp [results, Tryz.results132, go_sem]) rfl ?_
  exact ⟨rfl, by go_grown⟩

theorem made_sameW (z : Array Value) (v : Value) (hz : 0 < z.size) (h : ∀ i, i < z.size → z[i]! = v) (n : Nat) : (madeCells z n).toList = List.replicate n v := by
  apply List.ext_getElem
  · simp [madeCells]
  · intro i h1 h2
    simp only [madeCells, Array.toList_map, List.getElem_map, List.getElem_replicate]
    exact h _ (Nat.mod_lt _ hz)
theorem ext_getD_ExHM {xs ys : List Int} (hl : xs.length = ys.length) (h : ∀ j, j < xs.length → xs.getD j 0 = ys.getD j 0) : xs = ys := by
  apply List.ext_getElem hl
  intro i h1 h2
  have := h i h1
  simpa [List.getD, h1, h2] using this
theorem getD_set__ExHM (xs : List Int) (k j : Nat) (x : Int) (hk : k < xs.length) : (xs.set k x).getD j 0 = if k = j then x else xs.getD j 0 := by
  by_cases h : k = j
  · subst h; simp [List.getD, hk]
  · unfold List.getD; rw [List.getElem?_set_ne h, if_neg h]

set_option maxHeartbeats 6400000 in
theorem toWhereS_any (A : Option Addr) (n c B : Nat) (xs : List Int) (w : World) (hr : Ints w B A (n * 5) xs) (hB : B ≤ w.heap.size) (hn : n ≤ 1000000000) :
    Calls Tryz.prog 65 #[.slice A n c] w fun e w' => ∃ A2 c2, e = .returned (.slice A2 n c2) ∧ OwnR w' w.heap.size 141 5 A2 n c2 xs ∧ Below w.heap.size w w' := by
  obtain ⟨i0, hi, hz0, hz1, hz2⟩ := info_parts whT.info
  have HR := hide hr
  have HL := hide hr.1
  clear hr
  go_enter Tryz.func65, Tryz.ntmps65
  go_wp2_with (at_make; refine wpList_make_full _ rfl _ _ 26 rfl w.heap.size 141 i0 (Value.agg #[.int .i64 0, .int .i64 0, .int .i64 0, .int .i64 0, .int .i64 0]) 5 Tryz.underlying26 hi hz0 hz1 .i64 .i64 _ _ n rfl rfl rfl rfl (by rw [hz2]; omega) (by unfold maxLen; omega) (Nat.le_refl _) ?_; intro w1 hown hgrow)
  have ho : OwnR w1 w.heap.size 141 5 (some ⟨w.heap.size, 0, none⟩) n n (List.replicate (n * 5) 0) := by
    refine ⟨by simp, ?_⟩
    have e : (madeCells (Value.agg #[.int .i64 0, .int .i64 0, .int .i64 0, .int .i64 0, .int .i64 0]).cells (n * 5)).toList = (List.replicate (n * 5) (0 : Int)).map (Value.int .i64) := by
      rw [List.map_replicate]
      exact made_sameW _ _ (by decide) (fun i hi => by have h2 : i < 5 := hi; rcases i with _ | _ | _ | _ | _ | i <;> first | rfl | omega) _
    rw [← e]
    exact hown
  have hB1 : Below w.heap.size w w1 := below_of_grown hgrow
  clear hown hgrow hi hz0 hz1 hz2
  go_loopw [4] (fun i wr => ∃ (k : Nat) (ys : List Int), k ≤ n ∧ i = .int .i64 k ∧ Hid (OwnR wr w.heap.size 141 5 (some ⟨w.heap.size, 0, none⟩) n n ys) ∧ Hid (∀ j, j < k * 5 → ys.getD j 0 = xs.getD j 0) ∧ Hid (Below w.heap.size w wr))
    (fun i _ => n - (intOf i).toNat)
  case atStart => exact ⟨0, _, Nat.zero_le _, rfl, ho, by intro j hj; omega, hB1⟩
  case round =>
    clear ho hB1
    obtain ⟨k, ys, hk, rfl, HO, HP, HBB⟩ := hrel
    by_cases hlt : k < n
    · obtain ⟨ad, q, rfl, hq, hb, hc0, hc1, hc2, hc3, hc4⟩ := ints_at5 (HR.out.below HBB.out hB) hlt
      obtain ⟨x0, hx0⟩ : ∃ x, xs.getD (k * 5) 0 = x := ⟨_, rfl⟩
      rw [hx0] at hc0
      obtain ⟨x1, hx1⟩ : ∃ x, xs.getD (k * 5 + 1) 0 = x := ⟨_, rfl⟩
      rw [hx1] at hc1
      obtain ⟨x2, hx2⟩ : ∃ x, xs.getD (k * 5 + 2) 0 = x := ⟨_, rfl⟩
      rw [hx2] at hc2
      obtain ⟨x3, hx3⟩ : ∃ x, xs.getD (k * 5 + 3) 0 = x := ⟨_, rfl⟩
      rw [hx3] at hc3
      obtain ⟨x4, hx4⟩ : ∃ x, xs.getD (k * 5 + 4) 0 = x := ⟨_, rfl⟩
      rw [hx4] at hc4
      have HX := hide (And.intro hx0 (And.intro hx1 (And.intro hx2 (And.intro hx3 hx4))))
      clear hx0 hx1 hx2 hx3 hx4
      go_wp2_with fail
      refine (toWhere_any x0 x1 x2 x3 x4 _).mono ?_
      rintro e w2 ⟨rfl, hb2⟩
      have hown := HO.out.below hb2
      have hsz := HBB.out.size
      have hfree0 := hown.free (g := w.heap.size) (j := k * 5)
      have hcell0 := hown.cell (g := w.heap.size) (j := k * 5) (by omega)
      have hst0 := hown.stored (g := w.heap.size) (j := k * 5) x0
      have hfree1 := hst0.1.free (g := w.heap.size) (j := k * 5 + 1)
      have hcell1 := hst0.1.cell (g := w.heap.size) (j := k * 5 + 1) (by omega)
      have hst1 := hst0.1.stored (g := w.heap.size) (j := k * 5 + 1) x1
      have hfree2 := hst1.1.free (g := w.heap.size) (j := k * 5 + 2)
      have hcell2 := hst1.1.cell (g := w.heap.size) (j := k * 5 + 2) (by omega)
      have hst2 := hst1.1.stored (g := w.heap.size) (j := k * 5 + 2) x2
      have hfree3 := hst2.1.free (g := w.heap.size) (j := k * 5 + 3)
      have hcell3 := hst2.1.cell (g := w.heap.size) (j := k * 5 + 3) (by omega)
      have hst3 := hst2.1.stored (g := w.heap.size) (j := k * 5 + 3) x3
      have hfree4 := hst3.1.free (g := w.heap.size) (j := k * 5 + 4)
      have hcell4 := hst3.1.cell (g := w.heap.size) (j := k * 5 + 4) (by omega)
      have hst4 := hst3.1.stored (g := w.heap.size) (j := k * 5 + 4) x4
      have HS := hide (show OwnR _ w.heap.size 141 5 (some ⟨w.heap.size, 0, none⟩) n n (((((ys.set (k * 5) x0).set (k * 5 + 1) x1).set (k * 5 + 2) x2).set (k * 5 + 3) x3).set (k * 5 + 4) x4) from hst4.1)
      have HB3 := hide ((HBB.out.trans (hb2.mono hsz)).grown (grown_trans' (grown_trans' (grown_trans' (grown_trans' hst0.2 hst1.2) hst2.2) hst3.2) hst4.2) (by have := hb2.size; omega) (by intro g hg; injection hg with hg; omega))
      have hyl := hown.1
      have HP3 : Hid (∀ j, j < (k + 1) * 5 → (((((ys.set (k * 5) x0).set (k * 5 + 1) x1).set (k * 5 + 2) x2).set (k * 5 + 3) x3).set (k * 5 + 4) x4).getD j 0 = xs.getD j 0) := by
        intro j hj
        have hx := HX.out
        rw [getD_set__ExHM _ _ _ _ (by simp; omega), getD_set__ExHM _ _ _ _ (by simp; omega), getD_set__ExHM _ _ _ _ (by simp; omega), getD_set__ExHM _ _ _ _ (by simp; omega), getD_set__ExHM _ _ _ _ (by omega)]
        split
        · rename_i h; subst h; exact (hx.2.2.2.2).symm
        split
        · rename_i h; subst h; exact (hx.2.2.2.1).symm
        split
        · rename_i h; subst h; exact (hx.2.2.1).symm
        split
        · rename_i h; subst h; exact (hx.2.1).symm
        split
        · rename_i h; subst h; exact (hx.1).symm
        exact HP.out j (by omega)
      clear hst0 hst1 hst2 hst3 hst4 hown hb2 hyl HO HBB
      go_wp2
      go_roundw
      case rel => exact ⟨k + 1, _, by omega, by go_num, HS.out, HP3, HB3.out⟩
      case measure => simp [intOf]; omega
    · obtain rfl : k = n := by omega
      have hys : ys = xs := ext_getD_ExHM (by rw [HO.out.1, HL.out]) (fun j hj => HP.out j (by rw [HO.out.1] at hj; exact hj))
      subst hys
      go_wp2
      go_ret
      exact ⟨_, _, rfl, HO.out, HBB.out⟩

set_option maxHeartbeats 1600000 in
theorem eqWhere_yes (x0 x1 x2 x3 x4 : Int) (w : World) :
    Calls Tryz.prog 139 #[.agg #[.int .i64 x0, .int .i64 x1, .int .i64 x2, .int .i64 x3, .int .i64 x4], .agg #[.int .i64 x0, .int .i64 x1, .int .i64 x2, .int .i64 x3, .int .i64 x4]] w fun e w' => e = .returned (.bool true) ∧ Below w.heap.size w w' := by
  go_enter Tryz.func139, Tryz.ntmps139
  go_wp2
  go_ret
  exact ⟨rfl, (below_new w _).alloc (by simp) _⟩

set_option maxHeartbeats 6400000 in
theorem eqWhereS_yes (A A' : Option Addr) (n c d B B' : Nat) (xs : List Int) (w : World) (hx : Ints w B A (n * 5) xs) (hB : B ≤ w.heap.size) (hy : Ints w B' A' (n * 5) xs) (hB' : B' ≤ w.heap.size) (hn : n ≤ 1000000000) :
    Calls Tryz.prog 72 #[.slice A n c, .slice A' n d] w fun e w' => e = .returned (.bool true) ∧ Below w.heap.size w w' := by
  have HX := hide hx
  have HY := hide hy
  clear hx hy
  go_enter Tryz.func72, Tryz.ntmps72
  go_wp2
  go_loopw [5] (fun i wr => ∃ k : Nat, k ≤ n ∧ i = .int .i64 k ∧ Hid (Below w.heap.size w wr)) (fun i _ => n - (intOf i).toNat)
  case atStart => exact ⟨0, Nat.zero_le _, rfl, Below.refl _ _⟩
  case round =>
    obtain ⟨k, hk, rfl, HW⟩ := hrel
    by_cases hlt : k < n
    · obtain ⟨ad, p, rfl, hp, hb, hc0, hc1, hc2, hc3, hc4⟩ := ints_at5 (HX.out.below HW.out hB) hlt
      obtain ⟨ad', p', rfl, hp', hb', hd0, hd1, hd2, hd3, hd4⟩ := ints_at5 (HY.out.below HW.out hB') hlt
      have k0 : (0 : Int) ≤ (k : Int) := by omega
      have k1 : (k : Int) < (n : Int) := by omega
      obtain ⟨x0, hx0⟩ : ∃ x, xs.getD (k * 5) 0 = x := ⟨_, rfl⟩
      rw [hx0] at hc0 hd0
      obtain ⟨x1, hx1⟩ : ∃ x, xs.getD (k * 5 + 1) 0 = x := ⟨_, rfl⟩
      rw [hx1] at hc1 hd1
      obtain ⟨x2, hx2⟩ : ∃ x, xs.getD (k * 5 + 2) 0 = x := ⟨_, rfl⟩
      rw [hx2] at hc2 hd2
      obtain ⟨x3, hx3⟩ : ∃ x, xs.getD (k * 5 + 3) 0 = x := ⟨_, rfl⟩
      rw [hx3] at hc3 hd3
      obtain ⟨x4, hx4⟩ : ∃ x, xs.getD (k * 5 + 4) 0 = x := ⟨_, rfl⟩
      rw [hx4] at hc4 hd4
      have hsz := HW.out.size
      have hpl : p.block < wr.heap.size := by omega
      have hpl' : p'.block < wr.heap.size := by omega
      clear hx0 hx1 hx2 hx3 hx4
      go_wp2_with fail
      go_region_held3 (fun W => W.cell? p = some (.int .i64 x0) ∧ W.cell? ⟨p.block, p.off + 1, none⟩ = some (.int .i64 x1) ∧ W.cell? ⟨p.block, p.off + 2, none⟩ = some (.int .i64 x2) ∧ W.cell? ⟨p.block, p.off + 3, none⟩ = some (.int .i64 x3) ∧ W.cell? ⟨p.block, p.off + 4, none⟩ = some (.int .i64 x4) ∧ W.cell? p' = some (.int .i64 x0) ∧ W.cell? ⟨p'.block, p'.off + 1, none⟩ = some (.int .i64 x1) ∧ W.cell? ⟨p'.block, p'.off + 2, none⟩ = some (.int .i64 x2) ∧ W.cell? ⟨p'.block, p'.off + 3, none⟩ = some (.int .i64 x3) ∧ W.cell? ⟨p'.block, p'.off + 4, none⟩ = some (.int .i64 x4))
        (first
          | go_keep
          | (exact ⟨(hb1.cell (p := p) hpl).trans hc0, (hb1.cell (p := ⟨p.block, p.off + 1, none⟩) hpl).trans hc1, (hb1.cell (p := ⟨p.block, p.off + 2, none⟩) hpl).trans hc2, (hb1.cell (p := ⟨p.block, p.off + 3, none⟩) hpl).trans hc3, (hb1.cell (p := ⟨p.block, p.off + 4, none⟩) hpl).trans hc4, (hb1.cell (p := p') hpl').trans hd0, (hb1.cell (p := ⟨p'.block, p'.off + 1, none⟩) hpl').trans hd1, (hb1.cell (p := ⟨p'.block, p'.off + 2, none⟩) hpl').trans hd2, (hb1.cell (p := ⟨p'.block, p'.off + 3, none⟩) hpl').trans hd3, (hb1.cell (p := ⟨p'.block, p'.off + 4, none⟩) hpl').trans hd4⟩))
        ((first
          | (go_at_call 139; refine (eqWhere_yes x0 x1 x2 x3 x4 _).mono ?_; rintro e w1 ⟨rfl, hb1'⟩; have hb1 : Below wr.heap.size wr w1 := ⟨hb1'.os, hb1'.tape, hb1'.output, hb1'.size, hb1'.block⟩; clear hb1')))
      have HW1 := hide (HW.out.trans (hb1.mono hsz))
      clear hb1
      go_wp2
      go_roundw
      case rel => exact ⟨k + 1, by omega, by go_num, HW1⟩
      case measure => simp [intOf]; omega
    · obtain rfl : k = n := by omega
      go_wp2
      go_ret
      exact ⟨rfl, HW.out⟩

set_option maxHeartbeats 3200000 in
theorem markWhereS_any (A : Option Addr) (n c base : Nat) (k : Int) (xs : List Int) (w : World) (ho : OwnR w base 141 5 A n c xs) (hk0 : 0 ≤ k) (hk : k ≤ 1000000000) (hn : n ≤ 1000000000) :
    Calls Tryz.prog 75 #[.slice A n c, .int .i64 k] w fun e w' => e = .returned (.int .i64 (k + (n * 5 : Nat))) ∧ OwnR w' base 141 5 A n c (marks k (n * 5)) ∧ w.grownBy w' (Value.slice A n c).ownBlock := by
  by_cases hn0 : n = 0
  · subst hn0
    have hx : xs = [] := List.eq_nil_of_length_eq_zero (by have := ho.1; simpa using this)
    subst hx
    go_enter Tryz.func75, Tryz.ntmps75
    go_wp2
    refine wp_loop_rounds 1 ?_
    rw [rounds_succ]
    go_wp2
    go_ret
    exact ⟨ret_int (by simp), by simpa [marks] using ho, grown_refl w _⟩
  · obtain ⟨g, rfl, hgb, hgl⟩ := ho.shape (by omega)
    have HL := hide ho.1
    go_enter Tryz.func75, Tryz.ntmps75
    go_wp2
    go_loopw [1, 5] (fun kk i wr => ∃ (j : Nat) (v : Int), j ≤ n ∧ i = .int .i64 j ∧ kk = .int .i64 v ∧ 0 ≤ v ∧ v ≤ 7000000000 ∧ Hid (v = k + (j * 5 : Nat)) ∧ Hid (OwnR wr base 141 5 (some ⟨g, 0, none⟩) n c (markTo k xs (j * 5))) ∧ Hid (w.grownBy wr (some g))) (fun _ i _ => n - (intOf i).toNat)
    case atStart => exact ⟨0, k, Nat.zero_le _, rfl, rfl, hk0, by omega, by show _ = _; simp, by show OwnR _ _ _ _ _ _ _ _; simpa [markTo_zero] using ho, grown_refl w _⟩
    case round =>
      obtain ⟨j, v, hj, rfl, rfl, hv0, hv1, HVV, HO, HGG⟩ := hrel
      by_cases hlt : j < n
      · have hv := HVV.out
        have hown0 := HO.out
        have hf0 := hown0.free (g := g) (j := j * 5)
        have hc0 := hown0.cell (g := g) (j := j * 5) (by omega)
        have hst0 := hown0.stored (g := g) (j := j * 5) (k + (j * 5 : Nat))
        rw [markTo_succ _ _ _ (by rw [HL.out]; omega), show k + ((j * 5 : Nat) : Int) = v by omega] at hst0
        have hown1 := hst0.1
        have hf1 := hown1.free (g := g) (j := j * 5 + 1)
        have hc1 := hown1.cell (g := g) (j := j * 5 + 1) (by omega)
        have hst1 := hown1.stored (g := g) (j := j * 5 + 1) (k + (j * 5 + 1 : Nat))
        rw [markTo_succ _ _ _ (by rw [HL.out]; omega), show k + ((j * 5 + 1 : Nat) : Int) = v + 1 by omega] at hst1
        have hown2 := hst1.1
        have hf2 := hown2.free (g := g) (j := j * 5 + 2)
        have hc2 := hown2.cell (g := g) (j := j * 5 + 2) (by omega)
        have hst2 := hown2.stored (g := g) (j := j * 5 + 2) (k + (j * 5 + 2 : Nat))
        rw [markTo_succ _ _ _ (by rw [HL.out]; omega), show k + ((j * 5 + 2 : Nat) : Int) = v + 1 + 1 by omega] at hst2
        have hown3 := hst2.1
        have hf3 := hown3.free (g := g) (j := j * 5 + 3)
        have hc3 := hown3.cell (g := g) (j := j * 5 + 3) (by omega)
        have hst3 := hown3.stored (g := g) (j := j * 5 + 3) (k + (j * 5 + 3 : Nat))
        rw [markTo_succ _ _ _ (by rw [HL.out]; omega), show k + ((j * 5 + 3 : Nat) : Int) = v + 1 + 1 + 1 by omega] at hst3
        have hown4 := hst3.1
        have hf4 := hown4.free (g := g) (j := j * 5 + 4)
        have hc4 := hown4.cell (g := g) (j := j * 5 + 4) (by omega)
        have hst4 := hown4.stored (g := g) (j := j * 5 + 4) (k + (j * 5 + 4 : Nat))
        rw [markTo_succ _ _ _ (by rw [HL.out]; omega), show k + ((j * 5 + 4 : Nat) : Int) = v + 1 + 1 + 1 + 1 by omega] at hst4
        have hown5 := hst4.1
        have HS := hide hown5
        have HG := hide (grown_trans' HGG.out (grown_trans' (grown_trans' (grown_trans' (grown_trans' hst0.2 hst1.2) hst2.2) hst3.2) hst4.2))
        generalize (markTo k xs (j * 5)).getD (j * 5) 0 = z0 at hc0
        generalize (markTo k xs (j * 5 + 1)).getD (j * 5 + 1) 0 = z1 at hc1
        generalize (markTo k xs (j * 5 + 2)).getD (j * 5 + 2) 0 = z2 at hc2
        generalize (markTo k xs (j * 5 + 3)).getD (j * 5 + 3) 0 = z3 at hc3
        generalize (markTo k xs (j * 5 + 4)).getD (j * 5 + 4) 0 = z4 at hc4
        clear hst0 hst1 hst2 hst3 hst4 hown0 hown1 hown2 hown3 hown4 hown5 hv HO HGG
        go_wp2
        go_roundw
        case rel => exact ⟨j + 1, v + 1 + 1 + 1 + 1 + 1, by omega, by go_num, rfl, by have := HVV.out; omega, by have := HVV.out; omega, by have := HVV.out; show _ = _; omega, by show OwnR _ _ _ _ _ _ _ _; rw [show (j + 1) * 5 = j * 5 + 5 by omega]; exact HS.out, HG.out⟩
        case measure => simp [intOf]; omega
      · obtain rfl : j = n := by omega
        have hm : markTo k xs (j * 5) = marks k (j * 5) := by rw [← HL.out]; exact markTo_all k xs
        rw [hm] at HO
        clear hm
        go_wp2
        go_ret
        exact ⟨ret_int HVV.out, HO.out, HGG.out⟩

set_option maxHeartbeats 3200000 in
theorem heldWhereS_any (A : Option Addr) (n c B : Nat) (k : Int) (w : World) (hi : Ints w B A (n * 5) (marks k (n * 5))) (hk0 : 0 ≤ k) (hk : k ≤ 1000000000) (hn : n ≤ 1000000000) :
    Calls Tryz.prog 78 #[.slice A n c, .int .i64 k] w fun e w' => e = .returned (.int .i64 (k + (n * 5 : Nat))) ∧ w = w' := by
  have HI := hide hi
  clear hi
  go_enter Tryz.func78, Tryz.ntmps78
  go_wp2
  go_loop [1, 5] (fun kk i => ∃ (k' : Nat) (v : Int), k' ≤ n ∧ i = .int .i64 k' ∧ kk = .int .i64 v ∧ 0 ≤ v ∧ v ≤ 7000000000 ∧ Hid (v = k + (k' * 5 : Nat))) (fun _ i => n - (intOf i).toNat)
  case atStart => exact ⟨0, k, Nat.zero_le _, rfl, rfl, hk0, by omega, by show _ = _; simp⟩
  case round =>
    obtain ⟨k', v, hj, rfl, rfl, hv0, hv1, HVV⟩ := hrel
    by_cases hlt : k' < n
    · obtain ⟨ad, q, rfl, hq, hb, hc0, hc1, hc2, hc3, hc4⟩ := ints_at5 HI.out hlt
      have hv := HVV.out
      rw [marks_getD _ _ _ (by omega), show k + ((k' * 5 : Nat) : Int) = v by omega] at hc0
      rw [marks_getD _ _ _ (by omega), show k + ((k' * 5 + 1 : Nat) : Int) = v + 1 by omega] at hc1
      rw [marks_getD _ _ _ (by omega), show k + ((k' * 5 + 2 : Nat) : Int) = v + 1 + 1 by omega] at hc2
      rw [marks_getD _ _ _ (by omega), show k + ((k' * 5 + 3 : Nat) : Int) = v + 1 + 1 + 1 by omega] at hc3
      rw [marks_getD _ _ _ (by omega), show k + ((k' * 5 + 4 : Nat) : Int) = v + 1 + 1 + 1 + 1 by omega] at hc4
      clear hv
      go_wp2
      go_round
      case rel => exact ⟨k' + 1, v + 1 + 1 + 1 + 1 + 1, by omega, by go_num, rfl, by have := HVV.out; omega, by have := HVV.out; omega, by have := HVV.out; show _ = _; omega⟩
      case measure => simp [intOf]; omega
    · obtain rfl : k' = n := by omega
      go_wp2
      go_ret
      exact ⟨ret_int HVV.out, rfl⟩
end Go.Proofs.YtfianpjoifcphaaGreat
