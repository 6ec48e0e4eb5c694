/-
  Drawn columns and checks: l93Columns, l93Check.
-/
import Derived.Test.YtldbcenipahkfaaDrawH1
import Derived.Test.YtldbcenipahkfaaSpecK1
import Derived.Deep.DeepCutAuto
import Derived.Deep.CutBlock
namespace Go.Proofs.Ytldbcenipahkfaa
open Go.RowKit
set_option linter.unusedVariables false
set_option maxRecDepth 100000

/-- what is handed back -/
def DrawnK (w0 : World) (R : Nat) (p : Int) (e : Ending) (w' : World) : Prop :=
  ∃ (A : Option Addr) (n c : Nat) (xs : List Int) (p' : Int), e = .returned (.slice A n c) ∧ n ≤ 7 ∧ p ≤ p' ∧ p' ≤ p + 20 ∧ KH w0 w' R p' A n c xs
def odd2K (v : Int) : Int := ([-1, 100] : List Int).getD v.toNat 0

set_option maxHeartbeats 3200000 in
theorem columns93_any (R : Nat) (p : Int) (w : World) (hr : Rd w R p) (hp : p < 20000) :
    Calls Try.prog 35 #[.pointer (some ⟨R, 0, none⟩)] w (DrawnK w R p) := by
  have HK0 : Hid (KH w (w.alloc (.cells #[] 3)) R p (some ⟨w.heap.size, 0, none⟩) 0 0 []) :=
    { rd := hr.alloc _, rlt := hr.lt, own := Own.lit0 w _ (Nat.le_refl _), grown := grown_alloc (grown_refl w _) _ }
  clear hr
  go_enter Try.func35, Try.ntmps35
  go_wp2_with fail
  refine (pick_any R p 6 _ HK0.out.rd (by omega) (by omega)).mono ?_
  rintro e w1 ⟨v1, rfl, hv10, hv11, hr1, hg1⟩
  have HK1 := hide (HK0.out.pick hr1 hg1)
  clear hr1 hg1 HK0
  go_wp2_with fail
  refine (pick_any R _ 20 _ HK1.out.rd (by omega) (by omega)).mono ?_
  rintro e w2 ⟨v2, rfl, hv20, hv21, hr2, hg2⟩
  have HK2 := hide (HK1.out.pick hr2 hg2)
  clear hr2 hg2 HK1
  go_upto_if 12 with fail
  go_cut [4] from 13 to 43 (fun s wx => ∃ (N : Nat) (px : Int), s = .int .i64 N ∧ N ≤ 7 ∧ p ≤ px ∧ px ≤ p + 3 ∧ Hid (KH w wx R px (some ⟨w.heap.size, 0, none⟩) 0 0 []))
  case first =>
    obtain ⟨N1, rfl⟩ := Int.eq_ofNat_of_zero_le hv10
    by_cases h0 : v2 = 0
    · subst h0
      go_wp2_with fail
      refine (pick_any R _ 2 _ HK2.out.rd (by omega) (by omega)).mono ?_
      rintro e w3 ⟨v3, rfl, hv30, hv31, hr3, hg3⟩
      have HK3 := hide (HK2.out.pick hr3 hg3)
      obtain ⟨N, rfl⟩ := Int.eq_ofNat_of_zero_le hv30
      clear hr3 hg3 HK2
      go_wp2
      go_meet
      exact ⟨N * 7, _, by go_num, by omega, by omega, by omega, HK3.out⟩
    · have h0' : (v2 == 0) = false := by simpa using h0
      go_wp2
      go_meet
      exact ⟨1 + N1, _, by go_num, by omega, by omega, by omega, HK2.out⟩
  case rest =>
    clear HK2
    obtain ⟨N, px, rfl, hN, hpx0, hpx1, HK⟩ := hcut
    go_wp2_with fail
    go_loopw [3, 5] (fun s i wr => ∃ (k c : Nat) (Ao : Option Addr) (xs : List Int), k ≤ N ∧ i = .int .i64 k ∧ s = .slice Ao k c ∧ Hid (KH w wr R (px + k) Ao k c xs)) (fun _ i _ => N - (intOf i).toNat)
    case atStart => exact ⟨0, 0, _, [], Nat.zero_le _, rfl, rfl, by have h := HK.out; show KH w _ R (px + ((0 : Nat) : Int)) _ 0 0 []; rw [show px + ((0 : Nat) : Int) = px from by omega]; exact h⟩
    case round =>
      clear HK
      obtain ⟨k, c, Ao, xs, hk, rfl, rfl, HK⟩ := hrel
      by_cases hlt : k < N
      · go_wp2_with fail
        refine (pick_any R _ 100 _ HK.out.rd (by omega) (by omega)).mono ?_
        rintro e w4 ⟨u, rfl, hu0, hu1, hr4, hg4⟩
        have HK4 := hide (HK.out.pick hr4 hg4)
        have hs4 : w.heap.size ≤ w4.heap.size := HK4.out.grown.size
        have hnm : k + 1 ≤ 17592186044416 := by omega
        clear hr4 hg4 HK
        go_wp2_with (at_builtin; refine wpList_append_ints rfl (.tmp 21) (.tmp 24) rfl w.heap.size k c (w4.heap.size + 1) 1 1 Ao (some ⟨w4.heap.size, 0, none⟩) xs [u] rfl (HK4.out.own.alloc _) rfl (Ints.one w4 u) hnm (by simp; omega) ?_; intro A8 c8 w8 ho8 hg8 hat8; have HK8 := hide (HK4.out.app ho8 hg8); clear ho8 hg8 hat8)
        go_roundw
        case rel => exact ⟨k + 1, _, _, _, by omega, by go_num, rfl, by have := HK8.out; rw [show px + ((k + 1 : Nat) : Int) = px + k + 1 from by omega]; exact this⟩
        case measure => simp [intOf]; omega
      · obtain rfl : k = N := by omega
        by_cases hk0 : k = 0
        · subst hk0
          have h00 : decide ((0 : Int) < 0) = false := by decide
          go_wp2
          go_ret
          exact ⟨_, _, _, _, _, rfl, by omega, by omega, by omega, HK.out⟩
        · have hkp : decide ((0 : Int) < (k : Int)) = true := by simp; omega
          have hkp' : 0 < k := by omega
          go_wp2_with fail
          refine (pick_any R _ 20 _ HK.out.rd (by omega) (by omega)).mono ?_
          rintro e w4 ⟨u, rfl, hu0, hu1, hr4, hg4⟩
          have HK4 := hide (HK.out.pick hr4 hg4)
          clear hr4 hg4 HK
          by_cases hu : u = 0
          · subst hu
            go_wp2_with fail
            refine (pick_any R _ k _ HK4.out.rd (by omega) (by omega)).mono ?_
            rintro e w5 ⟨j, rfl, hj0, hj1, hr5, hg5⟩
            have HK5 := hide (HK4.out.pick hr5 hg5)
            have HA5 := hide (HK5.out.alloc (.cells #[.int .i64 (-1), .int .i64 100] 3))
            have HBL := hide (Blk.new w5 3 #[.int .i64 (-1), .int .i64 100])
            clear hr5 hg5 HK4
            go_wp2_with fail
            refine (pick_any R _ 2 _ HA5.out.rd (by omega) (by omega)).mono ?_
            rintro e w6 ⟨x, rfl, hx0, hx1, hr6, hg6⟩
            have HK6 := hide (HA5.out.pick hr6 hg6)
            have hRw5 : R < w5.heap.size := HK5.out.rd.lt
            have hB6 := HBL.out.grown hg6 (by intro e; injection e with e; omega)
            have hc : w6.cell? ⟨w5.heap.size, x.toNat, none⟩ = some (.int .i64 (odd2K x)) := by
              rw [hB6.cell]
              have : x = 0 ∨ x = 1 := by omega
              rcases this with rfl | rfl <;> rfl
            obtain ⟨g, rfl, hg0, hgl⟩ := HK6.out.own.shape hkp'
            obtain ⟨J, rfl⟩ := Int.eq_ofNat_of_zero_le hj0
            have hcell := HK6.out.own.cell (g := g) (j := J) (by omega)
            have hfree := HK6.out.own.free (g := g) (j := J)
            have HK7 := hide (HK6.out.put J (odd2K x))
            generalize odd2K x = y at hc HK7
            clear hr6 hg6 HK5 HA5 hB6 HBL
            go_wp2
            go_ret
            exact ⟨_, _, _, _, _, rfl, by omega, by omega, by omega, HK7.out⟩
          · have hu' : (u == 0) = false := by simpa using hu
            go_wp2
            go_ret
            exact ⟨_, _, _, _, _, rfl, by omega, by omega, by omega, HK4.out⟩

/-- a drawing that keeps blocks of its own -/
structure KG (w W : World) (R : Nat) (p : Int) (L : List (Nat × TypeId × Array Value)) : Prop where
  rd : Rd W R p
  rlt : R < w.heap.size
  grown : w.grownBy W (some R)
  blk : ∀ q ∈ L, Blk W q.1 q.2.1 q.2.2 ∧ w.heap.size ≤ q.1
section
variable {w W W' : World} {R g : Nat} {p p' : Int} {t : TypeId} {cs : Array Value} {L : List (Nat × TypeId × Array Value)}
theorem KG.new (h : Rd w R p) : KG w w R p [] := ⟨h, h.lt, grown_refl _ _, fun q hq => (List.not_mem_nil hq).elim⟩
theorem KG.pushN (h : KG w W R p L) (g : Nat) (hg : W.heap.size = g) (t : TypeId) (cs : Array Value) : KG w (W.alloc (.cells cs t)) R p ((g, t, cs) :: L) :=
  ⟨h.rd.alloc _, h.rlt, grown_alloc h.grown _, fun q hq => by
    rcases List.mem_cons.1 hq with rfl | hq
    · subst hg; exact ⟨Blk.new W t cs, h.grown.size⟩
    · exact ⟨(h.blk q hq).1.alloc _, (h.blk q hq).2⟩⟩
theorem KG.step (h : KG w W R p L) (hb : Below W.heap.size W W') : KG w W' R p L :=
  ⟨h.rd.below hb, h.rlt, grown_own h.grown (grown_of_below hb none) (fun g hg => by cases hg), fun q hq => ⟨(h.blk q hq).1.below hb (h.blk q hq).1.lt, (h.blk q hq).2⟩⟩
theorem KG.pick (h : KG w W R p L) (hr : Rd W' R p') (hg : W.grownBy W' (some R)) : KG w W' R p' L :=
  ⟨hr, h.rlt, grown_trans' h.grown hg, fun q hq => ⟨(h.blk q hq).1.grown hg (by intro e; injection e with e; have := (h.blk q hq).2; have := h.rlt; omega), (h.blk q hq).2⟩⟩
theorem KG.put (h : KG w W R p ((g, t, cs) :: L)) (hne : ∀ q ∈ L, q.1 ≠ g) (j : Nat) (v : Value) : KG w (W.setCell ⟨g, j, none⟩ v) R p ((g, t, cs.setIfInBounds j v) :: L) := by
  have hgg := (h.blk _ (List.mem_cons_self ..)).2
  have hb := (h.blk _ (List.mem_cons_self ..)).1
  have hgr : W.grownBy (W.setCell ⟨g, j, none⟩ v) (some g) := ⟨rfl, rfl, rfl, by simp [World.setCell], fun i hi hne => Below.heap_setCell W ⟨g, j, none⟩ _ i (by rintro rfl; exact hne rfl)⟩
  refine ⟨h.rd.grown hgr (fun b hb => by injection hb with hb; have := h.rlt; simp only at hgg; omega), h.rlt, grown_own h.grown hgr (fun b hb => by injection hb with hb; simp only at hgg; omega), fun q hq => ?_⟩
  rcases List.mem_cons.1 hq with rfl | hq
  · exact ⟨hb.set_ j v, hgg⟩
  · exact ⟨(h.blk q (List.mem_cons_of_mem _ hq)).1.far (p := ⟨g, j, none⟩) (hne q hq) v, (h.blk q (List.mem_cons_of_mem _ hq)).2⟩
theorem KG.hd (h : KG w W R p ((g, t, cs) :: L)) : Blk W g t cs := (h.blk _ (List.mem_cons_self ..)).1
theorem KG.tl (h : KG w W R p ((g, t, cs) :: L)) : KG w W R p L := ⟨h.rd, h.rlt, h.grown, fun q hq => h.blk q (List.mem_cons_of_mem _ hq)⟩
theorem KG.swap {x y : Nat × TypeId × Array Value} (h : KG w W R p (x :: y :: L)) : KG w W R p (y :: x :: L) := ⟨h.rd, h.rlt, h.grown, fun q hq => h.blk q (by simp only [List.mem_cons] at hq ⊢; rcases hq with h | h | h <;> simp [h])⟩
theorem KG.cells {a b : Int} (h : KG w W R p ((g, t, #[.int .i64 a, .int .i64 b]) :: L)) :
    W.cell? ⟨g, 0, none⟩ = some (.int .i64 a) ∧ W.cell? ⟨g, 1, none⟩ = some (.int .i64 b) ∧ W.frozen? ⟨g, 0, none⟩ = false ∧ W.frozen? ⟨g, 1, none⟩ = false :=
  ⟨by rw [h.hd.cell]; rfl, by rw [h.hd.cell]; rfl, h.hd.frozen 0, h.hd.frozen 1⟩
end
def DrawnCk (w : World) (R : Nat) (p : Int) (e : Ending) (w' : World) : Prop :=
  ∃ c1 c2 p', e = .returned (.agg #[.int .i64 c1, .int .i64 c2]) ∧ (-1 ≤ c1 ∧ c1 ≤ 101) ∧ (-1 ≤ c2 ∧ c2 ≤ 101) ∧ p ≤ p' ∧ p' ≤ p + 3 ∧ Rd w' R p' ∧ w.grownBy w' (some R)

set_option maxHeartbeats 6400000 in
theorem check93_any (A : Option Addr) (n c B R : Nat) (xs : List Int) (p : Int) (w : World) (hr : Rd w R p) (hp : p < 20000) (hi : Ints w B A n xs) (hB : B ≤ w.heap.size) (hn : n ≤ 1000) :
    Calls Try.prog 41 #[.pointer (some ⟨R, 0, none⟩), .slice A n c] w (DrawnCk w R p) := by
  have HK0 := hide ((KG.new hr).pushN w.heap.size rfl 26 #[.int .i64 0, .int .i64 0])
  have hck : ((-1 ≤ (ckR xs).1 ∧ (ckR xs).1 ≤ 101) ∧ (-1 ≤ (ckR xs).2 ∧ (ckR xs).2 ≤ 101)) := by
    have h := chk_rng xs
    unfold ckV at h
    rw [Bool.and_eq_true, inB_iff, inB_iff] at h
    unfold ckR
    split
    · omega
    · simp
  have HC := hide (specCC A n c B xs (w.alloc (.cells #[.int .i64 0, .int .i64 0] 26)) (hi.alloc hB _) (by simp; omega) (by omega))
  generalize colV xs = v at *
  generalize (ckR xs).1 = a at *
  generalize (ckR xs).2 = b at *
  obtain ⟨ha, hb⟩ := hck
  clear hr hi
  go_enter Try.func41, Try.ntmps41
  go_wp2_with fail
  refine HC.out.mono ?_
  rintro e w1 ⟨rfl, hb1⟩
  obtain ⟨g, hg⟩ : ∃ g, w1.heap.size = g := ⟨_, rfl⟩
  have HK1 := hide ((HK0.out.step hb1).pushN g hg 26 #[.int .i64 a, .int .i64 b])
  have hgl : w.heap.size < g := by rw [← hg]; have := hb1.size; simp at this; omega
  clear hb1 HK0 HC
  go_wp2_with fail
  refine (pick_any R _ 10 _ HK1.out.rd (by omega) (by omega)).mono ?_
  rintro e w2 ⟨u, rfl, hu0, hu1, hr2, hg2⟩
  have HK2 := hide (HK1.out.pick hr2 hg2)
  clear hr2 hg2 HK1
  by_cases h0 : u = 0
  · subst h0
    go_wp2_with fail
    refine (pick_any R _ 103 _ HK2.out.rd (by omega) (by omega)).mono ?_
    rintro e w3 ⟨x, rfl, hx0, hx1, hr3, hg3⟩
    have HK3 := hide (HK2.out.pick hr3 hg3)
    have wx : IntKind.i64.wrap (x - 1) = x - 1 := IntWalk.i64_in _ (by omega)
    obtain ⟨q0, q1, f0, f1⟩ := HK3.out.cells
    obtain ⟨s0, s1, k0, k1⟩ := HK3.out.tl.cells
    have HF := hide ((((HK3.out.put (by intro q hq; simp at hq; rcases hq with rfl; simp; omega) 0 (.int .i64 (x - 1))).swap).put (by intro q hq; simp at hq; rcases hq with rfl; simp; omega) 0 (.int .i64 (x - 1))).put (by intro q hq; simp at hq; rcases hq with rfl; simp; omega) 1 (.int .i64 b))
    have z0 := HF.out.hd.cell 0
    have z1 := HF.out.hd.cell 1
    simp at z0 z1
    clear hr3 hg3 HK2 HK3
    go_wp2
    exact bodyPost_ret (v := .agg #[.int .i64 (x - 1), .int .i64 b]) (by simp [results, Try.results41, go_sem, z0, z1]) rfl ⟨_, _, _, rfl, by omega, hb, by omega, by omega, HF.out.rd, HF.out.grown⟩
  · have h0' : (u == 0) = false := by simpa using h0
    by_cases h1 : u = 1
    · subst h1
      go_wp2_with fail
      refine (pick_any R _ 103 _ HK2.out.rd (by omega) (by omega)).mono ?_
      rintro e w3 ⟨x, rfl, hx0, hx1, hr3, hg3⟩
      have HK3 := hide (HK2.out.pick hr3 hg3)
      have wx : IntKind.i64.wrap (x - 1) = x - 1 := IntWalk.i64_in _ (by omega)
      obtain ⟨q0, q1, f0, f1⟩ := HK3.out.cells
      obtain ⟨s0, s1, k0, k1⟩ := HK3.out.tl.cells
      have HF := hide ((((HK3.out.put (by intro q hq; simp at hq; rcases hq with rfl; simp; omega) 1 (.int .i64 (x - 1))).swap).put (by intro q hq; simp at hq; rcases hq with rfl; simp; omega) 0 (.int .i64 a)).put (by intro q hq; simp at hq; rcases hq with rfl; simp; omega) 1 (.int .i64 (x - 1)))
      have z0 := HF.out.hd.cell 0
      have z1 := HF.out.hd.cell 1
      simp at z0 z1
      clear hr3 hg3 HK2 HK3
      go_wp2
      exact bodyPost_ret (v := .agg #[.int .i64 a, .int .i64 (x - 1)]) (by simp [results, Try.results41, go_sem, z0, z1]) rfl ⟨_, _, _, rfl, ha, by omega, by omega, by omega, HF.out.rd, HF.out.grown⟩
    · have h1' : (u == 1) = false := by simpa using h1
      obtain ⟨q0, q1, f0, f1⟩ := HK2.out.cells
      obtain ⟨s0, s1, k0, k1⟩ := HK2.out.tl.cells
      have HF := hide (((HK2.out.swap).put (by intro q hq; simp at hq; rcases hq with rfl; simp; omega) 0 (.int .i64 a)).put (by intro q hq; simp at hq; rcases hq with rfl; simp; omega) 1 (.int .i64 b))
      have z0 := HF.out.hd.cell 0
      have z1 := HF.out.hd.cell 1
      simp at z0 z1
      clear HK2
      go_wp2
      exact bodyPost_ret (v := .agg #[.int .i64 a, .int .i64 b]) (by simp [results, Try.results41, go_sem, z0, z1]) rfl ⟨_, _, _, rfl, ha, hb, by omega, by omega, HF.out.rd, HF.out.grown⟩
end Go.Proofs.Ytldbcenipahkfaa
