/-
  DrawColumnsCheck, DrawColumnsGood, DrawColumnsMend, DrawColumnsFill.
-/
import Derived.Test.YtldbcenipahkfaaDrawK1
import Derived.RegionTactic
namespace Go.Proofs.Ytldbcenipahkfaa
open Go.RowKit
set_option linter.unusedVariables false
set_option maxRecDepth 100000

/-- a drawing over columns, with the block of the result (b) and that of the checks (g) -/
structure KM (w w1 W : World) (R b g : Nat) (p : Int) (A : Option Addr) (n c : Nat) (xs : List Int) (c1 c2 : Int) : Prop where
  kh : KH w1 W R p A n c xs
  rb : Blk W b 26 #[.int .i64 0, .int .i64 0]
  cb : Blk W g 26 #[.int .i64 c1, .int .i64 c2]
  hb : w.heap.size ≤ b
  hb1 : b < R
  hg : w1.heap.size ≤ g
  hgo : ∀ k, (Value.slice A n c).ownBlock = some k → k ≠ g
  low : Below w.heap.size w w1
section
variable {w w1 W W' : World} {R b g n c j : Nat} {p p' c1 c2 x : Int} {A : Option Addr} {xs : List Int}
theorem KM.R1 (h : KM w w1 W R b g p A n c xs c1 c2) : R < w1.heap.size := h.kh.rlt
theorem KM.pick (h : KM w w1 W R b g p A n c xs c1 c2) (hr : Rd W' R p') (hg : W.grownBy W' (some R)) : KM w w1 W' R b g p' A n c xs c1 c2 :=
  { kh := h.kh.pick hr hg, rb := h.rb.grown hg (by intro e; injection e with e; have := h.hb1; omega), cb := h.cb.grown hg (by intro e; injection e with e; have := h.hg; have := h.R1; omega)
    hb := h.hb, hb1 := h.hb1, hg := h.hg, hgo := h.hgo, low := h.low }
theorem KM.put {o : Nat} (h : KM w w1 W R b g p (some ⟨o, 0, none⟩) n c xs c1 c2) (j : Nat) (x : Int) : KM w w1 (W.setCell ⟨o, j, none⟩ (.int .i64 x)) R b g p (some ⟨o, 0, none⟩) n c (xs.set j x) c1 c2 := by
  have ho := (h.kh.own.block o rfl).1
  have hR := h.R1
  have := h.hb1
  have hne := h.hgo o rfl
  exact { kh := h.kh.put j x, rb := h.rb.far (p := ⟨o, j, none⟩) (by simp; omega) _, cb := h.cb.far (p := ⟨o, j, none⟩) (fun e => hne e.symm) _, hb := h.hb, hb1 := h.hb1, hg := h.hg, hgo := h.hgo, low := h.low }
theorem KM.cells (h : KM w w1 W R b g p A n c xs c1 c2) :
    (W.cell? ⟨g, 0, none⟩ = some (.int .i64 c1) ∧ W.cell? ⟨g, 1, none⟩ = some (.int .i64 c2)) ∧ (W.cell? ⟨b, 0, none⟩ = some (.int .i64 0) ∧ W.cell? ⟨b, 1, none⟩ = some (.int .i64 0)) ∧ W.frozen? ⟨b, 0, none⟩ = false ∧ W.frozen? ⟨b, 1, none⟩ = false :=
  ⟨⟨by rw [h.cb.cell]; rfl, by rw [h.cb.cell]; rfl⟩, ⟨by rw [h.rb.cell]; rfl, by rw [h.rb.cell]; rfl⟩, h.rb.frozen 0, h.rb.frozen 1⟩
end
/-- the result's block is written at last -/
theorem KH.fin {w w1 W : World} {R b n c : Nat} {p : Int} {A : Option Addr} {xs : List Int} {t : TypeId} {cs : Array Value} (h : KH w1 W R p A n c xs) (hn : n ≤ 13) (low : Below w.heap.size w w1) (hbl : Blk W b t cs) (hb : w.heap.size ≤ b) (hb1 : b < R) (v0 v1 : Value) :
    DL w ((W.setCell ⟨b, 0, none⟩ v0).setCell ⟨b, 1, none⟩ v1) A n c xs ∧ Blk ((W.setCell ⟨b, 0, none⟩ v0).setCell ⟨b, 1, none⟩ v1) b t ((cs.setIfInBounds 0 v0).setIfInBounds 1 v1) := by
  have hR := h.rlt
  have hgr : ∀ (X : World) (j : Nat) (v : Value), X.grownBy (X.setCell ⟨b, j, none⟩ v) (some b) := fun X j v => ⟨rfl, rfl, rfl, by simp [World.setCell], fun i hi hne => Below.heap_setCell X ⟨b, j, none⟩ _ i (by rintro rfl; exact hne rfl)⟩
  have h2 : W.grownBy ((W.setCell ⟨b, 0, none⟩ v0).setCell ⟨b, 1, none⟩ v1) (some b) := grown_trans' (hgr W 0 v0) (hgr _ 1 v1)
  have ho := h.own.kept h2 (fun k e e' => by injection e with e; subst e; have := (h.own.block _ e').1; omega)
  have hlow : Below w.heap.size w W := low.grown h.grown low.size (fun g e => by injection e with e; omega)
  exact ⟨{ ints := ho.ints, num := hn, nc := h.own.cap, below := hlow.grown h2 hlow.size (fun g e => by injection e with e; omega) }, (hbl.set_ 0 v0).set_ 1 v1⟩

set_option maxHeartbeats 1600000 in
theorem drawKC_any (A : Option Addr) (n c : Nat) (bs : Nat → Int) (w : World) (hb : Bytes w w.heap.size A n bs) (hn : n ≤ c) (hc : c ≤ maxLen) :
    Calls Try.prog 16 #[.slice A n c] w fun e w' => ∃ A1 m c1 h, e = .returned (.slice A1 m c1) ∧ DL w w' A1 m c1 h := by
  go_enter Try.func16, Try.ntmps16
  go_wp2_with fail
  refine (open_any A n c bs _ hb hn hc).mono ?_
  rintro e w1 ⟨rfl, hr1, hb1⟩
  have HB1 := hide hb1
  have HR1 := hide hr1
  clear hb1 hr1
  go_wp2_with fail
  refine (columns93_any _ 0 _ HR1.out (by omega)).mono ?_
  rintro e w2 ⟨A2, m, c2, xs, p2, rfl, hm, hp0, hp1, hk⟩
  have HD := hide (hk.dl (by omega) HB1.out (Nat.le_refl _))
  clear hk
  go_wp2
  go_ret
  exact ⟨_, _, _, _, rfl, HD.out⟩

/-- columns and checks, as the laws know them -/
def DrawnG (w : World) (e : Ending) (w' : World) : Prop :=
  ∃ A1 m cp h c1 c2, e = .returned (.tuple #[.slice A1 m cp, .agg #[.int .i64 c1, .int .i64 c2]]) ∧ (-1 ≤ c1 ∧ c1 ≤ 101) ∧ (-1 ≤ c2 ∧ c2 ≤ 101) ∧ DL w w' A1 m cp h ∧ (m ≤ 7 ∧ (A1 = none → m = 0 ∧ cp = 0))
theorem Own.cap0 {w : World} {b n c : Nat} {A : Option Addr} {xs : List Int} (h : Own w b A n c xs) : A = none → n = 0 ∧ c = 0 := by
  rintro rfl
  rcases h.2.2 with ⟨hv, h0⟩ | ⟨g, cap, cur, hv, hb', hh, hc, hm, hs, ht⟩
  · injection hv with _ h1 h2; exact ⟨h1, h2⟩
  · injection hv with h1; cases h1

set_option maxHeartbeats 3200000 in
theorem drawKG_any (A : Option Addr) (n c : Nat) (bs : Nat → Int) (w : World) (hb : Bytes w w.heap.size A n bs) (hn : n ≤ c) (hc : c ≤ maxLen) :
    Calls Try.prog 20 #[.slice A n c] w (DrawnG w) := by
  have hb' : Bytes (w.alloc (.cells #[.int .i64 0, .int .i64 0] 26)) (w.alloc (.cells #[.int .i64 0, .int .i64 0] 26)).heap.size A n bs := fun h => by
    obtain ⟨ad, e, hlt, hcell⟩ := hb h
    exact ⟨ad, e, by simp; omega, fun j hj => ⟨(hcell j hj).1, (hcell j hj).2.1, (World.cell?_alloc_lt w _ _ (by rw [block_of_add]; exact hlt)).trans (hcell j hj).2.2⟩⟩
  have HN := hide (Blk.new w 26 #[.int .i64 0, .int .i64 0])
  have HB0 := hide ((Below.refl w.heap.size w).alloc (Nat.le_refl _) (.cells #[.int .i64 0, .int .i64 0] 26))
  have HBY := hide hb'
  clear hb hb'
  go_enter Try.func20, Try.ntmps20
  go_wp2_with fail
  refine (open_any A n c bs _ HBY.out hn hc).mono ?_
  rintro e w1 ⟨rfl, hr1, hb1⟩
  have HR1 := hide hr1
  have HN1 := hide (HN.out.below hb1 (by simp))
  have HB1 := hide (HB0.out.trans (hb1.mono HB0.out.size))
  have hR0 : w.heap.size < (w.alloc (.cells #[.int .i64 0, .int .i64 0] 26)).heap.size := by simp
  obtain ⟨R, hR⟩ : ∃ R, (w.alloc (.cells #[.int .i64 0, .int .i64 0] 26)).heap.size = R := ⟨_, rfl⟩
  rw [hR] at HR1 hR0
  clear hb1 hr1 HBY HN HB0
  go_wp2_with fail
  try rw [hR]
  refine (columns93_any _ 0 _ HR1.out (by omega)).mono ?_
  rintro e w2 ⟨A2, m, c2, xs, p2, rfl, hm, hp0, hp1, hk⟩
  have HK2 := hide hk
  clear hk hR
  go_wp2_with fail
  refine (check93_any A2 m c2 _ R xs p2 _ HK2.out.rd (by omega) HK2.out.own.ints (Nat.le_refl _) (by omega)).mono ?_
  rintro e w3 ⟨q1, q2, p3, rfl, hq1, hq2, hp2, hp3, hr3, hg3⟩
  have HK3 := hide (HK2.out.pick hr3 hg3)
  have HN3 := hide ((HN1.out.grown HK2.out.grown (by intro e; injection e with e; omega)).grown hg3 (by intro e; injection e with e; omega))
  have HF := hide (HK3.out.fin (by omega) HB1.out HN3.out (Nat.le_refl _) hR0 (.int .i64 q1) (.int .i64 q2))
  have z0 := HF.out.2.cell 0
  have z1 := HF.out.2.cell 1
  have y0 := HN3.out.cell 0
  have y1 := HN3.out.cell 1
  have f0 := HN3.out.frozen 0
  have f1 := HN3.out.frozen 1
  simp at z0 z1 y0 y1
  have HCP := hide HK3.out.own.cap0
  clear hr3 hg3 HK2 HN1 HK3 HN3 HR1
  go_wp2
  exact bodyPost_ret (v := .tuple #[.slice A2 m c2, .agg #[.int .i64 q1, .int .i64 q2]]) (by simp [results, Try.results20, go_sem, z0, z1]) rfl ⟨_, _, _, _, _, _, rfl, hq1, hq2, HF.out.1, hm, HCP.out⟩

set_option maxHeartbeats 6400000 in
theorem drawKM_any (A : Option Addr) (n c : Nat) (bs : Nat → Int) (w : World) (hb : Bytes w w.heap.size A n bs) (hn : n ≤ c) (hc : c ≤ maxLen) :
    Calls Try.prog 22 #[.slice A n c] w (DrawnG w) := by
  have hb' : Bytes (w.alloc (.cells #[.int .i64 0, .int .i64 0] 26)) (w.alloc (.cells #[.int .i64 0, .int .i64 0] 26)).heap.size A n bs := fun h => by
    obtain ⟨ad, e, hlt, hcell⟩ := hb h
    exact ⟨ad, e, by simp; omega, fun j hj => ⟨(hcell j hj).1, (hcell j hj).2.1, (World.cell?_alloc_lt w _ _ (by rw [block_of_add]; exact hlt)).trans (hcell j hj).2.2⟩⟩
  have HN := hide (Blk.new w 26 #[.int .i64 0, .int .i64 0])
  have HB0 := hide ((Below.refl w.heap.size w).alloc (Nat.le_refl _) (.cells #[.int .i64 0, .int .i64 0] 26))
  have HBY := hide hb'
  clear hb hb'
  go_enter Try.func22, Try.ntmps22
  go_wp2_with fail
  refine (open_any A n c bs _ HBY.out hn hc).mono ?_
  rintro e w1 ⟨rfl, hr1, hb1⟩
  have HR1 := hide hr1
  have HN1 := hide (HN.out.below hb1 (by simp))
  have HB1 := hide (HB0.out.trans (hb1.mono HB0.out.size))
  have hR0 : w.heap.size < (w.alloc (.cells #[.int .i64 0, .int .i64 0] 26)).heap.size := by simp
  obtain ⟨R, hR⟩ : ∃ R, (w.alloc (.cells #[.int .i64 0, .int .i64 0] 26)).heap.size = R := ⟨_, rfl⟩
  rw [hR] at HR1 hR0
  clear hb1 hr1 HBY HN HB0
  go_wp2_with fail
  try rw [hR]
  refine (columns93_any _ 0 _ HR1.out (by omega)).mono ?_
  rintro e w2 ⟨A2, m, c2, xs, p2, rfl, hm, hp0, hp1, hk⟩
  have HK2 := hide hk
  clear hk hR
  go_wp2_with fail
  refine (check93_any A2 m c2 _ R xs p2 _ HK2.out.rd (by omega) HK2.out.own.ints (Nat.le_refl _) (by omega)).mono ?_
  rintro e w3 ⟨q1, q2, p3, rfl, hq1, hq2, hp2, hp3, hr3, hg3⟩
  have hk3 := HK2.out.pick hr3 hg3
  have hn3 := (HN1.out.grown HK2.out.grown (by intro e; injection e with e; omega)).grown hg3 (by intro e; injection e with e; omega)
  obtain ⟨g, hg⟩ : ∃ g, w3.heap.size = g := ⟨_, rfl⟩
  have HM3 : Hid (KM w w1 (w3.alloc (.cells #[.int .i64 q1, .int .i64 q2] 26)) R w.heap.size g p3 A2 m c2 xs q1 q2) :=
    { kh := hk3.alloc _, rb := hn3.alloc _, cb := by rw [← hg]; exact Blk.new _ _ _, hb := Nat.le_refl _, hb1 := hR0, hg := by rw [← hg]; exact hk3.grown.size
      hgo := fun k hk e => by have := (hk3.own.block k hk).2; omega, low := HB1.out }
  clear hr3 hg3 HK2 HN1 HR1 hk3 hn3
  go_wp2_with fail
  clear hg
  refine (pick_any R _ 4 _ HM3.out.kh.rd (by omega) (by omega)).mono ?_
  rintro e w4 ⟨u, rfl, hu0, hu1, hr4, hg4⟩
  have HM4 := hide (HM3.out.pick hr4 hg4)
  clear hr4 hg4 HM3
  go_upto_if 19 with fail
  go_cut [7] from 20 to 40 (fun s wx => ∃ (M : Nat) (px : Int), s = .int .i64 M ∧ M ≤ 2 ∧ 0 ≤ px ∧ px ≤ 60 ∧ Hid (KM w w1 wx R w.heap.size g px A2 m c2 xs q1 q2))
  case first =>
    obtain ⟨U, rfl⟩ := Int.eq_ofNat_of_zero_le hu0
    by_cases h2 : 2 < U
    · have h2' : (2 : Int) < (U : Int) := by omega
      go_wp2
      go_meet
      exact ⟨1, _, rfl, by omega, by omega, by omega, HM4.out⟩
    · have h2' : ¬ (2 : Int) < (U : Int) := by omega
      go_wp2
      go_meet
      exact ⟨U, _, rfl, by omega, by omega, by omega, HM4.out⟩
  case rest =>
    clear HM4
    obtain ⟨M, px, rfl, hM, hpx0, hpx1, HM⟩ := hcut
    go_wp2_with fail
    go_loopw [8] (fun i wr => ∃ (k : Nat) (ys : List Int), k ≤ M ∧ i = .int .i64 k ∧ Hid (KM w w1 wr R w.heap.size g (px + 2 * k) A2 m c2 ys q1 q2)) (fun i _ => M - (intOf i).toNat)
    case atStart => exact ⟨0, xs, Nat.zero_le _, rfl, by have h := HM.out; show KM w w1 _ R w.heap.size g (px + 2 * ((0 : Nat) : Int)) _ _ _ _ _ _; rw [show px + 2 * ((0 : Nat) : Int) = px from by omega]; exact h⟩
    case round =>
      clear HM
      obtain ⟨k, ys, hk, rfl, HM⟩ := hrel
      have hend : ∀ (W : World) (zs : List Int), KM w w1 W R w.heap.size g (px + 2 * k) A2 m c2 zs q1 q2 → DL w (((W.setCell ⟨w.heap.size, 0, none⟩ (.int .i64 q1)).setCell ⟨w.heap.size, 1, none⟩ (.int .i64 q2)).drewN 1) A2 m c2 zs := fun W zs h => by
        have h2 := (h.kh.fin (by omega) HB1.out h.rb (Nat.le_refl _) hR0 (.int .i64 q1) (.int .i64 q2)).1
        exact { ints := h2.ints.drewN 1, num := h2.num, nc := h2.nc, below := below_drewN h2.below 1 }
      have HEND := hide hend
      have HCP := hide HM.out.kh.own.cap0
      clear hend
      by_cases hlt : k < M
      · have k1 : (k : Int) < (M : Int) := by omega
        have k2 : decide ((k : Int) < (M : Int)) = true := decide_eq_true k1
        by_cases hm0 : m = 0
        · subst hm0
          have d0 : decide ((0 : Int) < 0) = false := rfl
          obtain ⟨⟨g0, g1⟩, ⟨b0, b1⟩, f0, f1⟩ := HM.out.cells
          have HD := hide (HEND.out _ _ HM.out)
          have HFB := hide (HM.out.kh.fin (by omega) HB1.out HM.out.rb (Nat.le_refl _) hR0 (.int .i64 q1) (.int .i64 q2)).2
          have z0 := HFB.out.cell 0
          have z1 := HFB.out.cell 1
          simp at z0 z1
          clear HM HEND
          go_wp2_with fail
          go_region
          all_goals
            go_wp2
            exact bodyPost_ret (v := .tuple #[.slice A2 0 c2, .agg #[.int .i64 q1, .int .i64 q2]]) (by simp [results, Try.results22, go_sem, z0, z1]) rfl ⟨_, _, _, _, _, _, rfl, hq1, hq2, HD.out, by omega, fun e => ⟨by first | rfl | exact (HCP.out e).1, (HCP.out e).2⟩⟩
        · have m1 : (0 : Int) < (m : Int) := by omega
          have m2 : decide ((0 : Int) < (m : Int)) = true := decide_eq_true m1
          go_wp2_with fail
          refine (pick_any R _ m _ HM.out.kh.rd (by omega) (by omega)).mono ?_
          rintro e w5 ⟨j, rfl, hj0, hj1, hr5, hg5⟩
          have HM5 := hide (HM.out.pick hr5 hg5)
          clear hr5 hg5 HM HEND
          go_wp2_with fail
          refine (pick_any R _ 100 _ HM5.out.kh.rd (by omega) (by omega)).mono ?_
          rintro e w6 ⟨x, rfl, hx0, hx1, hr6, hg6⟩
          have HM6 := hide (HM5.out.pick hr6 hg6)
          obtain ⟨o, rfl, ho0, hol⟩ := HM6.out.kh.own.shape (by omega)
          obtain ⟨J, rfl⟩ := Int.eq_ofNat_of_zero_le hj0
          have hcell := HM6.out.kh.own.cell (g := o) (j := J) (by omega)
          have hfree := HM6.out.kh.own.free (g := o) (j := J)
          have HM7 := hide (HM6.out.put J x)
          clear hr6 hg6 HM5
          go_wp2
          go_roundw
          case rel => exact ⟨k + 1, _, by omega, by go_num, by have := HM7.out; rw [show px + 2 * ((k + 1 : Nat) : Int) = px + 2 * k + 1 + 1 from by omega]; exact this⟩
          case measure => simp [intOf]; omega
      · obtain rfl : k = M := by omega
        have d0 : decide ((k : Int) < (k : Int)) = false := by simp
        obtain ⟨⟨g0, g1⟩, ⟨b0, b1⟩, f0, f1⟩ := HM.out.cells
        have HD := hide (HEND.out _ _ HM.out)
        have HFB := hide (HM.out.kh.fin (by omega) HB1.out HM.out.rb (Nat.le_refl _) hR0 (.int .i64 q1) (.int .i64 q2)).2
        have z0 := HFB.out.cell 0
        have z1 := HFB.out.cell 1
        simp at z0 z1
        clear HM HEND
        go_wp2_with fail
        go_region
        all_goals
          go_wp2
          exact bodyPost_ret (v := .tuple #[.slice A2 m c2, .agg #[.int .i64 q1, .int .i64 q2]]) (by simp [results, Try.results22, go_sem, z0, z1]) rfl ⟨_, _, _, _, _, _, rfl, hq1, hq2, HD.out, by omega, fun e => ⟨by first | rfl | exact (HCP.out e).1, (HCP.out e).2⟩⟩

/-- columns, two places and checks -/
def DrawnFl (w : World) (e : Ending) (w' : World) : Prop :=
  ∃ A1 m cp h a b c1 c2, e = .returned (.tuple #[.slice A1 m cp, .int .i64 a, .int .i64 b, .agg #[.int .i64 c1, .int .i64 c2]]) ∧ (-1 ≤ c1 ∧ c1 ≤ 101) ∧ (-1 ≤ c2 ∧ c2 ≤ 101) ∧ (0 ≤ a ∧ a ≤ m) ∧ (0 ≤ b ∧ b ≤ m) ∧ DL w w' A1 m cp h

set_option maxHeartbeats 6400000 in
theorem drawKF_any (A : Option Addr) (n c : Nat) (bs : Nat → Int) (w : World) (hb : Bytes w w.heap.size A n bs) (hn : n ≤ c) (hc : c ≤ maxLen) :
    Calls Try.prog 26 #[.slice A n c] w (DrawnFl w) := by
  have hb' : Bytes (w.alloc (.cells #[.int .i64 0, .int .i64 0] 26)) (w.alloc (.cells #[.int .i64 0, .int .i64 0] 26)).heap.size A n bs := fun h => by
    obtain ⟨ad, e, hlt, hcell⟩ := hb h
    exact ⟨ad, e, by simp; omega, fun j hj => ⟨(hcell j hj).1, (hcell j hj).2.1, (World.cell?_alloc_lt w _ _ (by rw [block_of_add]; exact hlt)).trans (hcell j hj).2.2⟩⟩
  have HN := hide (Blk.new w 26 #[.int .i64 0, .int .i64 0])
  have HB0 := hide ((Below.refl w.heap.size w).alloc (Nat.le_refl _) (.cells #[.int .i64 0, .int .i64 0] 26))
  have HBY := hide hb'
  clear hb hb'
  go_enter Try.func26, Try.ntmps26
  go_wp2_with fail
  refine (open_any A n c bs _ HBY.out hn hc).mono ?_
  rintro e w1 ⟨rfl, hr1, hb1⟩
  have HR1 := hide hr1
  have HN1 := hide (HN.out.below hb1 (by simp))
  have HB1 := hide (HB0.out.trans (hb1.mono HB0.out.size))
  have hR0 : w.heap.size < (w.alloc (.cells #[.int .i64 0, .int .i64 0] 26)).heap.size := by simp
  obtain ⟨R, hR⟩ : ∃ R, (w.alloc (.cells #[.int .i64 0, .int .i64 0] 26)).heap.size = R := ⟨_, rfl⟩
  rw [hR] at HR1 hR0
  clear hb1 hr1 HBY HN HB0
  go_wp2_with fail
  try rw [hR]
  refine (columns93_any _ 0 _ HR1.out (by omega)).mono ?_
  rintro e w2 ⟨A2, m, c2, xs, p2, rfl, hm, hp0, hp1, hk⟩
  have HK2 := hide hk
  clear hk hR
  go_wp2_with fail
  refine (check93_any A2 m c2 _ R xs p2 _ HK2.out.rd (by omega) HK2.out.own.ints (Nat.le_refl _) (by omega)).mono ?_
  rintro e w3 ⟨q1, q2, p3, rfl, hq1, hq2, hp2, hp3, hr3, hg3⟩
  have hk3 := HK2.out.pick hr3 hg3
  have hn3 := (HN1.out.grown HK2.out.grown (by intro e; injection e with e; omega)).grown hg3 (by intro e; injection e with e; omega)
  obtain ⟨g, hg⟩ : ∃ g, w3.heap.size = g := ⟨_, rfl⟩
  have HM3 : Hid (KM w w1 (w3.alloc (.cells #[.int .i64 q1, .int .i64 q2] 26)) R w.heap.size g p3 A2 m c2 xs q1 q2) :=
    { kh := hk3.alloc _, rb := hn3.alloc _, cb := by rw [← hg]; exact Blk.new _ _ _, hb := Nat.le_refl _, hb1 := hR0, hg := by rw [← hg]; exact hk3.grown.size
      hgo := fun k hk e => by have := (hk3.own.block k hk).2; omega, low := HB1.out }
  clear hr3 hg3 HK2 HN1 HR1 hk3 hn3
  go_wp2_with fail
  clear hg
  refine (pick_any R _ ((m : Int) + 1) _ HM3.out.kh.rd (by omega) (by omega)).mono ?_
  rintro e w4 ⟨a, rfl, ha0, ha1, hr4, hg4⟩
  have HM4 := hide (HM3.out.pick hr4 hg4)
  clear hr4 hg4 HM3
  go_wp2_with fail
  refine (pick_any R _ ((m : Int) + 1) _ HM4.out.kh.rd (by omega) (by omega)).mono ?_
  rintro e w5 ⟨b, rfl, hb0, hb1, hr5, hg5⟩
  have HM5 := hide (HM4.out.pick hr5 hg5)
  clear hr5 hg5 HM4
  have hend : ∀ (W : World) (zs : List Int) (px : Int), KM w w1 W R w.heap.size g px A2 m c2 zs q1 q2 → DL w (((W.setCell ⟨w.heap.size, 0, none⟩ (.int .i64 q1)).setCell ⟨w.heap.size, 1, none⟩ (.int .i64 q2)).drewN 1) A2 m c2 zs := fun W zs px h => by
    have h2 := (h.kh.fin (by omega) HB1.out h.rb (Nat.le_refl _) hR0 (.int .i64 q1) (.int .i64 q2)).1
    exact { ints := h2.ints.drewN 1, num := h2.num, nc := h2.nc, below := below_drewN h2.below 1 }
  have HEND := hide hend
  clear hend
  by_cases ham : a < (m : Int)
  · have hm0 : 0 < m := by omega
    obtain ⟨o, rfl, ho0, hol⟩ := HM5.out.kh.own.shape hm0
    go_wp2_with fail
    refine (pick_any R _ 100 _ HM5.out.kh.rd (by omega) (by omega)).mono ?_
    rintro e w6 ⟨x, rfl, hx0, hx1, hr6, hg6⟩
    have HM6 := hide (HM5.out.pick hr6 hg6)
    obtain ⟨I, hI⟩ := Int.eq_ofNat_of_zero_le ha0
    have hIt : a.toNat = I := by omega
    have hcellI := HM6.out.kh.own.cell (g := o) (j := I) (by omega)
    have hfreeI := HM6.out.kh.own.free (g := o) (j := I)
    have HY := hide (HM6.out.put I x)
    clear hr6 hg6 HM5 HM6 hI
    by_cases hbm : b < (m : Int)
    · have hm1 : 0 < m := by omega
      obtain ⟨J, hJ⟩ := Int.eq_ofNat_of_zero_le hb0
      have hcell := HY.out.kh.own.cell (g := o) (j := J) (by omega)
      have hfree := HY.out.kh.own.free (g := o) (j := J)
      have HX := hide (HY.out.put J 0)
      have hJt : b.toNat = J := by omega
      clear HY hJ
      obtain ⟨⟨g0, g1⟩, ⟨b0, b1⟩, f0, f1⟩ := HX.out.cells
      have HD := hide (HEND.out _ _ _ HX.out)
      have HFB := hide (HX.out.kh.fin (by omega) HB1.out HX.out.rb (Nat.le_refl _) hR0 (.int .i64 q1) (.int .i64 q2)).2
      have z0 := HFB.out.cell 0
      have z1 := HFB.out.cell 1
      simp at z0 z1
      clear HEND HX
      go_wp2_with fail
      go_region
      all_goals
        go_wp2
        exact bodyPost_ret (v := .tuple #[.slice (some ⟨o, 0, none⟩) m c2, .int .i64 a, .int .i64 b, .agg #[.int .i64 q1, .int .i64 q2]]) (by simp [results, Try.results26, go_sem, z0, z1]) rfl ⟨_, _, _, _, _, _, _, _, rfl, hq1, hq2, by omega, by omega, HD.out⟩
    · have HX := HY
      have hbm' : decide (b < (m : Int)) = false := decide_eq_false hbm
      clear HY
      obtain ⟨⟨g0, g1⟩, ⟨b0, b1⟩, f0, f1⟩ := HX.out.cells
      have HD := hide (HEND.out _ _ _ HX.out)
      have HFB := hide (HX.out.kh.fin (by omega) HB1.out HX.out.rb (Nat.le_refl _) hR0 (.int .i64 q1) (.int .i64 q2)).2
      have z0 := HFB.out.cell 0
      have z1 := HFB.out.cell 1
      simp at z0 z1
      clear HEND HX
      go_wp2_with fail
      go_region
      all_goals
        go_wp2
        exact bodyPost_ret (v := .tuple #[.slice (some ⟨o, 0, none⟩) m c2, .int .i64 a, .int .i64 b, .agg #[.int .i64 q1, .int .i64 q2]]) (by simp [results, Try.results26, go_sem, z0, z1]) rfl ⟨_, _, _, _, _, _, _, _, rfl, hq1, hq2, by omega, by omega, HD.out⟩
  · have HY := HM5
    have ham' : decide (a < (m : Int)) = false := decide_eq_false ham
    clear HM5
    by_cases hbm : b < (m : Int)
    · have hm1 : 0 < m := by omega
      obtain ⟨o, rfl, ho0, hol⟩ := HY.out.kh.own.shape hm1
      obtain ⟨J, hJ⟩ := Int.eq_ofNat_of_zero_le hb0
      have hcell := HY.out.kh.own.cell (g := o) (j := J) (by omega)
      have hfree := HY.out.kh.own.free (g := o) (j := J)
      have HX := hide (HY.out.put J 0)
      have hJt : b.toNat = J := by omega
      clear HY hJ
      obtain ⟨⟨g0, g1⟩, ⟨b0, b1⟩, f0, f1⟩ := HX.out.cells
      have HD := hide (HEND.out _ _ _ HX.out)
      have HFB := hide (HX.out.kh.fin (by omega) HB1.out HX.out.rb (Nat.le_refl _) hR0 (.int .i64 q1) (.int .i64 q2)).2
      have z0 := HFB.out.cell 0
      have z1 := HFB.out.cell 1
      simp at z0 z1
      clear HEND HX
      go_wp2_with fail
      go_region
      all_goals
        go_wp2
        exact bodyPost_ret (v := .tuple #[.slice (some ⟨o, 0, none⟩) m c2, .int .i64 a, .int .i64 b, .agg #[.int .i64 q1, .int .i64 q2]]) (by simp [results, Try.results26, go_sem, z0, z1]) rfl ⟨_, _, _, _, _, _, _, _, rfl, hq1, hq2, by omega, by omega, HD.out⟩
    · have HX := HY
      have hbm' : decide (b < (m : Int)) = false := decide_eq_false hbm
      clear HY
      obtain ⟨⟨g0, g1⟩, ⟨b0, b1⟩, f0, f1⟩ := HX.out.cells
      have HD := hide (HEND.out _ _ _ HX.out)
      have HFB := hide (HX.out.kh.fin (by omega) HB1.out HX.out.rb (Nat.le_refl _) hR0 (.int .i64 q1) (.int .i64 q2)).2
      have z0 := HFB.out.cell 0
      have z1 := HFB.out.cell 1
      simp at z0 z1
      clear HEND HX
      go_wp2_with fail
      go_region
      all_goals
        go_wp2
        exact bodyPost_ret (v := .tuple #[.slice A2 m c2, .int .i64 a, .int .i64 b, .agg #[.int .i64 q1, .int .i64 q2]]) (by simp [results, Try.results26, go_sem, z0, z1]) rfl ⟨_, _, _, _, _, _, _, _, rfl, hq1, hq2, by omega, by omega, HD.out⟩
end Go.Proofs.Ytldbcenipahkfaa
