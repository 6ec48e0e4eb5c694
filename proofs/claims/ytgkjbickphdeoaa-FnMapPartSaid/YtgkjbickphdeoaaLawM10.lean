/-
  The walk of FnMapPart.
-/
import Derived.Test.YtgkjbickphdeoaaDrawM2
import Derived.Test.YtgkjbickphdeoaaImpM1
import Derived.Deep.Cut
namespace Go.Proofs.Ytgkjbickphdeoaa
open Go.RowKit
set_option linter.unusedVariables false
set_option maxRecDepth 100000

set_option maxHeartbeats 6400000 in
theorem mapPart_walk (A : Option Addr) (n c : Nat) (bs : Nat → Int) (A' : Option Addr) (n' c' : Nat) (bs' : Nat → Int) (w : World) (hb : Bytes w w.heap.size A n bs) (hn : n ≤ c) (hc : c ≤ maxLen) (hb' : Bytes w w.heap.size A' n' bs') (hn1 : n' ≤ c') (hc1 : c' ≤ maxLen) :
    Calls Try.prog 12 #[.slice A n c, .slice A' n' c'] w fun e w' => e = .returned (.bool true) ∧ Below w.heap.size w w' := by
  have hn' : n' ≤ 9223372036854775807 := by unfold maxLen at hc1; omega
  clear hc1 hb'
  by_cases hbig : 1048576 < n
  · go_enter Try.func12, Try.ntmps12
    go_wp2
    go_ret
    exact ⟨rfl, Below.refl _ _⟩
  by_cases hbig' : 1048576 < n'
  · go_enter Try.func12, Try.ntmps12
    go_wp2
    go_ret
    exact ⟨rfl, Below.refl _ _⟩
  go_enter Try.func12, Try.ntmps12
  go_wp2_with fail
  refine (drawMV_any A n c bs _ hb hn hc).mono ?_
  rintro e w1 ⟨A1, m, c1, ms, rfl, hd⟩
  have HB1 := hide hd.below
  have HI := hide hd.mpi
  have hm := hd.num
  have hmc := hd.nc
  have hs1 := hd.below.size
  have HLM := hide hd.mpi.1
  have HP1 := hide (implMV A1 m c1 _ ms w1 hd.mpi (Nat.le_refl _) (by omega))
  have HP2 := hide fun (W : World) (h : Below w1.heap.size w1 W) => specMV A1 m c1 _ ms W (hd.mpi.below h (Nat.le_refl _)) h.size (by omega)
  clear hb hd
  rcases hv : mpV ms with _ | _
  · rw [hv] at HP1 HP2
    clear hv
    go_wp2_with fail
    refine HP1.out.mono ?_
    rintro e w2 ⟨rfl, hb2⟩
    have HW2 := hide hb2
    clear hb2
    go_wp2_with fail
    refine (HP2.out _ HW2.out).mono ?_
    rintro e w3 ⟨rfl, hb3⟩
    have HE := hide (HB1.out.trans ((HW2.out.trans (hb3.mono HW2.out.size)).mono hs1))
    clear hb3
    go_wp2
    go_ret
    exact ⟨rfl, HE.out⟩
  rw [hv] at HP1 HP2
  have HV := hide hv
  have hm12 : m = 12 := HLM.out.symm.trans (mpV_iff.1 hv).2
  subst hm12
  clear hv
  go_wp2_with fail
  refine HP1.out.mono ?_
  rintro e w2 ⟨rfl, hb2⟩
  have HW2 := hide hb2
  clear hb2 HP1
  go_wp2_with fail
  refine (HP2.out _ HW2.out).mono ?_
  rintro e w3 ⟨rfl, hb3⟩
  have HW3 := hide (HW2.out.trans (hb3.mono HW2.out.size))
  have HI3 := hide (HI.out.below HW3.out (Nat.le_refl _))
  have HS13 := hide HW3.out.size
  have HEND := hide fun (W : World) (h : Below w3.heap.size w3 W) => HB1.out.trans ((HW3.out.trans (h.mono HW3.out.size)).mono hs1)
  clear hb3 HP2 HW2
  obtain ⟨K, hK⟩ : ∃ K : Nat, (n' : Int) % 12 = (K : Int) := Int.eq_ofNat_of_zero_le (Int.emod_nonneg _ (by omega))
  have hK12 : K < 12 := by have := Int.emod_lt_of_pos (n' : Int) (show (0 : Int) < 12 by omega); omega
  have K0 : (0 : Int) ≤ (K : Int) := by omega
  have K1 : (K : Int) < 12 := by omega
  have hK2 : (n' : Int).tmod 12 = (K : Int) := by rw [Int.tmod_eq_emod_of_nonneg (by omega)]; exact hK
  obtain ⟨x, hx⟩ : ∃ x, ms[K]? = some x := ⟨_, List.getElem?_eq_getElem (by rw [HLM.out]; exact hK12)⟩
  have HX := hide hx
  have HOKX := hide (set_valid HV.out K)
  have HOKY := hide (set_wrong (ms := ms) (k := K) (by rw [HLM.out]; exact hK12) x.2)
  obtain ⟨ad1, hA1, _, _⟩ := HI3.out.2.2 (by omega)
  subst hA1
  clear hx
  go_upto_region 10 with (at_builtin; refine wpList_append_recs whT rfl (.tmp 40) (.tmp 41) rfl w3.heap.size 0 0 w1.heap.size 12 c1 (some ⟨w3.heap.size, 0, none⟩) (some ad1) [] (fl5 ms) rfl (OwnR.lit0 w3 _ (Nat.le_refl _) _ _) rfl (HI3.out.alloc HS13.out _).2 (by omega) (by simp) ?_; intro A4 c4 w4 ho4 hg4 hat4; simp only [Nat.zero_add, List.nil_append] at ho4 ⊢; have HO4 := hide (show MpR w4 w3.heap.size A4 12 c4 ms from ⟨HLM.out, ho4⟩); have HB4 := hide (below_app0 (Below.refl _ w3) (Nat.le_refl _) hg4); clear ho4 hg4 hat4)
  obtain ⟨g, rfl, hg0, hgl⟩ := HO4.out.2.shape (by omega)
  obtain ⟨hp5, hg5, y0, y1, y2, y3, y4, f0, z0, f1, z1, f2, z2, f3, z3, f4, z4⟩ := HO4.out.put hK12 0 0 0 0 0
  obtain ⟨W5, hW5⟩ : ∃ W5, set5 w4 g K 0 0 0 0 0 = W5 := ⟨_, rfl⟩
  rw [hW5] at hp5 hg5
  unfold set5 at hW5
  have HO5 := hide hp5
  have HB5 := hide (HB4.out.grown hg5 HB4.out.size (by intro q hq; injection hq with hq; omega))
  have HI5 := hide (HI3.out.below HB5.out HS13.out)
  have HS35 := hide HB5.out.size
  have HS15 := hide (Nat.le_trans HS13.out HB5.out.size)
  clear hp5 hg5 HB4 HO4
  go_upto_region 12 with (at_builtin; refine wpList_append_recs whT rfl (.tmp 47) (.tmp 48) rfl W5.heap.size 0 0 w1.heap.size 12 c1 (some ⟨W5.heap.size, 0, none⟩) (some ad1) [] (fl5 ms) rfl (OwnR.lit0 W5 _ (Nat.le_refl _) _ _) rfl (HI5.out.alloc HS15.out _).2 (by omega) (by simp) ?_; intro A6 c6 w6 ho6 hg6 hat6; simp only [Nat.zero_add, List.nil_append] at ho6 ⊢; have HO6 := hide (show MpR w6 W5.heap.size A6 12 c6 ms from ⟨HLM.out, ho6⟩); have HB6 := hide (below_app0 (Below.refl _ W5) (Nat.le_refl _) hg6); clear ho6 hg6 hat6)
  clear y0 y1 y2 y3 y4 f0 z0 f1 z1 f2 z2 f3 z3 f4 z4 hW5
  obtain ⟨g6, rfl, hg60, hgl6⟩ := HO6.out.2.shape (by omega)
  have hcell := (HO6.out.at_ HX.out).1
  have hfree := HO6.out.free (j := K * 5)
  have hput := HO6.out.put0 HX.out 3
  obtain ⟨W7, hW7⟩ : ∃ W7, w6.setCell ⟨g6, K * 5, none⟩ (.int .i64 3) = W7 := ⟨_, rfl⟩
  rw [hW7] at hput
  have HO7 := hide hput.1
  have HB7 := hide (HB6.out.grown hput.2 HB6.out.size (by intro q hq; injection hq with hq; omega))
  have HX7 := hide (HO5.out.mpi.below HB7.out (Nat.le_refl _))
  have HC1 := hide (HOKX.out ▸ implMV (some ⟨g, 0, none⟩) 12 c4 _ (ms.set K wh0) W7 HX7.out HB7.out.size (by omega))
  have HC2 := hide fun (W : World) (h : Below W7.heap.size W7 W) => HOKY.out ▸ implMV (some ⟨g6, 0, none⟩) 12 c6 _ (ms.set K (3, x.2)) W (HO7.out.mpi.below h (Nat.le_refl _)) h.size (by omega)
  have HB9 := hide (HB5.out.trans (HB7.out.mono HB5.out.size))
  clear hput HO5 HO6 HO7 HB5 HB6 HX7
  go_wp2_with fail
  refine HC1.out.mono ?_
  rintro e w8 ⟨rfl, hb8⟩
  have HB8 := hide hb8
  clear hb8
  go_wp2_with fail
  refine (HC2.out _ HB8.out).mono ?_
  rintro e w9 ⟨rfl, hb9⟩
  have HE := hide (HEND.out _ (HB9.out.trans ((HB8.out.trans (hb9.mono HB8.out.size)).mono HB9.out.size)))
  clear hb9
  go_wp2
  go_ret
  exact ⟨rfl, HE.out⟩
end Go.Proofs.Ytgkjbickphdeoaa
