/-
  The walks of FnFrameGet, FnFrameCut, FnFrameMove, FnFrameWord.
-/
import Derived.Test.YtamokhieopcaaaaFrameW
import Derived.Test.YtamokhieopcaaaaFrameU
import Derived.Test.YtamokhieopcaaaaFrameM
import Derived.Test.YtamokhieopcaaaaDrawH
import Derived.Test.YtamokhieopcaaaaChanged
import Derived.Deep.RegionHeld3
namespace Go.Proofs.Ytamokhieopcaaaa
open Go.RowKit
set_option linter.unusedVariables false
set_option maxRecDepth 100000

theorem Own.nilc {w : World} {base n c : Nat} {A : Option Addr} {xs : List Int} (h : Own w base A n c xs) : A = none → c = 0 := by
  rcases h.2.2 with ⟨hv, h0⟩ | ⟨g, cap, cur, hv, hb, hh, hc, hm, hs, ht⟩
  · injection hv with _ _ h2; intro _; exact h2
  · injection hv with h1; intro e; rw [h1] at e; cases e

/-- both FrameGets where no frame lies -/
theorem get2_no (A1 : Option Addr) (m1 c1 : Nat) (p : Int) (xs : List Int) (w1 : World) (ho : Own w1 w1.heap.size A1 m1 c1 xs ∨ True) (hi : Ints w1 w1.heap.size A1 m1 xs) (hcap : m1 ≤ c1 ∧ c1 ≤ maxLen) (h0 : A1 = none → c1 = 0)
    (hm : m1 ≤ 45) (hp : p ≤ 45) (hg : ¬ goodF xs m1 p) :
    Calls Try.prog 9 #[.slice A1 m1 c1, .int .i64 p] w1 (fun e w' => e = .returned (.tuple #[.agg #[.int .i64 0, .int .i64 0, .slice none 0 0], .int .i64 0, .bool false]) ∧ Below w1.heap.size w1 w') ∧
    ∀ W : World, Below w1.heap.size w1 W → Calls Try.prog 10 #[.slice A1 m1 c1, .int .i64 p] W fun e w' => e = .returned (.tuple #[.agg #[.int .i64 0, .int .i64 0, .slice none 0 0], .int .i64 0, .bool false]) ∧ Below W.heap.size W w' := by
  unfold maxLen at hcap
  exact ⟨implGet_no A1 m1 c1 p xs w1 hi hcap.1 (by omega) (by omega) h0 (by omega) hg, fun W hW => specGet_no A1 m1 c1 p xs W ((hi.below hW (Nat.le_refl _)).more hW.size) hcap.1 (by omega) (by omega) (by omega) hg⟩

set_option maxHeartbeats 3200000 in
theorem get_walk (A : Option Addr) (n c : Nat) (bs : Nat → Int) (w : World) (hb : Bytes w w.heap.size A n bs) (hn : n ≤ c) (hc : c ≤ maxLen) :
    Calls Try.prog 3 #[.slice A n c] w fun e w' => e = .returned (.bool true) ∧ Below w.heap.size w w' := by
  by_cases hbig : 1048576 < n
  · go_enter Try.func3, Try.ntmps3
    go_wp2
    go_ret
    exact ⟨rfl, Below.refl _ _⟩
  · go_enter Try.func3, Try.ntmps3
    go_wp2_with fail
    refine (drawGet_any A n c bs _ hb hn hc).mono ?_
    rintro e w1 ⟨A1, m1, c1, xs, p, rfl, ho1, hm1, hrng, hp0, hp1, hB1⟩
    have HB1 := hide hB1
    have HI1 := hide ho1.ints
    have hcap := ho1.cap
    have H0 := hide ho1.nilc
    have HO1 := hide ho1
    clear hB1 hb ho1
    by_cases hg : goodF xs m1 p
    · obtain ⟨a, m, rfl, hm, hl, hv, hs⟩ := goodF_parts hg
      clear hg
      have hlen := HI1.out.1
      have hm18 := (validF_iff.1 hv).2.2.1
      rw [cutW_length _ _ _ (by omega)] at hm18
      have hput := put_at (xs := xs) (a := a) (m := m) (by omega) hm hv hs
      have hcut := HI1.out.cut' (a := a) (m := 4 + m) (by omega) hcap.1
      have HP := hide hput
      have HC := hide hcut
      clear hput hcut
      obtain ⟨L, hL⟩ : ∃ L, a + 4 + m = L := ⟨_, rfl⟩
      have hLi : (a : Int) + 4 + (m : Int) = (L : Int) := by omega
      have HM := hide hm
      have HV := hide hv
      have HS := hide hs
      obtain ⟨x0, hx0⟩ : ∃ y, xs.getD a 0 = y := ⟨_, rfl⟩
      obtain ⟨x1, hx1⟩ : ∃ y, xs.getD (a + 1) 0 = y := ⟨_, rfl⟩
      obtain ⟨body, hbody⟩ : ∃ y, cutW xs (a + 3) m = y := ⟨_, rfl⟩
      have HG : Hid (∀ W : World, Below w1.heap.size w1 W → Calls Try.prog 9 #[.slice A1 m1 c1, .int .i64 (a : Int)] W fun e w' => ∃ A2 c2, e = .returned (.tuple #[.agg #[.int .i64 x0, .int .i64 x1, .slice A2 m c2], .int .i64 (L : Int), .bool true]) ∧ Own w' W.heap.size A2 m c2 body ∧ Below W.heap.size W w') := by
        intro W hW
        rw [← hbody, ← hLi]
        unfold maxLen at hcap
        exact implGet_yes A1 m1 c1 a m _ xs W rfl ((HI1.out.below hW (Nat.le_refl _)).more hW.size) hcap.1 (by omega) (by omega) H0.out HM.out hl x0 x1 _ hx0 hx1 rfl (by rw [← hx0, ← hx1]; exact HV.out) HS.out
      have HG2 : Hid (∀ W : World, Below w1.heap.size w1 W → Calls Try.prog 10 #[.slice A1 m1 c1, .int .i64 (a : Int)] W fun e w' => ∃ A2 c2, e = .returned (.tuple #[.agg #[.int .i64 x0, .int .i64 x1, .slice A2 m c2], .int .i64 (L : Int), .bool true]) ∧ Own w' W.heap.size A2 m c2 body ∧ Below W.heap.size W w') := by
        intro W hW
        rw [← hbody, ← hLi]
        unfold maxLen at hcap
        exact specGet_yes A1 m1 c1 a m _ xs W rfl ((HI1.out.below hW (Nat.le_refl _)).more hW.size) hcap.1 (by omega) (by omega) HM.out hl x0 x1 _ hx0 hx1 rfl (by rw [← hx0, ← hx1]; exact HV.out) HS.out
      have HX := hide (And.intro hx0 (And.intro hx1 hbody))
      have hmm : m ≤ maxLen := by unfold maxLen; omega
      obtain ⟨g1, rfl, hg1b, hg1l⟩ := HO1.out.shape (by omega)
      clear hm hv hs hx0 hx1 hbody
      go_wp2_with fail
      refine (HG.out _ (Below.refl _ _)).mono ?_
      rintro e w2 ⟨A2, c2, rfl, ho2, hB2⟩
      have hs2 := hB2.size
      have HB2 := hide ((HB1.out.trans (hB2.mono HB1.out.size)).alloc (by have := HB1.out.size; omega) (.cells #[.int .i64 x0, .int .i64 x1, .slice A2 m c2] 27))
      have HW2 := hide (hB2.alloc hs2 (.cells #[.int .i64 x0, .int .i64 x1, .slice A2 m c2] 27))
      have HF2 := hide (Blk.new w2 27 #[.int .i64 x0, .int .i64 x1, .slice A2 m c2])
      have HI2 := hide (ho2.ints.alloc (Nat.le_refl _) (.cells #[.int .i64 x0, .int .i64 x1, .slice A2 m c2] 27))
      clear hB2 ho2
      go_wp2_with fail
      refine (HG2.out _ HW2.out).mono ?_
      rintro e w3 ⟨A3, c3, rfl, ho3, hB3⟩
      have hs3 := hB3.size
      simp at hs3
      have HB3 := hide ((HB2.out.trans (hB3.mono HB2.out.size)).alloc (by have := HB1.out.size; omega) (.cells #[.int .i64 x0, .int .i64 x1, .slice A3 m c3] 27))
      have HW3 := hide ((HW2.out.trans (hB3.mono HW2.out.size)).alloc (by omega) (.cells #[.int .i64 x0, .int .i64 x1, .slice A3 m c3] 27))
      have HF3 := hide ((HF2.out.below hB3 (by simp)).alloc (.cells #[.int .i64 x0, .int .i64 x1, .slice A3 m c3] 27))
      have HI2' := hide ((HI2.out.below hB3 (by simp)).alloc (by omega) (.cells #[.int .i64 x0, .int .i64 x1, .slice A3 m c3] 27))
      have HI3 := hide (ho3.ints.alloc (Nat.le_refl _) (.cells #[.int .i64 x0, .int .i64 x1, .slice A3 m c3] 27))
      obtain ⟨t0, t1, t2⟩ := blk_cells3 HF3.out
      clear hB3 ho3
      go_wp2_with fail
      refine (sameFrame_yes x0 x1 A2 A3 m c2 c3 _ _ body _ HI2'.out (by simp; omega) HI3.out (by simp) hmm).mono ?_
      rintro e w4 ⟨rfl, hB4⟩
      have hs4 := hB4.size
      simp at hs4
      have HB4 := hide (HB3.out.trans (hB4.mono HB3.out.size))
      have HW4 := hide (HW3.out.trans (hB4.mono HW3.out.size))
      have HF4 := hide (HF3.out.below hB4 (by simp; omega))
      have HI4 := hide (HI2'.out.below hB4 (by simp; omega))
      have HX4 := hide (HI1.out.below HW4.out (Nat.le_refl _))
      clear hB4 t0 t1 t2
      have b1 : ¬ c1 = a := by have := hcap.1; omega
      have b2 : L - a = 4 + m := by omega
      have b3 : (a : Int) ≤ (L : Int) := by omega
      have b4 : (L : Int) ≤ (c1 : Int) := by have := hcap.1; omega
      have HPUT : Hid (∀ W : World, Below w4.heap.size w4 W → Calls Try.prog 13 #[.agg #[.int .i64 x0, .int .i64 x1, .slice A2 m c2]] W fun e w' => ∃ A5 n5 c5, e = .returned (.slice A5 n5 c5) ∧ Own w' W.heap.size A5 n5 c5 (cutW xs a (4 + m)) ∧ Below W.heap.size W w') := by
        intro W hW
        have hp := HP.out
        rw [HX.out.1, HX.out.2.1, HX.out.2.2] at hp
        rw [← hp]
        exact implPut x0 x1 A2 m c2 _ body W (HI4.out.below hW (by omega)) (Nat.le_trans (by omega) hW.size) hmm
      obtain ⟨t0, t1, t2⟩ := blk_cells3 HF4.out
      have HC2 : Hid (Ints w4 w1.heap.size (some ⟨g1, a, none⟩) (4 + m) (cutW xs a (4 + m))) := by
        have h := HC.out.below HW4.out (Nat.le_refl _)
        rw [if_neg b1, Option.map_some, add_plain'] at h
        exact h
      have hca : (cutW xs a (4 + m)).length = 4 + m := cutW_length _ _ _ (by omega)
      have HLEN := hide hca
      have hs12 : w1.heap.size ≤ w4.heap.size := by omega
      have hs24 : w2.heap.size < w4.heap.size := by omega
      have h4m : 4 + m ≤ maxLen := by unfold maxLen; omega
      clear hca hlen hL
      go_wp2_with fail
      go_region_held3 (fun W => W.cell? ⟨w2.heap.size, 0, none⟩ = some (.int .i64 x0) ∧ W.cell? ⟨w2.heap.size, 1, none⟩ = some (.int .i64 x1) ∧ W.cell? ⟨w2.heap.size, 2, none⟩ = some (.slice A2 m c2))
        (first
          | go_keep
          | (refine ⟨(hB5.cell (p := ⟨w2.heap.size, 0, none⟩) hs24).trans t0, (hB5.cell (p := ⟨w2.heap.size, 1, none⟩) hs24).trans t1, (hB5.cell (p := ⟨w2.heap.size, 2, none⟩) hs24).trans t2⟩))
        ((first
          | (go_at_call 13; refine (HPUT.out _ ?_).mono ?_; exact (Below.refl _ _).drew; rintro e w5 ⟨A5, n5, c5, rfl, ho5, hB5⟩; obtain rfl : n5 = 4 + m := ho5.1.symm.trans HLEN.out)
          | (go_at_call 12; refine (sameInts_yes A5 (some ⟨g1, a, none⟩) (4 + m) c5 (4 + m) (c1 - a) _ w1.heap.size (cutW xs a (4 + m)) (cutW xs a (4 + m)) w5 ho5.ints ((show Ints w4.drew _ _ _ _ from HC2.out).below hB5 hs12) h4m h4m rfl).mono ?_; rintro e w6 ⟨rfl, q, rfl⟩)))
      go_wp2
      go_ret
      exact ⟨rfl, below_drewN (HB4.out.drew.trans (hB5.mono HB4.out.drew.size)) q⟩
    · have hg2 := get2_no A1 m1 c1 p xs w1 (.inr trivial) HI1.out hcap H0.out hm1 hp1 hg
      obtain ⟨HG1, HG2⟩ := hg2
      have HG2 := hide HG2
      have HG1 := hide HG1
      clear hg hcap H0
      go_wp2_with fail
      refine HG1.out.mono ?_
      rintro e w2 ⟨rfl, hB2⟩
      have hs2 := hB2.size
      have HB2 := hide ((HB1.out.trans (hB2.mono HB1.out.size)).alloc (by have := HB1.out.size; omega) (.cells #[.int .i64 0, .int .i64 0, .slice none 0 0] 27))
      have HW2 := hide (hB2.alloc hs2 (.cells #[.int .i64 0, .int .i64 0, .slice none 0 0] 27))
      have HF2 := hide (Blk.new w2 27 #[.int .i64 0, .int .i64 0, .slice none 0 0])
      clear hB2
      go_wp2_with fail
      refine (HG2.out _ HW2.out).mono ?_
      rintro e w3 ⟨rfl, hB3⟩
      have hs3 := hB3.size
      simp at hs3
      have HB3 := hide ((HB2.out.trans (hB3.mono HB2.out.size)).alloc (by have := HB1.out.size; omega) (.cells #[.int .i64 0, .int .i64 0, .slice none 0 0] 27))
      have HF3 := hide ((HF2.out.below hB3 (by simp)).alloc (.cells #[.int .i64 0, .int .i64 0, .slice none 0 0] 27))
      have HN3 := hide (Blk.new w3 27 #[.int .i64 0, .int .i64 0, .slice none 0 0])
      obtain ⟨t0, t1, t2⟩ := blk_cells3 HF3.out
      clear hB3
      go_wp2_with fail
      refine (sameFrame_yes 0 0 none none 0 0 0 0 0 [] _ (Ints.nil_ _ _ _) (Nat.zero_le _) (Ints.nil_ _ _ _) (Nat.zero_le _) (Nat.zero_le _)).mono ?_
      rintro e w4 ⟨rfl, hB4⟩
      have hs4 := hB4.size
      simp at hs4
      have HB4 := hide (HB3.out.trans (hB4.mono HB3.out.size))
      obtain ⟨u0, u1, u2⟩ := blk_cells3 (HF3.out.below hB4 (by simp; omega))
      obtain ⟨v0, v1, v2⟩ := blk_cells3 (HN3.out.below hB4 (by simp))
      clear hB4 t0 t1 t2
      go_wp2_with fail
      refine (sameFrame_yes 0 0 none none 0 0 0 0 0 [] _ (Ints.nil_ _ _ _) (Nat.zero_le _) (Ints.nil_ _ _ _) (Nat.zero_le _) (Nat.zero_le _)).mono ?_
      rintro e w5 ⟨rfl, hB5⟩
      go_wp2
      go_ret
      exact ⟨rfl, HB4.out.trans (hB5.mono HB4.out.size)⟩
end Go.Proofs.Ytamokhieopcaaaa
