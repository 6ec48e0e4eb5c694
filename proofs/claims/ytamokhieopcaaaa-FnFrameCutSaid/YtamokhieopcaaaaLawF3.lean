/-
  The walk of FnFrameCut.
-/
import Derived.Test.YtamokhieopcaaaaLawF2
import Derived.Test.YtamokhieopcaaaaFrameU
import Derived.Test.YtamokhieopcaaaaFrameM
import Derived.Test.YtamokhieopcaaaaDrawH
import Derived.Test.YtamokhieopcaaaaChanged
import Derived.Deep.RegionHeld3
namespace Go.Proofs.Ytamokhieopcaaaa
open Go.RowKit
set_option linter.unusedVariables false
set_option maxRecDepth 100000


set_option maxHeartbeats 3200000 in
theorem cut_walk (A : Option Addr) (n c : Nat) (bs : Nat → Int) (w : World) (hb : Bytes w w.heap.size A n bs) (hn : n ≤ c) (hc : c ≤ maxLen) :
    Calls Try.prog 4 #[.slice A n c] w fun e w' => e = .returned (.bool true) ∧ Below w.heap.size w w' := by
  by_cases hbig : 1048576 < n
  · go_enter Try.func4, Try.ntmps4
    go_wp2
    go_ret
    exact ⟨rfl, Below.refl _ _⟩
  · go_enter Try.func4, Try.ntmps4
    go_wp2_with fail
    refine (drawGet_any A n c bs _ hb hn hc).mono ?_
    rintro e w1 ⟨A1, m1, c1, xs, p, rfl, ho1, hm1, hrng, hp0, hp1, hB1⟩
    have HB1 := hide hB1
    have HI1 := hide ho1.ints
    have hcap := ho1.cap
    have H0 := hide ho1.nilc
    have HO1 := hide ho1
    clear hB1 hb ho1
    by_cases hg : goodF xs m1 p
    · obtain ⟨a, m, rfl, hm, hl, hv, hs⟩ := goodF_parts hg
      clear hg
      have hlen := HI1.out.1
      have hm18 := (validF_iff.1 hv).2.2.1
      rw [cutW_length _ _ _ (by omega)] at hm18
      have HNO := hide (short_bad hm)
      obtain ⟨L, hL⟩ : ∃ L, a + 4 + m = L := ⟨_, rfl⟩
      have hLi : (a : Int) + 4 + (m : Int) = (L : Int) := by omega
      have HM := hide hm
      have HV := hide hv
      have HS := hide hs
      obtain ⟨x0, hx0⟩ : ∃ y, xs.getD a 0 = y := ⟨_, rfl⟩
      obtain ⟨x1, hx1⟩ : ∃ y, xs.getD (a + 1) 0 = y := ⟨_, rfl⟩
      obtain ⟨body, hbody⟩ : ∃ y, cutW xs (a + 3) m = y := ⟨_, rfl⟩
      have HG : Hid (∀ W : World, Below w1.heap.size w1 W → Calls Try.prog 9 #[.slice A1 m1 c1, .int .i64 (a : Int)] W fun e w' => ∃ A2 c2, e = .returned (.tuple #[.agg #[.int .i64 x0, .int .i64 x1, .slice A2 m c2], .int .i64 (L : Int), .bool true]) ∧ Own w' W.heap.size A2 m c2 body ∧ Below W.heap.size W w') := by
        intro W hW
        rw [← hbody, ← hLi]
        unfold maxLen at hcap
        exact implGet_yes A1 m1 c1 a m _ xs W rfl ((HI1.out.below hW (Nat.le_refl _)).more hW.size) hcap.1 (by omega) (by omega) H0.out HM.out hl x0 x1 _ hx0 hx1 rfl (by rw [← hx0, ← hx1]; exact HV.out) HS.out
      have HG2 : Hid (∀ W : World, Below w1.heap.size w1 W → Calls Try.prog 10 #[.slice A1 m1 c1, .int .i64 (a : Int)] W fun e w' => ∃ A2 c2, e = .returned (.tuple #[.agg #[.int .i64 x0, .int .i64 x1, .slice A2 m c2], .int .i64 (L : Int), .bool true]) ∧ Own w' W.heap.size A2 m c2 body ∧ Below W.heap.size W w') := by
        intro W hW
        rw [← hbody, ← hLi]
        unfold maxLen at hcap
        exact specGet_yes A1 m1 c1 a m _ xs W rfl ((HI1.out.below hW (Nat.le_refl _)).more hW.size) hcap.1 (by omega) (by omega) HM.out hl x0 x1 _ hx0 hx1 rfl (by rw [← hx0, ← hx1]; exact HV.out) HS.out
      have HX := hide (And.intro hx0 (And.intro hx1 hbody))
      have hmm : m ≤ maxLen := by unfold maxLen; omega
      obtain ⟨g1, rfl, hg1b, hg1l⟩ := HO1.out.shape (by omega)
      clear hm hv hs hx0 hx1 hbody
      go_wp2_with fail
      refine (HG.out _ (Below.refl _ _)).mono ?_
      rintro e w2 ⟨A2, c2, rfl, ho2, hB2⟩
      have hs2 := hB2.size
      have HB2 := hide ((HB1.out.trans (hB2.mono HB1.out.size)).alloc (by have := HB1.out.size; omega) (.cells #[.int .i64 x0, .int .i64 x1, .slice A2 m c2] 27))
      have HW2 := hide (hB2.alloc hs2 (.cells #[.int .i64 x0, .int .i64 x1, .slice A2 m c2] 27))
      have HF2 := hide (Blk.new w2 27 #[.int .i64 x0, .int .i64 x1, .slice A2 m c2])
      have HI2 := hide (ho2.ints.alloc (Nat.le_refl _) (.cells #[.int .i64 x0, .int .i64 x1, .slice A2 m c2] 27))
      clear hB2 ho2
      go_wp2_with fail
      refine (HG2.out _ HW2.out).mono ?_
      rintro e w3 ⟨A3, c3, rfl, ho3, hB3⟩
      have hs3 := hB3.size
      simp at hs3
      have HB3 := hide ((HB2.out.trans (hB3.mono HB2.out.size)).alloc (by have := HB1.out.size; omega) (.cells #[.int .i64 x0, .int .i64 x1, .slice A3 m c3] 27))
      have HW3 := hide ((HW2.out.trans (hB3.mono HW2.out.size)).alloc (by omega) (.cells #[.int .i64 x0, .int .i64 x1, .slice A3 m c3] 27))
      have HF3 := hide ((HF2.out.below hB3 (by simp)).alloc (.cells #[.int .i64 x0, .int .i64 x1, .slice A3 m c3] 27))
      have HI2' := hide ((HI2.out.below hB3 (by simp)).alloc (by omega) (.cells #[.int .i64 x0, .int .i64 x1, .slice A3 m c3] 27))
      have HI3 := hide (ho3.ints.alloc (Nat.le_refl _) (.cells #[.int .i64 x0, .int .i64 x1, .slice A3 m c3] 27))
      obtain ⟨t0, t1, t2⟩ := blk_cells3 HF3.out
      clear hB3 ho3
      go_wp2_with fail
      refine (sameFrame_yes x0 x1 A2 A3 m c2 c3 _ _ body _ HI2'.out (by simp; omega) HI3.out (by simp) hmm).mono ?_
      rintro e w4 ⟨rfl, hB4⟩
      have hs4 := hB4.size
      simp at hs4
      have HB4 := hide (HB3.out.trans (hB4.mono HB3.out.size))
      have HW4 := hide (HW3.out.trans (hB4.mono HW3.out.size))
      have HF4 := hide (HF3.out.below hB4 (by simp; omega))
      have HI4 := hide (HI2'.out.below hB4 (by simp; omega))
      have HX4 := hide (HI1.out.below HW4.out (Nat.le_refl _))
      clear hB4 t0 t1 t2
      have b1 : ¬ c1 = a := by have := hcap.1; omega
      have b2 : L - a = 4 + m := by omega
      have b3 : (a : Int) ≤ (L : Int) := by omega
      have b4 : (L : Int) ≤ (c1 : Int) := by have := hcap.1; omega
      obtain ⟨M, hM⟩ : ∃ M, a + 3 + m = M := ⟨_, rfl⟩
      have hMi : (L : Int) - 1 = (M : Int) := by omega
      have hM1 : L - 1 = M := by omega
      have HCUT : Hid (∀ W : World, Below w4.heap.size w4 W → Calls Try.prog 9 #[.slice (some ⟨g1, 0, none⟩) M c1, .int .i64 (a : Int)] W fun e w' => e = .returned (.tuple #[.agg #[.int .i64 0, .int .i64 0, .slice none 0 0], .int .i64 0, .bool false]) ∧ Below W.heap.size W w') := by
        intro W hW
        have h1 := (HX4.out.firsts (m := M) (by omega)).below hW (by omega)
        have hno := HNO.out
        rw [hM] at hno
        unfold maxLen at hcap
        exact implGet_no _ M c1 a (xs.take M) W (h1.more (by have := hW.size; omega)) (by omega) (by omega) (by omega) H0.out (by omega) hno
      have z1 : M ≤ c1 := by have := hcap.1; omega
      clear hlen hL hM
      go_wp2_with fail
      refine (HCUT.out _ (Below.refl _ _)).mono ?_
      rintro e w5 ⟨rfl, hB5⟩
      go_wp2
      go_ret
      exact ⟨rfl, (HB4.out.trans (hB5.mono HB4.out.size)).alloc (by have := HB4.out.size; have := hB5.size; omega) _⟩
    · have hg2 := get2_no A1 m1 c1 p xs w1 (.inr trivial) HI1.out hcap H0.out hm1 hp1 hg
      obtain ⟨HG1, HG2⟩ := hg2
      have HG2 := hide HG2
      have HG1 := hide HG1
      clear hg hcap H0
      go_wp2_with fail
      refine HG1.out.mono ?_
      rintro e w2 ⟨rfl, hB2⟩
      have hs2 := hB2.size
      have HB2 := hide ((HB1.out.trans (hB2.mono HB1.out.size)).alloc (by have := HB1.out.size; omega) (.cells #[.int .i64 0, .int .i64 0, .slice none 0 0] 27))
      have HW2 := hide (hB2.alloc hs2 (.cells #[.int .i64 0, .int .i64 0, .slice none 0 0] 27))
      have HF2 := hide (Blk.new w2 27 #[.int .i64 0, .int .i64 0, .slice none 0 0])
      clear hB2
      go_wp2_with fail
      refine (HG2.out _ HW2.out).mono ?_
      rintro e w3 ⟨rfl, hB3⟩
      have hs3 := hB3.size
      simp at hs3
      have HB3 := hide ((HB2.out.trans (hB3.mono HB2.out.size)).alloc (by have := HB1.out.size; omega) (.cells #[.int .i64 0, .int .i64 0, .slice none 0 0] 27))
      have HF3 := hide ((HF2.out.below hB3 (by simp)).alloc (.cells #[.int .i64 0, .int .i64 0, .slice none 0 0] 27))
      have HN3 := hide (Blk.new w3 27 #[.int .i64 0, .int .i64 0, .slice none 0 0])
      obtain ⟨t0, t1, t2⟩ := blk_cells3 HF3.out
      clear hB3
      go_wp2_with fail
      refine (sameFrame_yes 0 0 none none 0 0 0 0 0 [] _ (Ints.nil_ _ _ _) (Nat.zero_le _) (Ints.nil_ _ _ _) (Nat.zero_le _) (Nat.zero_le _)).mono ?_
      rintro e w4 ⟨rfl, hB4⟩
      have hs4 := hB4.size
      simp at hs4
      have HB4 := hide (HB3.out.trans (hB4.mono HB3.out.size))
      obtain ⟨u0, u1, u2⟩ := blk_cells3 (HF3.out.below hB4 (by simp; omega))
      obtain ⟨v0, v1, v2⟩ := blk_cells3 (HN3.out.below hB4 (by simp))
      clear hB4 t0 t1 t2
      go_wp2_with fail
      refine (sameFrame_yes 0 0 none none 0 0 0 0 0 [] _ (Ints.nil_ _ _ _) (Nat.zero_le _) (Ints.nil_ _ _ _) (Nat.zero_le _) (Nat.zero_le _)).mono ?_
      rintro e w5 ⟨rfl, hB5⟩
      go_wp2
      go_ret
      exact ⟨rfl, HB4.out.trans (hB5.mono HB4.out.size)⟩
end Go.Proofs.Ytamokhieopcaaaa
