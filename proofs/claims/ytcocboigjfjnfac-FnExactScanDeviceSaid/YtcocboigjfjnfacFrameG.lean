/-
  takeFrame: the words of a frame, in order, by the cursor.
-/
import Derived.Test.YtcocboigjfjnfacFrameT
namespace Go.Proofs.Ytcocboigjfjnfac
open Go.RowKit
set_option linter.unusedVariables false
set_option maxRecDepth 100000

theorem Ints.some_ {w : World} {B n : Nat} {A : Option Addr} {xs : List Int} (h : Ints w B A n xs) (hn : 0 < n) : A ≠ none := by
  obtain ⟨ad, e, _⟩ := h.2 hn
  rw [e]
  exact Option.some_ne_none _

set_option maxHeartbeats 1600000 in
theorem tf_yes (C : Nat) (A : Option Addr) (n c a m : Nat) (p : Int) (xs : List Int) (w : World) (hp : p = a) (hb : Blk w C 62 #[.slice A n c, .int .i64 p]) (hi : Ints w C A n xs) (hn : n ≤ c) (hc : c ≤ 9223372036854775807)
    (hn2 : n ≤ 17592186044416) (hm : xs.getD (a + 2) 0 = (m : Int)) (hl : a + 4 + m ≤ n)
    (x0 x1 x3 : Int) (hx0 : xs.getD a 0 = x0) (hx1 : xs.getD (a + 1) 0 = x1) (hx3 : xs.getD (a + 3 + m) 0 = x3) :
    Calls Try.prog 32 #[.pointer (some ⟨C, 0, none⟩)] w fun e w' => ∃ A2 c2, e = .returned (.tuple #[.agg #[.int .i64 x0, .int .i64 x1, .slice A2 m c2], .int .i64 x3, .bool true]) ∧
      Own w' w.heap.size A2 m c2 (cutW xs (a + 3) m) ∧ Blk w' C 62 #[.slice A n c, .int .i64 ((a : Int) + 4 + m)] ∧ w.grownBy w' (some C) := by
  subst hp
  have hCw := hb.lt
  have HB := hide (hb.alloc (.cells #[.int .i64 0, .int .i64 0, .slice none 0 0] 33))
  have HI := hide (hi.alloc (by omega) (.cells #[.int .i64 0, .int .i64 0, .slice none 0 0] 33))
  have HR := hide (Blk.new w 33 #[.int .i64 0, .int .i64 0, .slice none 0 0])
  have hl1 : a + 3 ≤ n := by omega
  have hl2 : a + 3 + m ≤ n := by omega
  have hl3 : a + 3 + m + 1 ≤ n := by omega
  have hm2 : m ≤ 17592186044416 := by omega
  have HM := hide hm
  have H0 : Hid (A = none → c = 0) := fun hA => absurd hA (hi.some_ (by omega))
  have HX0 := hide hx0
  have HX1 := hide hx1
  have HX3 := hide hx3
  clear hb hi hm hx0 hx1 hx3
  go_enter Try.func32, Try.ntmps32
  go_wp2_with fail
  refine (take_yes C A n c a 3 _ _ xs _ rfl rfl HB.out HI.out hn hc hl1 (by omega) H0.out).mono ?_
  rintro e w1 ⟨A1, c1, rfl, ho1, hb1, hg1⟩
  have hs1 := hg1.size
  simp at hs1
  obtain ⟨g1, rfl, hgb1, hgl1⟩ := ho1.shape (by omega)
  simp at hgb1
  have k0 := ho1.cell (g := g1) (j := 0) (by omega)
  have k1 := ho1.cell (g := g1) (j := 1) (by omega)
  have k2 := ho1.cell (g := g1) (j := 2) (by omega)
  rw [cutW_getD _ _ _ _ (by omega)] at k0 k1 k2
  rw [HM.out] at k2
  simp only [Nat.add_zero] at k0
  have HB1 := hide hb1
  have HI1 := hide (HI.out.grown hg1 (by simp; omega) (by intro q hq; injection hq with hq; omega))
  have HR1 := hide (blk_grown HR.out hg1 (by omega))
  have HG1 := hide (grown_box hg1)
  have HO1 := hide ho1
  clear hb1 hg1 ho1
  go_wp2_with fail
  refine (take_yes C A n c (a + 3) m _ _ xs _ rfl rfl HB1.out HI1.out hn hc hl2 hm2 H0.out).mono ?_
  rintro e w2 ⟨A2, c2, rfl, ho2, hb2, hg2⟩
  have hs2 := hg2.size
  have ho12 := HO1.out.kept hg2 (by intro q hq; injection hq with hq; simp [Value.ownBlock]; omega)
  have HB2 := hide hb2
  have HI2 := hide (HI1.out.grown hg2 (by omega) (by intro q hq; injection hq with hq; omega))
  have HR2 := hide (blk_grown HR1.out hg2 (by omega))
  have HG2 := hide (grown_trans' HG1.out hg2)
  have HO2 := hide ho2
  have HO12 := hide ho12
  clear hb2 hg2 ho2 ho12 k0 k1 k2
  go_wp2_with fail
  refine (take_yes C A n c (a + 3 + m) 1 _ _ xs _ rfl rfl HB2.out HI2.out hn hc hl3 (by omega) H0.out).mono ?_
  rintro e w3 ⟨A3, c3, rfl, ho3, hb3, hg3⟩
  have hs3 := hg3.size
  have ho13 := HO12.out.kept hg3 (by intro q hq; injection hq with hq; simp [Value.ownBlock]; omega)
  have ho23 := HO2.out.kept hg3 (by intro q hq e; injection hq with hq; have := HO2.out.block _ e; omega)
  have hr3 := blk_grown HR2.out hg3 (by omega)
  have HG3 := hide (grown_trans' HG2.out hg3)
  obtain ⟨g3, rfl, hgb3, hgl3⟩ := ho3.shape (by omega)
  have k0 := ho13.cell (g := g1) (j := 0) (by omega)
  have k1 := ho13.cell (g := g1) (j := 1) (by omega)
  have k3 := ho3.cell (g := g3) (j := 0) (by omega)
  rw [cutW_getD _ _ _ _ (by omega)] at k0 k1 k3
  simp only [Nat.add_zero] at k0 k3
  rw [HX0.out] at k0
  rw [HX1.out] at k1
  rw [HX3.out] at k3
  have f0 := hr3.frozen 0
  have f1 := hr3.frozen 1
  have f2 := hr3.frozen 2
  have r0 := hr3.cell 0
  have r1 := hr3.cell 1
  have r2 := hr3.cell 2
  simp at r0 r1 r2
  have hf := ((hr3.set_ 0 (.int .i64 x0)).set_ 1 (.int .i64 x1)).set_ 2 (.slice A2 m c2)
  simp at hf
  have q0 := hf.cell 0
  have q1 := hf.cell 1
  have q2 := hf.cell 2
  simp only [List.getElem?_toArray, List.getElem?_cons_zero, List.getElem?_cons_succ] at q0 q1 q2
  have HR3 := hide hr3
  have HX := hide (And.intro ho23 hb3)
  clear ho3 hb3 hg3 ho13 ho23 hr3
  clear hf
  go_wp2_with fail
  go_region
  all_goals
    go_wp2
    refine bodyPost_ret (v := .tuple #[.agg #[.int .i64 x0, .int .i64 x1, .slice A2 m c2], .int .i64 x3, .bool true]) (by simp [results, Try.results32, go_sem, q0, q1, q2]) rfl ?_
    have hg := set3_grown w3 w.heap.size (.int .i64 x0) (.int .i64 x1) (.slice A2 m c2)
    refine ⟨A2, c2, rfl, ?_, ?_, ?_⟩
    · exact (HX.out.1.kept hg (by intro q hq e; injection hq with hq; have := (HO2.out.block _ e).1; omega)).mono (by omega)
    · have hb := HX.out.2.grown hg (by intro e; injection e with e; omega)
      have e : (((a + 3 + m : Nat) : Int) + ((1 : Nat) : Int)) = (a : Int) + 4 + m := by omega
      rw [e] at hb
      exact hb
    · have hG := grown_own HG3.out hg (by intro q hq; injection hq with hq; omega)
      exact ⟨hG.os, hG.tape, hG.output, hG.size, hG.block⟩

/-- are there enough words for a frame at p? -/
def enough (xs : List Int) (n : Nat) (p : Int) : Prop := 0 ≤ p ∧ p + 3 ≤ n ∧ 0 ≤ xs.getD (p.toNat + 2) 0 ∧ p + 4 + xs.getD (p.toNat + 2) 0 ≤ n

set_option maxHeartbeats 1600000 in
theorem tf_no (C : Nat) (A : Option Addr) (n c : Nat) (p : Int) (xs : List Int) (w : World) (hb : Blk w C 62 #[.slice A n c, .int .i64 p]) (hi : Ints w C A n xs) (hn : n ≤ c) (hc : c ≤ 9223372036854775807)
    (hn2 : n ≤ 17592186044416) (hp : p ≤ 9223372036854775807) (hno : ¬ enough xs n p) :
    Calls Try.prog 32 #[.pointer (some ⟨C, 0, none⟩)] w fun e w' => e = .returned (.tuple #[.agg #[.int .i64 0, .int .i64 0, .slice none 0 0], .int .i64 0, .bool false]) ∧ w.grownBy w' (some C) := by
  have hCw := hb.lt
  have HB := hide (hb.alloc (.cells #[.int .i64 0, .int .i64 0, .slice none 0 0] 33))
  have HI := hide (hi.alloc (by omega) (.cells #[.int .i64 0, .int .i64 0, .slice none 0 0] 33))
  have HR := hide (Blk.new w 33 #[.int .i64 0, .int .i64 0, .slice none 0 0])
  have HN := hide hno
  clear hb hi hno
  by_cases h1 : (3 : Int) < 0 ∨ p < 0 ∨ (n : Int) - p < 3
  · have H1 := hide h1
    clear h1
    go_enter Try.func32, Try.ntmps32
    go_wp2_with fail
    refine (take_no C A n c p 3 _ HB.out (by omega) hp H1.out).mono ?_
    rintro e w1 ⟨rfl, d, rfl⟩
    have hr := HR.out.drewN d
    have f0 := hr.frozen 0
    have f1 := hr.frozen 1
    have f2 := hr.frozen 2
    have r0 := hr.cell 0
    have r1 := hr.cell 1
    have r2 := hr.cell 2
    simp at r0 r1 r2 f0 f1 f2
    have hf := ((hr.set_ 0 (.int .i64 0)).set_ 1 (.int .i64 0)).set_ 2 (.slice none 0 0)
    simp at hf
    have q0 := hf.cell 0
    have q1 := hf.cell 1
    have q2 := hf.cell 2
    simp only [List.getElem?_toArray, List.getElem?_cons_zero, List.getElem?_cons_succ] at q0 q1 q2
    clear hf hr
    go_wp2
    refine bodyPost_ret (v := .tuple #[.agg #[.int .i64 0, .int .i64 0, .slice none 0 0], .int .i64 0, .bool false]) (by simp [results, Try.results32, go_sem, q0, q1, q2]) rfl ⟨rfl, ?_⟩
    exact grown_own (grown_drewN (grown_alloc (grown_refl w (some C)) _) d) (set3_grown _ w.heap.size _ _ _) (by intro q hq; injection hq with hq; omega)
  · obtain ⟨a, rfl⟩ := Int.eq_ofNat_of_zero_le (show 0 ≤ p by omega)
    have hl1 : a + 3 ≤ n := by omega
    have HN2 := hide (show ¬ (0 ≤ xs.getD (a + 2) 0 ∧ (a : Int) + 4 + xs.getD (a + 2) 0 ≤ n) from fun h => HN.out ⟨by omega, by omega, h.1, h.2⟩)
    have H0 : Hid (A = none → c = 0) := fun hA => absurd hA (HI.out.some_ (by omega))
    obtain ⟨m, hm⟩ : ∃ m, m = xs.getD (a + 2) 0 := ⟨_, rfl⟩
    rw [← hm] at HN2
    have HM := hide hm
    clear hm h1
    go_enter Try.func32, Try.ntmps32
    go_wp2_with fail
    refine (take_yes C A n c a 3 _ _ xs _ rfl rfl HB.out HI.out hn hc hl1 (by omega) H0.out).mono ?_
    rintro e w1 ⟨A1, c1, rfl, ho1, hb1, hg1⟩
    have hs1 := hg1.size
    simp at hs1
    obtain ⟨g1, rfl, hgb1, hgl1⟩ := ho1.shape (by omega)
    simp at hgb1
    have k2 := ho1.cell (g := g1) (j := 2) (by omega)
    rw [cutW_getD _ _ _ _ (by omega), ← HM.out] at k2
    have HB1 := hide hb1
    have HI1 := hide (HI.out.grown hg1 (by simp; omega) (by intro q hq; injection hq with hq; omega))
    have HR1 := hide (blk_grown HR.out hg1 (by omega))
    have HG1 := hide (grown_box hg1)
    clear hb1 hg1 ho1
    by_cases h2 : m < 0 ∨ ((a + 3 : Nat) : Int) < 0 ∨ (n : Int) - ((a + 3 : Nat) : Int) < m
    · have H2 := hide h2
      clear h2
      go_wp2_with fail
      refine (take_no C A n c _ m _ HB1.out (by omega) (by omega) H2.out).mono ?_
      rintro e w2 ⟨rfl, d, rfl⟩
      have hr := HR1.out.drewN d
      have f0 := hr.frozen 0
      have f1 := hr.frozen 1
      have f2 := hr.frozen 2
      have r0 := hr.cell 0
      have r1 := hr.cell 1
      have r2 := hr.cell 2
      simp at r0 r1 r2 f0 f1 f2
      have hf := ((hr.set_ 0 (.int .i64 0)).set_ 1 (.int .i64 0)).set_ 2 (.slice none 0 0)
      simp at hf
      have q0 := hf.cell 0
      have q1 := hf.cell 1
      have q2 := hf.cell 2
      simp only [List.getElem?_toArray, List.getElem?_cons_zero, List.getElem?_cons_succ] at q0 q1 q2
      clear hf hr
      go_wp2
      refine bodyPost_ret (v := .tuple #[.agg #[.int .i64 0, .int .i64 0, .slice none 0 0], .int .i64 0, .bool false]) (by simp [results, Try.results32, go_sem, q0, q1, q2]) rfl ⟨rfl, ?_⟩
      exact grown_own (grown_drewN HG1.out d) (set3_grown _ w.heap.size _ _ _) (by intro q hq; injection hq with hq; omega)
    · obtain ⟨M, rfl⟩ := Int.eq_ofNat_of_zero_le (show 0 ≤ m by omega)
      have hl2 : a + 3 + M ≤ n := by omega
      have hm2 : M ≤ 17592186044416 := by omega
      have hl3 : n < a + 3 + M + 1 := by
        by_cases hx : a + 3 + M + 1 ≤ n
        · exact absurd ⟨by omega, by omega⟩ HN2.out
        · omega
      clear h2
      go_wp2_with fail
      refine (take_yes C A n c (a + 3) M _ _ xs _ rfl rfl HB1.out HI1.out hn hc hl2 hm2 H0.out).mono ?_
      rintro e w2 ⟨A2, c2, rfl, ho2, hb2, hg2⟩
      have HB2 := hide hb2
      have HR2 := hide (blk_grown HR1.out hg2 (by omega))
      have HG2 := hide (grown_trans' HG1.out hg2)
      clear hb2 hg2 ho2 k2
      go_wp2_with fail
      refine (take_no C A n c _ 1 _ HB2.out (by omega) (by omega) (.inr (.inr (by omega)))).mono ?_
      rintro e w3 ⟨rfl, d, rfl⟩
      have hr := HR2.out.drewN d
      have f0 := hr.frozen 0
      have f1 := hr.frozen 1
      have f2 := hr.frozen 2
      have r0 := hr.cell 0
      have r1 := hr.cell 1
      have r2 := hr.cell 2
      simp at r0 r1 r2 f0 f1 f2
      have hf := ((hr.set_ 0 (.int .i64 0)).set_ 1 (.int .i64 0)).set_ 2 (.slice none 0 0)
      simp at hf
      have q0 := hf.cell 0
      have q1 := hf.cell 1
      have q2 := hf.cell 2
      simp only [List.getElem?_toArray, List.getElem?_cons_zero, List.getElem?_cons_succ] at q0 q1 q2
      clear hf hr
      go_wp2
      refine bodyPost_ret (v := .tuple #[.agg #[.int .i64 0, .int .i64 0, .slice none 0 0], .int .i64 0, .bool false]) (by simp [results, Try.results32, go_sem, q0, q1, q2]) rfl ⟨rfl, ?_⟩
      exact grown_own (grown_drewN HG2.out d) (set3_grown _ w.heap.size _ _ _) (by intro q hq; injection hq with hq; omega)
end Go.Proofs.Ytcocboigjfjnfac
