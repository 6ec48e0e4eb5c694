/-
  impl.FrameGet: the frame at a place, or nothing.
-/
import Derived.Test.YtcocboigjfjnfacFrameG
namespace Go.Proofs.Ytcocboigjfjnfac
open Go.RowKit
set_option linter.unusedVariables false
set_option maxRecDepth 100000

def bodyAt (xs : List Int) (p : Int) : List Int := cutW xs (p.toNat + 3) (xs.getD (p.toNat + 2) 0).toNat
/-- a valid frame lies at p -/
def goodF (xs : List Int) (n : Nat) (p : Int) : Prop :=
  enough xs n p ∧ validF (xs.getD p.toNat 0) (xs.getD (p.toNat + 1) 0) (bodyAt xs p) = true ∧
    xs.getD (p.toNat + 3 + (xs.getD (p.toNat + 2) 0).toNat) 0 = sumFrom 7 (cutW xs p.toNat (3 + (xs.getD (p.toNat + 2) 0).toNat))

def noFrame : Value := .tuple #[.agg #[.int .i64 0, .int .i64 0, .slice none 0 0], .int .i64 0, .bool false]

/-- what FrameGet's walks know when the cursor has been laid -/
theorem get_start (A : Option Addr) (n c : Nat) (p : Int) (xs : List Int) (w : World) (hi : Ints w w.heap.size A n xs) :
    Blk ((w.alloc (.cells #[.int .i64 0, .int .i64 0, .slice none 0 0] 33)).alloc (.cells #[.slice A n c, .int .i64 p] 62)) (w.heap.size + 1) 62 #[.slice A n c, .int .i64 p] ∧
    Blk ((w.alloc (.cells #[.int .i64 0, .int .i64 0, .slice none 0 0] 33)).alloc (.cells #[.slice A n c, .int .i64 p] 62)) w.heap.size 33 #[.int .i64 0, .int .i64 0, .slice none 0 0] ∧
    Ints ((w.alloc (.cells #[.int .i64 0, .int .i64 0, .slice none 0 0] 33)).alloc (.cells #[.slice A n c, .int .i64 p] 62)) (w.heap.size + 1) A n xs ∧
    Below w.heap.size w ((w.alloc (.cells #[.int .i64 0, .int .i64 0, .slice none 0 0] 33)).alloc (.cells #[.slice A n c, .int .i64 p] 62)) :=
  ⟨blk_new' (by simp) _ _, (Blk.new w _ _).alloc _, ((hi.alloc (Nat.le_refl _) _).alloc (by simp) _).more (by omega), (below_box w _).alloc (by simp) _⟩

set_option maxHeartbeats 1600000 in
theorem implGet_no0 (A : Option Addr) (n c : Nat) (p : Int) (xs : List Int) (w : World) (hi : Ints w w.heap.size A n xs) (hn : n ≤ c) (hc : c ≤ 9223372036854775807) (hn2 : n ≤ 17592186044416)
    (hp : p ≤ 9223372036854775807) (hno : ¬ goodF xs n p) :
    Calls Try.prog 12 #[.slice A n c, .int .i64 p] w fun e w' => e = .returned noFrame ∧ Below w.heap.size w w' := by
  have HN := hide hno
  have HS := hide (get_start A n c p xs w hi)
  have HI := hide hi
  clear hi hno
  by_cases hen : enough xs n p
  · obtain ⟨e0, e1, e2, e3⟩ := hen
    obtain ⟨a, rfl⟩ := Int.eq_ofNat_of_zero_le e0
    simp only [Int.toNat_natCast] at e2 e3
    obtain ⟨m, hm⟩ := Int.eq_ofNat_of_zero_le e2
    have hl : a + 4 + m ≤ n := by omega
    have hG : ¬ (validF (xs.getD a 0) (xs.getD (a + 1) 0) (cutW xs (a + 3) m) = true ∧ xs.getD (a + 3 + m) 0 = sumFrom 7 (cutW xs a (3 + m))) := by
      intro h
      refine HN.out ⟨⟨by omega, by omega, by simpa using e2, by simpa using e3⟩, ?_⟩
      simp only [Int.toNat_natCast, bodyAt, hm]
      exact h
    have HM := hide hm
    have HL := hide HI.out.1
    obtain ⟨x0, hx0⟩ : ∃ y, xs.getD a 0 = y := ⟨_, rfl⟩
    obtain ⟨x1, hx1⟩ : ∃ y, xs.getD (a + 1) 0 = y := ⟨_, rfl⟩
    obtain ⟨x3, hx3⟩ : ∃ y, xs.getD (a + 3 + m) 0 = y := ⟨_, rfl⟩
    rw [hx0, hx1, hx3] at hG
    have HX := hide (And.intro hx0 (And.intro hx1 hx3))
    have HG := hide hG
    clear hG hm hx0 hx1 hx3 e0 e1 e2 e3 HN
    go_enter Try.func12, Try.ntmps12
    go_wp2_with fail
    refine (tf_yes (w.heap.size + 1) A n c a m _ xs _ rfl HS.out.1 HS.out.2.2.1 hn hc hn2 HM.out hl x0 x1 x3 HX.out.1 HX.out.2.1 HX.out.2.2).mono ?_
    rintro e w1 ⟨A2, c2, rfl, ho1, hb1, hg1⟩
    have hs1 := hg1.size
    simp at hs1
    have HB1 := hide (HS.out.2.2.2.trans (below_of_grown' hg1 (B := w.heap.size) (by simp; omega) (by intro q hq; injection hq with hq; omega)))
    have HR1 := hide (blk_grown HS.out.2.1 hg1 (by omega))
    have HC1 := hide hb1
    have HO1 := hide ho1
    have HI1 := hide ((HI.out.below HB1.out (Nat.le_refl _)))
    have hmm : m ≤ maxLen := by unfold maxLen; omega
    have hcc := ho1.cap.2
    clear hb1 hg1 ho1
    rcases hv : validF x0 x1 (cutW xs (a + 3) m) with _ | _
    · have HV := hide hv
      clear hv
      go_wp2_with fail
      refine (implValid x0 x1 A2 m c2 w1.heap.size (cutW xs (a + 3) m) _ (HO1.out.ints.alloc (Nat.le_refl _) _) (by simp) hmm).mono ?_
      rw [HV.out]
      rintro e w2 ⟨rfl, hb2⟩
      have hr2 := (HR1.out.alloc (.cells #[.int .i64 x0, .int .i64 x1, .slice A2 m c2] 33)).below hb2 (by simp; omega)
      obtain ⟨r0, r1, r2⟩ := blk_cells3 hr2
      have f0 := hr2.frozen 0
      have f1 := hr2.frozen 1
      have f2 := hr2.frozen 2
      obtain ⟨q0, q1, q2⟩ := blk_cells3 (frame_new w.heap.size _ _ _ hr2 (.int .i64 0) (.int .i64 0) (.slice none 0 0))
      have HB2 := hide ((HB1.out.alloc (by omega) (.cells #[.int .i64 x0, .int .i64 x1, .slice A2 m c2] 33)).trans (hb2.mono (by simp; omega)))
      clear hr2 hb2
      go_wp2
      refine bodyPost_ret (v := noFrame) (by simp [noFrame, results, Try.results12, go_sem, q0, q1, q2]) rfl ⟨rfl, ?_⟩
      exact HB2.out.trans (below_of_grown' (set3_grown _ w.heap.size _ _ _) (by have := HB2.out.size; omega) (by intro q hq; injection hq with hq; omega))
    · have HV := hide hv
      have HT := hide (show ¬ x3 = sumFrom 7 (cutW xs a (3 + m)) from fun h => HG.out ⟨hv, h⟩)
      have hC := hide fun (W : World) (h : Ints W w.heap.size A n xs) => h.cut' (a := a) (m := 3 + m) (by omega) hn
      obtain ⟨D, hD⟩ : ∃ D, (if c = a then A else Option.map (fun x => x.add a) A) = D := ⟨_, rfl⟩
      have HC : Hid (∀ (W : World), Ints W w.heap.size A n xs → Ints W w.heap.size D (3 + m) (cutW xs a (3 + m))) := by
        intro W h
        have := hC.out W h
        rwa [hD] at this
      have hm3 : 3 + m ≤ maxLen := by unfold maxLen; omega
      have HS3 : Hid (∀ (W : World) (d : Nat), Ints W w.heap.size D (3 + m) (cutW xs a (3 + m)) → Calls Try.prog 34 #[.slice D (3 + m) d] W fun e w' => e = .returned (.int .i64 (sumFrom 7 (cutW xs a (3 + m)))) ∧ W = w') := fun W d h => implSum D _ d _ _ W h hm3
      generalize sumFrom 7 (cutW xs a (3 + m)) = t at HT HS3 HG
      have hT : (x3 != t) = true := by simpa using HT.out
      clear hv hC
      go_wp2_with fail
      refine (implValid x0 x1 A2 m c2 w1.heap.size (cutW xs (a + 3) m) _ (HO1.out.ints.alloc (Nat.le_refl _) _) (by simp) hmm).mono ?_
      rw [HV.out]
      rintro e w2 ⟨rfl, hb2⟩
      have hr2 := (HR1.out.alloc (.cells #[.int .i64 x0, .int .i64 x1, .slice A2 m c2] 33)).below hb2 (by simp; omega)
      have hc2 := (HC1.out.alloc (.cells #[.int .i64 x0, .int .i64 x1, .slice A2 m c2] 33)).below hb2 (by simp; omega)
      have hd0 := hc2.cell 0
      have hd1 := hc2.cell 1
      simp at hd0 hd1
      obtain ⟨r0, r1, r2⟩ := blk_cells3 hr2
      have f0 := hr2.frozen 0
      have f1 := hr2.frozen 1
      have f2 := hr2.frozen 2
      obtain ⟨q0, q1, q2⟩ := blk_cells3 (frame_new w.heap.size _ _ _ hr2 (.int .i64 0) (.int .i64 0) (.slice none 0 0))
      have HB2 := hide ((HB1.out.alloc (by omega) (.cells #[.int .i64 x0, .int .i64 x1, .slice A2 m c2] 33)).trans (hb2.mono (by simp; omega)))
      have HI2 := hide (HI.out.below HB2.out (Nat.le_refl _))
      clear hr2 hb2 hc2
      have hl' : a + 3 + m - a = 3 + m := by omega
      go_wp2_with fail
      refine (HS3.out _ _ (HC.out _ HI2.out)).mono ?_
      rintro e w' ⟨rfl, rfl⟩
      go_wp2
      refine bodyPost_ret (v := noFrame) (by simp [noFrame, results, Try.results12, go_sem, q0, q1, q2]) rfl ⟨rfl, ?_⟩
      exact HB2.out.trans (below_of_grown' (set3_grown _ w.heap.size _ _ _) (by have := HB2.out.size; omega) (by intro q hq; injection hq with hq; omega))
  · have HE := hide hen
    clear hen
    go_enter Try.func12, Try.ntmps12
    go_wp2_with fail
    refine (tf_no (w.heap.size + 1) A n c p xs _ HS.out.1 HS.out.2.2.1 hn hc hn2 hp HE.out).mono ?_
    rintro e w1 ⟨rfl, hg1⟩
    have hs1 := hg1.size
    simp at hs1
    have HB1 := hide (HS.out.2.2.2.trans (below_of_grown' hg1 (B := w.heap.size) (by simp; omega) (by intro q hq; injection hq with hq; omega)))
    have hr1 := (blk_grown HS.out.2.1 hg1 (by omega)).alloc (.cells #[.int .i64 0, .int .i64 0, .slice none 0 0] 33)
    obtain ⟨r0, r1, r2⟩ := blk_cells3 hr1
    have f0 := hr1.frozen 0
    have f1 := hr1.frozen 1
    have f2 := hr1.frozen 2
    obtain ⟨q0, q1, q2⟩ := blk_cells3 (frame_new w.heap.size _ _ _ hr1 (.int .i64 0) (.int .i64 0) (.slice none 0 0))
    have hB2 := HB1.out.alloc (by omega) (.cells #[.int .i64 0, .int .i64 0, .slice none 0 0] 33)
    have HB2 := hide hB2
    clear hr1 hg1 hB2
    go_wp2
    refine bodyPost_ret (v := noFrame) (by simp [noFrame, results, Try.results12, go_sem, q0, q1, q2]) rfl ⟨rfl, ?_⟩
    exact HB2.out.trans (below_of_grown' (set3_grown _ w.heap.size _ _ _) (by simp; omega) (by intro q hq; injection hq with hq; omega))

set_option maxHeartbeats 1600000 in
theorem implGet_yes0 (A : Option Addr) (n c a m : Nat) (p : Int) (xs : List Int) (w : World) (hp : p = a) (hi : Ints w w.heap.size A n xs) (hn : n ≤ c) (hc : c ≤ 9223372036854775807) (hn2 : n ≤ 17592186044416)
    (hm : xs.getD (a + 2) 0 = (m : Int)) (hl : a + 4 + m ≤ n) (x0 x1 x3 : Int) (hx0 : xs.getD a 0 = x0) (hx1 : xs.getD (a + 1) 0 = x1) (hx3 : xs.getD (a + 3 + m) 0 = x3)
    (hv : validF x0 x1 (cutW xs (a + 3) m) = true) (hs : x3 = sumFrom 7 (cutW xs a (3 + m))) :
    Calls Try.prog 12 #[.slice A n c, .int .i64 p] w fun e w' => ∃ A2 c2, e = .returned (.tuple #[.agg #[.int .i64 x0, .int .i64 x1, .slice A2 m c2], .int .i64 ((a : Int) + 4 + m), .bool true]) ∧
      Own w' w.heap.size A2 m c2 (cutW xs (a + 3) m) ∧ Below w.heap.size w w' := by
  subst hp
  have HS := hide (get_start A n c (a : Int) xs w hi)
  have HI := hide hi
  have HM := hide hm
  have HV := hide hv
  have HX := hide (And.intro hx0 (And.intro hx1 hx3))
  have hC := hide fun (W : World) (h : Ints W w.heap.size A n xs) => h.cut' (a := a) (m := 3 + m) (by omega) hn
  obtain ⟨D, hD⟩ : ∃ D, (if c = a then A else Option.map (fun x => x.add a) A) = D := ⟨_, rfl⟩
  have HC : Hid (∀ (W : World), Ints W w.heap.size A n xs → Ints W w.heap.size D (3 + m) (cutW xs a (3 + m))) := by
    intro W h
    have := hC.out W h
    rwa [hD] at this
  have hm3 : 3 + m ≤ maxLen := by unfold maxLen; omega
  have hmm : m ≤ maxLen := by unfold maxLen; omega
  have HS3 : Hid (∀ (W : World) (d : Nat), Ints W w.heap.size D (3 + m) (cutW xs a (3 + m)) → Calls Try.prog 34 #[.slice D (3 + m) d] W fun e w' => e = .returned (.int .i64 x3) ∧ W = w') := fun W d h => by
    rw [hs]
    exact implSum D _ d _ _ W h hm3
  have hl' : a + 3 + m - a = 3 + m := by omega
  clear hi hm hx0 hx1 hx3 hv hs hC
  go_enter Try.func12, Try.ntmps12
  go_wp2_with fail
  refine (tf_yes (w.heap.size + 1) A n c a m _ xs _ rfl HS.out.1 HS.out.2.2.1 hn hc hn2 HM.out hl x0 x1 x3 HX.out.1 HX.out.2.1 HX.out.2.2).mono ?_
  rintro e w1 ⟨A2, c2, rfl, ho1, hb1, hg1⟩
  have hs1 := hg1.size
  simp at hs1
  have HB1 := hide (HS.out.2.2.2.trans (below_of_grown' hg1 (B := w.heap.size) (by simp; omega) (by intro q hq; injection hq with hq; omega)))
  have HR1 := hide (blk_grown HS.out.2.1 hg1 (by omega))
  have HC1 := hide hb1
  have HO1 := hide ho1
  have HF1 := hide (Blk.new w1 33 #[.int .i64 x0, .int .i64 x1, .slice A2 m c2])
  clear hb1 hg1 ho1
  go_wp2_with fail
  refine (implValid x0 x1 A2 m c2 w1.heap.size (cutW xs (a + 3) m) _ (HO1.out.ints.alloc (Nat.le_refl _) _) (by simp) hmm).mono ?_
  rw [HV.out]
  rintro e w2 ⟨rfl, hb2⟩
  have hr2 := (HR1.out.alloc (.cells #[.int .i64 x0, .int .i64 x1, .slice A2 m c2] 33)).below hb2 (by simp; omega)
  have hc2 := (HC1.out.alloc (.cells #[.int .i64 x0, .int .i64 x1, .slice A2 m c2] 33)).below hb2 (by simp; omega)
  have hf2 := HF1.out.below hb2 (by simp)
  have hd0 := hc2.cell 0
  have hd1 := hc2.cell 1
  simp at hd0 hd1
  obtain ⟨r0, r1, r2⟩ := blk_cells3 hr2
  obtain ⟨t0, t1, t2⟩ := blk_cells3 hf2
  have f0 := hr2.frozen 0
  have f1 := hr2.frozen 1
  have f2 := hr2.frozen 2
  obtain ⟨q0, q1, q2⟩ := blk_cells3 (frame_new w.heap.size _ _ _ hr2 (.int .i64 x0) (.int .i64 x1) (.slice A2 m c2))
  have HB2 := hide ((HB1.out.alloc (by omega) (.cells #[.int .i64 x0, .int .i64 x1, .slice A2 m c2] 33)).trans (hb2.mono (by simp; omega)))
  have HI2 := hide (HI.out.below HB2.out (Nat.le_refl _))
  have HO2 := hide ((HO1.out.alloc (.cells #[.int .i64 x0, .int .i64 x1, .slice A2 m c2] 33)).below hb2)
  have hs2 := hb2.size
  simp at hs2
  clear hr2 hb2 hc2 hf2
  go_wp2_with fail
  refine (HS3.out _ _ (HC.out _ HI2.out)).mono ?_
  rintro e w' ⟨rfl, rfl⟩
  go_wp2_with fail
  go_region
  all_goals
    go_wp2
    refine bodyPost_ret (v := .tuple #[.agg #[.int .i64 x0, .int .i64 x1, .slice A2 m c2], .int .i64 ((a : Int) + 4 + m), .bool true]) (by simp [results, Try.results12, go_sem, q0, q1, q2]) rfl ?_
    have hg := set3_grown w2 w.heap.size (.int .i64 x0) (.int .i64 x1) (.slice A2 m c2)
    refine ⟨A2, c2, rfl, ?_, ?_⟩
    · exact (HO2.out.kept hg (by intro q hq e; injection hq with hq; have := (HO1.out.block _ e).1; simp at this; omega)).mono (by simp; omega)
    · have hG := HB2.out.trans (below_of_grown' hg (by have := HB2.out.size; omega) (by intro q hq; injection hq with hq; omega))
      exact ⟨hG.os, hG.tape, hG.output, hG.size, hG.block⟩
/-- the same with a premise that nobody needs -/
theorem implGet_no (A : Option Addr) (n c : Nat) (p : Int) (xs : List Int) (w : World) (hi : Ints w w.heap.size A n xs) (hn : n ≤ c) (hc : c ≤ 9223372036854775807) (hn2 : n ≤ 17592186044416) (h0 : A = none → c = 0)
    (hp : p ≤ 9223372036854775807) (hno : ¬ goodF xs n p) :
    Calls Try.prog 12 #[.slice A n c, .int .i64 p] w fun e w' => e = .returned noFrame ∧ Below w.heap.size w w' := implGet_no0 A n c p xs w hi hn hc hn2 hp hno
theorem implGet_yes (A : Option Addr) (n c a m : Nat) (p : Int) (xs : List Int) (w : World) (hp : p = a) (hi : Ints w w.heap.size A n xs) (hn : n ≤ c) (hc : c ≤ 9223372036854775807) (hn2 : n ≤ 17592186044416) (h0 : A = none → c = 0)
    (hm : xs.getD (a + 2) 0 = (m : Int)) (hl : a + 4 + m ≤ n) (x0 x1 x3 : Int) (hx0 : xs.getD a 0 = x0) (hx1 : xs.getD (a + 1) 0 = x1) (hx3 : xs.getD (a + 3 + m) 0 = x3)
    (hv : validF x0 x1 (cutW xs (a + 3) m) = true) (hs : x3 = sumFrom 7 (cutW xs a (3 + m))) :
    Calls Try.prog 12 #[.slice A n c, .int .i64 p] w fun e w' => ∃ A2 c2, e = .returned (.tuple #[.agg #[.int .i64 x0, .int .i64 x1, .slice A2 m c2], .int .i64 ((a : Int) + 4 + m), .bool true]) ∧
      Own w' w.heap.size A2 m c2 (cutW xs (a + 3) m) ∧ Below w.heap.size w w' := implGet_yes0 A n c a m p xs w hp hi hn hc hn2 hm hl x0 x1 x3 hx0 hx1 hx3 hv hs
end Go.Proofs.Ytcocboigjfjnfac
