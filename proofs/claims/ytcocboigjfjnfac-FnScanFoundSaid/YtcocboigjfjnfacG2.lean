/-
  Texts in one: FrameB, FrameG, FrameI, ImpZ1, DrawZ1. Plain.
-/
import Derived.Test.YtcocboigjfjnfacFrame0
import Derived.Test.YtcocboigjfjnfacG1
import Derived.Test.YtcocboigjfjnfacFrameT
import Derived.Test.YtcocboigjfjnfacSpecZ1
import Derived.Test.YtcocboigjfjnfacDrawP
import Derived.Test.YtcocboigjfjnfacDrawC
import Derived.Test.YtcocboigjfjnfacSpecP
import Derived.Test.YtcocboigjfjnfacSpecC
/- FrameB -/
namespace Go.Proofs.Ytcocboigjfjnfac
open Go.RowKit
set_option linter.unusedVariables false
set_option maxRecDepth 100000

theorem bytes_of {W : World} {x : Addr} {l c : Nat} {zs : List Int} (hl : l ≤ c) (hz : zs.length = c) (hcell : ∀ i, i < zs.length → W.cell? (x.add i) = some (.int .u8 (zs.getD i 0)))
    (hwz : ∀ n ∈ zs, (Lit.int .u8 n).wf = true) : Bytes W W.heap.size (some x) l (fun j => zs.getD j 0) := by
  intro hn
  refine ⟨x, rfl, ?_, fun j hj => ?_⟩
  · have := World.block_lt_of_cell? W _ (hcell 0 (by omega))
    rwa [block_of_add] at this
  · have hj' : j < zs.length := by omega
    have hw : (Lit.int .u8 (zs.getD j 0)).wf = true := hwz _ (by simp [List.getD, hj'])
    exact ⟨(wf_u8 hw).1, (wf_u8 hw).2, hcell j hj'⟩

end Go.Proofs.Ytcocboigjfjnfac

/- FrameG -/
namespace Go.Proofs.Ytcocboigjfjnfac
open Go.RowKit
set_option linter.unusedVariables false
set_option maxRecDepth 100000

theorem Ints.some_ {w : World} {B n : Nat} {A : Option Addr} {xs : List Int} (h : Ints w B A n xs) (hn : 0 < n) : A ≠ none := by
  obtain ⟨ad, e, _⟩ := h.2 hn
  rw [e]
  exact Option.some_ne_none _

set_option maxHeartbeats 1600000 in
theorem tf_yes (C : Nat) (A : Option Addr) (n c a m : Nat) (p : Int) (xs : List Int) (w : World) (hp : p = a) (hb : Blk w C 62 #[.slice A n c, .int .i64 p]) (hi : Ints w C A n xs) (hn : n ≤ c) (hc : c ≤ 9223372036854775807)
    (hn2 : n ≤ 17592186044416) (hm : xs.getD (a + 2) 0 = (m : Int)) (hl : a + 4 + m ≤ n)
    (x0 x1 x3 : Int) (hx0 : xs.getD a 0 = x0) (hx1 : xs.getD (a + 1) 0 = x1) (hx3 : xs.getD (a + 3 + m) 0 = x3) :
    Calls Try.prog 32 #[.pointer (some ⟨C, 0, none⟩)] w fun e w' => ∃ A2 c2, e = .returned (.tuple #[.agg #[.int .i64 x0, .int .i64 x1, .slice A2 m c2], .int .i64 x3, .bool true]) ∧
      Own w' w.heap.size A2 m c2 (cutW xs (a + 3) m) ∧ Blk w' C 62 #[.slice A n c, .int .i64 ((a : Int) + 4 + m)] ∧ w.grownBy w' (some C) := by
  subst hp
  have hCw := hb.lt
  have HB := hide (hb.alloc (.cells #[.int .i64 0, .int .i64 0, .slice none 0 0] 33))
  have HI := hide (hi.alloc (by omega) (.cells #[.int .i64 0, .int .i64 0, .slice none 0 0] 33))
  have HR := hide (Blk.new w 33 #[.int .i64 0, .int .i64 0, .slice none 0 0])
  have hl1 : a + 3 ≤ n := by omega
  have hl2 : a + 3 + m ≤ n := by omega
  have hl3 : a + 3 + m + 1 ≤ n := by omega
  have hm2 : m ≤ 17592186044416 := by omega
  have HM := hide hm
  have H0 : Hid (A = none → c = 0) := fun hA => absurd hA (hi.some_ (by omega))
  have HX0 := hide hx0
  have HX1 := hide hx1
  have HX3 := hide hx3
  clear hb hi hm hx0 hx1 hx3
  go_enter Try.func32, Try.ntmps32
  go_wp2_with fail
  refine (take_yes C A n c a 3 _ _ xs _ rfl rfl HB.out HI.out hn hc hl1 (by omega) H0.out).mono ?_
  rintro e w1 ⟨A1, c1, rfl, ho1, hb1, hg1⟩
  have hs1 := hg1.size
  simp at hs1
  obtain ⟨g1, rfl, hgb1, hgl1⟩ := ho1.shape (by omega)
  simp at hgb1
  have k0 := ho1.cell (g := g1) (j := 0) (by omega)
  have k1 := ho1.cell (g := g1) (j := 1) (by omega)
  have k2 := ho1.cell (g := g1) (j := 2) (by omega)
  rw [cutW_getD _ _ _ _ (by omega)] at k0 k1 k2
  rw [HM.out] at k2
  simp only [Nat.add_zero] at k0
  have HB1 := hide hb1
  have HI1 := hide (HI.out.grown hg1 (by simp; omega) (by intro q hq; injection hq with hq; omega))
  have HR1 := hide (blk_grown HR.out hg1 (by omega))
  have HG1 := hide (grown_box hg1)
  have HO1 := hide ho1
  clear hb1 hg1 ho1
  go_wp2_with fail
  refine (take_yes C A n c (a + 3) m _ _ xs _ rfl rfl HB1.out HI1.out hn hc hl2 hm2 H0.out).mono ?_
  rintro e w2 ⟨A2, c2, rfl, ho2, hb2, hg2⟩
  have hs2 := hg2.size
  have ho12 := HO1.out.kept hg2 (by intro q hq; injection hq with hq; simp [Value.ownBlock]; omega)
  have HB2 := hide hb2
  have HI2 := hide (HI1.out.grown hg2 (by omega) (by intro q hq; injection hq with hq; omega))
  have HR2 := hide (blk_grown HR1.out hg2 (by omega))
  have HG2 := hide (grown_trans' HG1.out hg2)
  have HO2 := hide ho2
  have HO12 := hide ho12
  clear hb2 hg2 ho2 ho12 k0 k1 k2
  go_wp2_with fail
  refine (take_yes C A n c (a + 3 + m) 1 _ _ xs _ rfl rfl HB2.out HI2.out hn hc hl3 (by omega) H0.out).mono ?_
  rintro e w3 ⟨A3, c3, rfl, ho3, hb3, hg3⟩
  have hs3 := hg3.size
  have ho13 := HO12.out.kept hg3 (by intro q hq; injection hq with hq; simp [Value.ownBlock]; omega)
  have ho23 := HO2.out.kept hg3 (by intro q hq e; injection hq with hq; have := HO2.out.block _ e; omega)
  have hr3 := blk_grown HR2.out hg3 (by omega)
  have HG3 := hide (grown_trans' HG2.out hg3)
  obtain ⟨g3, rfl, hgb3, hgl3⟩ := ho3.shape (by omega)
  have k0 := ho13.cell (g := g1) (j := 0) (by omega)
  have k1 := ho13.cell (g := g1) (j := 1) (by omega)
  have k3 := ho3.cell (g := g3) (j := 0) (by omega)
  rw [cutW_getD _ _ _ _ (by omega)] at k0 k1 k3
  simp only [Nat.add_zero] at k0 k3
  rw [HX0.out] at k0
  rw [HX1.out] at k1
  rw [HX3.out] at k3
  have f0 := hr3.frozen 0
  have f1 := hr3.frozen 1
  have f2 := hr3.frozen 2
  have r0 := hr3.cell 0
  have r1 := hr3.cell 1
  have r2 := hr3.cell 2
  simp at r0 r1 r2
  have hf := ((hr3.set_ 0 (.int .i64 x0)).set_ 1 (.int .i64 x1)).set_ 2 (.slice A2 m c2)
  simp at hf
  have q0 := hf.cell 0
  have q1 := hf.cell 1
  have q2 := hf.cell 2
  simp only [List.getElem?_toArray, List.getElem?_cons_zero, List.getElem?_cons_succ] at q0 q1 q2
  have HR3 := hide hr3
  have HX := hide (And.intro ho23 hb3)
  clear ho3 hb3 hg3 ho13 ho23 hr3
  clear hf
  go_wp2_with fail
  go_region
  all_goals
    go_wp2
    refine bodyPost_ret (v := .tuple #[.agg #[.int .i64 x0, .int .i64 x1, .slice A2 m c2], .int .i64 x3, .bool true]) (by simp [results, Try.results32, go_sem, q0, q1, q2]) rfl ?_
    have hg := set3_grown w3 w.heap.size (.int .i64 x0) (.int .i64 x1) (.slice A2 m c2)
    refine ⟨A2, c2, rfl, ?_, ?_, ?_⟩
    · exact (HX.out.1.kept hg (by intro q hq e; injection hq with hq; have := (HO2.out.block _ e).1; omega)).mono (by omega)
    · have hb := HX.out.2.grown hg (by intro e; injection e with e; omega)
      have e : (((a + 3 + m : Nat) : Int) + ((1 : Nat) : Int)) = (a : Int) + 4 + m := by omega
      rw [e] at hb
      exact hb
    · have hG := grown_own HG3.out hg (by intro q hq; injection hq with hq; omega)
      exact ⟨hG.os, hG.tape, hG.output, hG.size, hG.block⟩

/-- are there enough words for a frame at p? -/
def enough (xs : List Int) (n : Nat) (p : Int) : Prop := 0 ≤ p ∧ p + 3 ≤ n ∧ 0 ≤ xs.getD (p.toNat + 2) 0 ∧ p + 4 + xs.getD (p.toNat + 2) 0 ≤ n

set_option maxHeartbeats 1600000 in
theorem tf_no (C : Nat) (A : Option Addr) (n c : Nat) (p : Int) (xs : List Int) (w : World) (hb : Blk w C 62 #[.slice A n c, .int .i64 p]) (hi : Ints w C A n xs) (hn : n ≤ c) (hc : c ≤ 9223372036854775807)
    (hn2 : n ≤ 17592186044416) (hp : p ≤ 9223372036854775807) (hno : ¬ enough xs n p) :
    Calls Try.prog 32 #[.pointer (some ⟨C, 0, none⟩)] w fun e w' => e = .returned (.tuple #[.agg #[.int .i64 0, .int .i64 0, .slice none 0 0], .int .i64 0, .bool false]) ∧ w.grownBy w' (some C) := by
  have hCw := hb.lt
  have HB := hide (hb.alloc (.cells #[.int .i64 0, .int .i64 0, .slice none 0 0] 33))
  have HI := hide (hi.alloc (by omega) (.cells #[.int .i64 0, .int .i64 0, .slice none 0 0] 33))
  have HR := hide (Blk.new w 33 #[.int .i64 0, .int .i64 0, .slice none 0 0])
  have HN := hide hno
  clear hb hi hno
  by_cases h1 : (3 : Int) < 0 ∨ p < 0 ∨ (n : Int) - p < 3
  · have H1 := hide h1
    clear h1
    go_enter Try.func32, Try.ntmps32
    go_wp2_with fail
    refine (take_no C A n c p 3 _ HB.out (by omega) hp H1.out).mono ?_
    rintro e w1 ⟨rfl, d, rfl⟩
    have hr := HR.out.drewN d
    have f0 := hr.frozen 0
    have f1 := hr.frozen 1
    have f2 := hr.frozen 2
    have r0 := hr.cell 0
    have r1 := hr.cell 1
    have r2 := hr.cell 2
    simp at r0 r1 r2 f0 f1 f2
    have hf := ((hr.set_ 0 (.int .i64 0)).set_ 1 (.int .i64 0)).set_ 2 (.slice none 0 0)
    simp at hf
    have q0 := hf.cell 0
    have q1 := hf.cell 1
    have q2 := hf.cell 2
    simp only [List.getElem?_toArray, List.getElem?_cons_zero, List.getElem?_cons_succ] at q0 q1 q2
    clear hf hr
    go_wp2
    refine bodyPost_ret (v := .tuple #[.agg #[.int .i64 0, .int .i64 0, .slice none 0 0], .int .i64 0, .bool false]) (by simp [results, Try.results32, go_sem, q0, q1, q2]) rfl ⟨rfl, ?_⟩
    exact grown_own (grown_drewN (grown_alloc (grown_refl w (some C)) _) d) (set3_grown _ w.heap.size _ _ _) (by intro q hq; injection hq with hq; omega)
  · obtain ⟨a, rfl⟩ := Int.eq_ofNat_of_zero_le (show 0 ≤ p by omega)
    have hl1 : a + 3 ≤ n := by omega
    have HN2 := hide (show ¬ (0 ≤ xs.getD (a + 2) 0 ∧ (a : Int) + 4 + xs.getD (a + 2) 0 ≤ n) from fun h => HN.out ⟨by omega, by omega, h.1, h.2⟩)
    have H0 : Hid (A = none → c = 0) := fun hA => absurd hA (HI.out.some_ (by omega))
    obtain ⟨m, hm⟩ : ∃ m, m = xs.getD (a + 2) 0 := ⟨_, rfl⟩
    rw [← hm] at HN2
    have HM := hide hm
    clear hm h1
    go_enter Try.func32, Try.ntmps32
    go_wp2_with fail
    refine (take_yes C A n c a 3 _ _ xs _ rfl rfl HB.out HI.out hn hc hl1 (by omega) H0.out).mono ?_
    rintro e w1 ⟨A1, c1, rfl, ho1, hb1, hg1⟩
    have hs1 := hg1.size
    simp at hs1
    obtain ⟨g1, rfl, hgb1, hgl1⟩ := ho1.shape (by omega)
    simp at hgb1
    have k2 := ho1.cell (g := g1) (j := 2) (by omega)
    rw [cutW_getD _ _ _ _ (by omega), ← HM.out] at k2
    have HB1 := hide hb1
    have HI1 := hide (HI.out.grown hg1 (by simp; omega) (by intro q hq; injection hq with hq; omega))
    have HR1 := hide (blk_grown HR.out hg1 (by omega))
    have HG1 := hide (grown_box hg1)
    clear hb1 hg1 ho1
    by_cases h2 : m < 0 ∨ ((a + 3 : Nat) : Int) < 0 ∨ (n : Int) - ((a + 3 : Nat) : Int) < m
    · have H2 := hide h2
      clear h2
      go_wp2_with fail
      refine (take_no C A n c _ m _ HB1.out (by omega) (by omega) H2.out).mono ?_
      rintro e w2 ⟨rfl, d, rfl⟩
      have hr := HR1.out.drewN d
      have f0 := hr.frozen 0
      have f1 := hr.frozen 1
      have f2 := hr.frozen 2
      have r0 := hr.cell 0
      have r1 := hr.cell 1
      have r2 := hr.cell 2
      simp at r0 r1 r2 f0 f1 f2
      have hf := ((hr.set_ 0 (.int .i64 0)).set_ 1 (.int .i64 0)).set_ 2 (.slice none 0 0)
      simp at hf
      have q0 := hf.cell 0
      have q1 := hf.cell 1
      have q2 := hf.cell 2
      simp only [List.getElem?_toArray, List.getElem?_cons_zero, List.getElem?_cons_succ] at q0 q1 q2
      clear hf hr
      go_wp2
      refine bodyPost_ret (v := .tuple #[.agg #[.int .i64 0, .int .i64 0, .slice none 0 0], .int .i64 0, .bool false]) (by simp [results, Try.results32, go_sem, q0, q1, q2]) rfl ⟨rfl, ?_⟩
      exact grown_own (grown_drewN HG1.out d) (set3_grown _ w.heap.size _ _ _) (by intro q hq; injection hq with hq; omega)
    · obtain ⟨M, rfl⟩ := Int.eq_ofNat_of_zero_le (show 0 ≤ m by omega)
      have hl2 : a + 3 + M ≤ n := by omega
      have hm2 : M ≤ 17592186044416 := by omega
      have hl3 : n < a + 3 + M + 1 := by
        by_cases hx : a + 3 + M + 1 ≤ n
        · exact absurd ⟨by omega, by omega⟩ HN2.out
        · omega
      clear h2
      go_wp2_with fail
      refine (take_yes C A n c (a + 3) M _ _ xs _ rfl rfl HB1.out HI1.out hn hc hl2 hm2 H0.out).mono ?_
      rintro e w2 ⟨A2, c2, rfl, ho2, hb2, hg2⟩
      have HB2 := hide hb2
      have HR2 := hide (blk_grown HR1.out hg2 (by omega))
      have HG2 := hide (grown_trans' HG1.out hg2)
      clear hb2 hg2 ho2 k2
      go_wp2_with fail
      refine (take_no C A n c _ 1 _ HB2.out (by omega) (by omega) (.inr (.inr (by omega)))).mono ?_
      rintro e w3 ⟨rfl, d, rfl⟩
      have hr := HR2.out.drewN d
      have f0 := hr.frozen 0
      have f1 := hr.frozen 1
      have f2 := hr.frozen 2
      have r0 := hr.cell 0
      have r1 := hr.cell 1
      have r2 := hr.cell 2
      simp at r0 r1 r2 f0 f1 f2
      have hf := ((hr.set_ 0 (.int .i64 0)).set_ 1 (.int .i64 0)).set_ 2 (.slice none 0 0)
      simp at hf
      have q0 := hf.cell 0
      have q1 := hf.cell 1
      have q2 := hf.cell 2
      simp only [List.getElem?_toArray, List.getElem?_cons_zero, List.getElem?_cons_succ] at q0 q1 q2
      clear hf hr
      go_wp2
      refine bodyPost_ret (v := .tuple #[.agg #[.int .i64 0, .int .i64 0, .slice none 0 0], .int .i64 0, .bool false]) (by simp [results, Try.results32, go_sem, q0, q1, q2]) rfl ⟨rfl, ?_⟩
      exact grown_own (grown_drewN HG2.out d) (set3_grown _ w.heap.size _ _ _) (by intro q hq; injection hq with hq; omega)
end Go.Proofs.Ytcocboigjfjnfac

/- FrameI -/
namespace Go.Proofs.Ytcocboigjfjnfac
open Go.RowKit
set_option linter.unusedVariables false
set_option maxRecDepth 100000

def bodyAt (xs : List Int) (p : Int) : List Int := cutW xs (p.toNat + 3) (xs.getD (p.toNat + 2) 0).toNat
/-- a valid frame lies at p -/
def goodF (xs : List Int) (n : Nat) (p : Int) : Prop :=
  enough xs n p ∧ validF (xs.getD p.toNat 0) (xs.getD (p.toNat + 1) 0) (bodyAt xs p) = true ∧
    xs.getD (p.toNat + 3 + (xs.getD (p.toNat + 2) 0).toNat) 0 = sumFrom 7 (cutW xs p.toNat (3 + (xs.getD (p.toNat + 2) 0).toNat))

def noFrame : Value := .tuple #[.agg #[.int .i64 0, .int .i64 0, .slice none 0 0], .int .i64 0, .bool false]

/-- what FrameGet's walks know when the cursor has been laid -/
theorem get_start (A : Option Addr) (n c : Nat) (p : Int) (xs : List Int) (w : World) (hi : Ints w w.heap.size A n xs) :
    Blk ((w.alloc (.cells #[.int .i64 0, .int .i64 0, .slice none 0 0] 33)).alloc (.cells #[.slice A n c, .int .i64 p] 62)) (w.heap.size + 1) 62 #[.slice A n c, .int .i64 p] ∧
    Blk ((w.alloc (.cells #[.int .i64 0, .int .i64 0, .slice none 0 0] 33)).alloc (.cells #[.slice A n c, .int .i64 p] 62)) w.heap.size 33 #[.int .i64 0, .int .i64 0, .slice none 0 0] ∧
    Ints ((w.alloc (.cells #[.int .i64 0, .int .i64 0, .slice none 0 0] 33)).alloc (.cells #[.slice A n c, .int .i64 p] 62)) (w.heap.size + 1) A n xs ∧
    Below w.heap.size w ((w.alloc (.cells #[.int .i64 0, .int .i64 0, .slice none 0 0] 33)).alloc (.cells #[.slice A n c, .int .i64 p] 62)) :=
  ⟨blk_new' (by simp) _ _, (Blk.new w _ _).alloc _, ((hi.alloc (Nat.le_refl _) _).alloc (by simp) _).more (by omega), (below_box w _).alloc (by simp) _⟩

set_option maxHeartbeats 1600000 in
theorem implGet_no0 (A : Option Addr) (n c : Nat) (p : Int) (xs : List Int) (w : World) (hi : Ints w w.heap.size A n xs) (hn : n ≤ c) (hc : c ≤ 9223372036854775807) (hn2 : n ≤ 17592186044416)
    (hp : p ≤ 9223372036854775807) (hno : ¬ goodF xs n p) :
    Calls Try.prog 12 #[.slice A n c, .int .i64 p] w fun e w' => e = .returned noFrame ∧ Below w.heap.size w w' := by
  have HN := hide hno
  have HS := hide (get_start A n c p xs w hi)
  have HI := hide hi
  clear hi hno
  by_cases hen : enough xs n p
  · obtain ⟨e0, e1, e2, e3⟩ := hen
    obtain ⟨a, rfl⟩ := Int.eq_ofNat_of_zero_le e0
    simp only [Int.toNat_natCast] at e2 e3
    obtain ⟨m, hm⟩ := Int.eq_ofNat_of_zero_le e2
    have hl : a + 4 + m ≤ n := by omega
    have hG : ¬ (validF (xs.getD a 0) (xs.getD (a + 1) 0) (cutW xs (a + 3) m) = true ∧ xs.getD (a + 3 + m) 0 = sumFrom 7 (cutW xs a (3 + m))) := by
      intro h
      refine HN.out ⟨⟨by omega, by omega, by simpa using e2, by simpa using e3⟩, ?_⟩
      simp only [Int.toNat_natCast, bodyAt, hm]
      exact h
    have HM := hide hm
    have HL := hide HI.out.1
    obtain ⟨x0, hx0⟩ : ∃ y, xs.getD a 0 = y := ⟨_, rfl⟩
    obtain ⟨x1, hx1⟩ : ∃ y, xs.getD (a + 1) 0 = y := ⟨_, rfl⟩
    obtain ⟨x3, hx3⟩ : ∃ y, xs.getD (a + 3 + m) 0 = y := ⟨_, rfl⟩
    rw [hx0, hx1, hx3] at hG
    have HX := hide (And.intro hx0 (And.intro hx1 hx3))
    have HG := hide hG
    clear hG hm hx0 hx1 hx3 e0 e1 e2 e3 HN
    go_enter Try.func12, Try.ntmps12
    go_wp2_with fail
    refine (tf_yes (w.heap.size + 1) A n c a m _ xs _ rfl HS.out.1 HS.out.2.2.1 hn hc hn2 HM.out hl x0 x1 x3 HX.out.1 HX.out.2.1 HX.out.2.2).mono ?_
    rintro e w1 ⟨A2, c2, rfl, ho1, hb1, hg1⟩
    have hs1 := hg1.size
    simp at hs1
    have HB1 := hide (HS.out.2.2.2.trans (below_of_grown' hg1 (B := w.heap.size) (by simp; omega) (by intro q hq; injection hq with hq; omega)))
    have HR1 := hide (blk_grown HS.out.2.1 hg1 (by omega))
    have HC1 := hide hb1
    have HO1 := hide ho1
    have HI1 := hide ((HI.out.below HB1.out (Nat.le_refl _)))
    have hmm : m ≤ maxLen := by unfold maxLen; omega
    have hcc := ho1.cap.2
    clear hb1 hg1 ho1
    rcases hv : validF x0 x1 (cutW xs (a + 3) m) with _ | _
    · have HV := hide hv
      clear hv
      go_wp2_with fail
      refine (implValid x0 x1 A2 m c2 w1.heap.size (cutW xs (a + 3) m) _ (HO1.out.ints.alloc (Nat.le_refl _) _) (by simp) hmm).mono ?_
      rw [HV.out]
      rintro e w2 ⟨rfl, hb2⟩
      have hr2 := (HR1.out.alloc (.cells #[.int .i64 x0, .int .i64 x1, .slice A2 m c2] 33)).below hb2 (by simp; omega)
      obtain ⟨r0, r1, r2⟩ := blk_cells3 hr2
      have f0 := hr2.frozen 0
      have f1 := hr2.frozen 1
      have f2 := hr2.frozen 2
      obtain ⟨q0, q1, q2⟩ := blk_cells3 (frame_new w.heap.size _ _ _ hr2 (.int .i64 0) (.int .i64 0) (.slice none 0 0))
      have HB2 := hide ((HB1.out.alloc (by omega) (.cells #[.int .i64 x0, .int .i64 x1, .slice A2 m c2] 33)).trans (hb2.mono (by simp; omega)))
      clear hr2 hb2
      go_wp2
      refine bodyPost_ret (v := noFrame) (by simp [noFrame, results, Try.results12, go_sem, q0, q1, q2]) rfl ⟨rfl, ?_⟩
      exact HB2.out.trans (below_of_grown' (set3_grown _ w.heap.size _ _ _) (by have := HB2.out.size; omega) (by intro q hq; injection hq with hq; omega))
    · have HV := hide hv
      have HT := hide (show ¬ x3 = sumFrom 7 (cutW xs a (3 + m)) from fun h => HG.out ⟨hv, h⟩)
      have hC := hide fun (W : World) (h : Ints W w.heap.size A n xs) => h.cut' (a := a) (m := 3 + m) (by omega) hn
      obtain ⟨D, hD⟩ : ∃ D, (if c = a then A else Option.map (fun x => x.add a) A) = D := ⟨_, rfl⟩
      have HC : Hid (∀ (W : World), Ints W w.heap.size A n xs → Ints W w.heap.size D (3 + m) (cutW xs a (3 + m))) := by
        intro W h
        have := hC.out W h
        rwa [hD] at this
      have hm3 : 3 + m ≤ maxLen := by unfold maxLen; omega
      have HS3 : Hid (∀ (W : World) (d : Nat), Ints W w.heap.size D (3 + m) (cutW xs a (3 + m)) → Calls Try.prog 34 #[.slice D (3 + m) d] W fun e w' => e = .returned (.int .i64 (sumFrom 7 (cutW xs a (3 + m)))) ∧ W = w') := fun W d h => implSum D _ d _ _ W h hm3
      generalize sumFrom 7 (cutW xs a (3 + m)) = t at HT HS3 HG
      have hT : (x3 != t) = true := by simpa using HT.out
      clear hv hC
      go_wp2_with fail
      refine (implValid x0 x1 A2 m c2 w1.heap.size (cutW xs (a + 3) m) _ (HO1.out.ints.alloc (Nat.le_refl _) _) (by simp) hmm).mono ?_
      rw [HV.out]
      rintro e w2 ⟨rfl, hb2⟩
      have hr2 := (HR1.out.alloc (.cells #[.int .i64 x0, .int .i64 x1, .slice A2 m c2] 33)).below hb2 (by simp; omega)
      have hc2 := (HC1.out.alloc (.cells #[.int .i64 x0, .int .i64 x1, .slice A2 m c2] 33)).below hb2 (by simp; omega)
      have hd0 := hc2.cell 0
      have hd1 := hc2.cell 1
      simp at hd0 hd1
      obtain ⟨r0, r1, r2⟩ := blk_cells3 hr2
      have f0 := hr2.frozen 0
      have f1 := hr2.frozen 1
      have f2 := hr2.frozen 2
      obtain ⟨q0, q1, q2⟩ := blk_cells3 (frame_new w.heap.size _ _ _ hr2 (.int .i64 0) (.int .i64 0) (.slice none 0 0))
      have HB2 := hide ((HB1.out.alloc (by omega) (.cells #[.int .i64 x0, .int .i64 x1, .slice A2 m c2] 33)).trans (hb2.mono (by simp; omega)))
      have HI2 := hide (HI.out.below HB2.out (Nat.le_refl _))
      clear hr2 hb2 hc2
      have hl' : a + 3 + m - a = 3 + m := by omega
      go_wp2_with fail
      refine (HS3.out _ _ (HC.out _ HI2.out)).mono ?_
      rintro e w' ⟨rfl, rfl⟩
      go_wp2
      refine bodyPost_ret (v := noFrame) (by simp [noFrame, results, Try.results12, go_sem, q0, q1, q2]) rfl ⟨rfl, ?_⟩
      exact HB2.out.trans (below_of_grown' (set3_grown _ w.heap.size _ _ _) (by have := HB2.out.size; omega) (by intro q hq; injection hq with hq; omega))
  · have HE := hide hen
    clear hen
    go_enter Try.func12, Try.ntmps12
    go_wp2_with fail
    refine (tf_no (w.heap.size + 1) A n c p xs _ HS.out.1 HS.out.2.2.1 hn hc hn2 hp HE.out).mono ?_
    rintro e w1 ⟨rfl, hg1⟩
    have hs1 := hg1.size
    simp at hs1
    have HB1 := hide (HS.out.2.2.2.trans (below_of_grown' hg1 (B := w.heap.size) (by simp; omega) (by intro q hq; injection hq with hq; omega)))
    have hr1 := (blk_grown HS.out.2.1 hg1 (by omega)).alloc (.cells #[.int .i64 0, .int .i64 0, .slice none 0 0] 33)
    obtain ⟨r0, r1, r2⟩ := blk_cells3 hr1
    have f0 := hr1.frozen 0
    have f1 := hr1.frozen 1
    have f2 := hr1.frozen 2
    obtain ⟨q0, q1, q2⟩ := blk_cells3 (frame_new w.heap.size _ _ _ hr1 (.int .i64 0) (.int .i64 0) (.slice none 0 0))
    have hB2 := HB1.out.alloc (by omega) (.cells #[.int .i64 0, .int .i64 0, .slice none 0 0] 33)
    have HB2 := hide hB2
    clear hr1 hg1 hB2
    go_wp2
    refine bodyPost_ret (v := noFrame) (by simp [noFrame, results, Try.results12, go_sem, q0, q1, q2]) rfl ⟨rfl, ?_⟩
    exact HB2.out.trans (below_of_grown' (set3_grown _ w.heap.size _ _ _) (by simp; omega) (by intro q hq; injection hq with hq; omega))

set_option maxHeartbeats 1600000 in
theorem implGet_yes0 (A : Option Addr) (n c a m : Nat) (p : Int) (xs : List Int) (w : World) (hp : p = a) (hi : Ints w w.heap.size A n xs) (hn : n ≤ c) (hc : c ≤ 9223372036854775807) (hn2 : n ≤ 17592186044416)
    (hm : xs.getD (a + 2) 0 = (m : Int)) (hl : a + 4 + m ≤ n) (x0 x1 x3 : Int) (hx0 : xs.getD a 0 = x0) (hx1 : xs.getD (a + 1) 0 = x1) (hx3 : xs.getD (a + 3 + m) 0 = x3)
    (hv : validF x0 x1 (cutW xs (a + 3) m) = true) (hs : x3 = sumFrom 7 (cutW xs a (3 + m))) :
    Calls Try.prog 12 #[.slice A n c, .int .i64 p] w fun e w' => ∃ A2 c2, e = .returned (.tuple #[.agg #[.int .i64 x0, .int .i64 x1, .slice A2 m c2], .int .i64 ((a : Int) + 4 + m), .bool true]) ∧
      Own w' w.heap.size A2 m c2 (cutW xs (a + 3) m) ∧ Below w.heap.size w w' := by
  subst hp
  have HS := hide (get_start A n c (a : Int) xs w hi)
  have HI := hide hi
  have HM := hide hm
  have HV := hide hv
  have HX := hide (And.intro hx0 (And.intro hx1 hx3))
  have hC := hide fun (W : World) (h : Ints W w.heap.size A n xs) => h.cut' (a := a) (m := 3 + m) (by omega) hn
  obtain ⟨D, hD⟩ : ∃ D, (if c = a then A else Option.map (fun x => x.add a) A) = D := ⟨_, rfl⟩
  have HC : Hid (∀ (W : World), Ints W w.heap.size A n xs → Ints W w.heap.size D (3 + m) (cutW xs a (3 + m))) := by
    intro W h
    have := hC.out W h
    rwa [hD] at this
  have hm3 : 3 + m ≤ maxLen := by unfold maxLen; omega
  have hmm : m ≤ maxLen := by unfold maxLen; omega
  have HS3 : Hid (∀ (W : World) (d : Nat), Ints W w.heap.size D (3 + m) (cutW xs a (3 + m)) → Calls Try.prog 34 #[.slice D (3 + m) d] W fun e w' => e = .returned (.int .i64 x3) ∧ W = w') := fun W d h => by
    rw [hs]
    exact implSum D _ d _ _ W h hm3
  have hl' : a + 3 + m - a = 3 + m := by omega
  clear hi hm hx0 hx1 hx3 hv hs hC
  go_enter Try.func12, Try.ntmps12
  go_wp2_with fail
  refine (tf_yes (w.heap.size + 1) A n c a m _ xs _ rfl HS.out.1 HS.out.2.2.1 hn hc hn2 HM.out hl x0 x1 x3 HX.out.1 HX.out.2.1 HX.out.2.2).mono ?_
  rintro e w1 ⟨A2, c2, rfl, ho1, hb1, hg1⟩
  have hs1 := hg1.size
  simp at hs1
  have HB1 := hide (HS.out.2.2.2.trans (below_of_grown' hg1 (B := w.heap.size) (by simp; omega) (by intro q hq; injection hq with hq; omega)))
  have HR1 := hide (blk_grown HS.out.2.1 hg1 (by omega))
  have HC1 := hide hb1
  have HO1 := hide ho1
  have HF1 := hide (Blk.new w1 33 #[.int .i64 x0, .int .i64 x1, .slice A2 m c2])
  clear hb1 hg1 ho1
  go_wp2_with fail
  refine (implValid x0 x1 A2 m c2 w1.heap.size (cutW xs (a + 3) m) _ (HO1.out.ints.alloc (Nat.le_refl _) _) (by simp) hmm).mono ?_
  rw [HV.out]
  rintro e w2 ⟨rfl, hb2⟩
  have hr2 := (HR1.out.alloc (.cells #[.int .i64 x0, .int .i64 x1, .slice A2 m c2] 33)).below hb2 (by simp; omega)
  have hc2 := (HC1.out.alloc (.cells #[.int .i64 x0, .int .i64 x1, .slice A2 m c2] 33)).below hb2 (by simp; omega)
  have hf2 := HF1.out.below hb2 (by simp)
  have hd0 := hc2.cell 0
  have hd1 := hc2.cell 1
  simp at hd0 hd1
  obtain ⟨r0, r1, r2⟩ := blk_cells3 hr2
  obtain ⟨t0, t1, t2⟩ := blk_cells3 hf2
  have f0 := hr2.frozen 0
  have f1 := hr2.frozen 1
  have f2 := hr2.frozen 2
  obtain ⟨q0, q1, q2⟩ := blk_cells3 (frame_new w.heap.size _ _ _ hr2 (.int .i64 x0) (.int .i64 x1) (.slice A2 m c2))
  have HB2 := hide ((HB1.out.alloc (by omega) (.cells #[.int .i64 x0, .int .i64 x1, .slice A2 m c2] 33)).trans (hb2.mono (by simp; omega)))
  have HI2 := hide (HI.out.below HB2.out (Nat.le_refl _))
  have HO2 := hide ((HO1.out.alloc (.cells #[.int .i64 x0, .int .i64 x1, .slice A2 m c2] 33)).below hb2)
  have hs2 := hb2.size
  simp at hs2
  clear hr2 hb2 hc2 hf2
  go_wp2_with fail
  refine (HS3.out _ _ (HC.out _ HI2.out)).mono ?_
  rintro e w' ⟨rfl, rfl⟩
  go_wp2_with fail
  go_region
  all_goals
    go_wp2
    refine bodyPost_ret (v := .tuple #[.agg #[.int .i64 x0, .int .i64 x1, .slice A2 m c2], .int .i64 ((a : Int) + 4 + m), .bool true]) (by simp [results, Try.results12, go_sem, q0, q1, q2]) rfl ?_
    have hg := set3_grown w2 w.heap.size (.int .i64 x0) (.int .i64 x1) (.slice A2 m c2)
    refine ⟨A2, c2, rfl, ?_, ?_⟩
    · exact (HO2.out.kept hg (by intro q hq e; injection hq with hq; have := (HO1.out.block _ e).1; simp at this; omega)).mono (by simp; omega)
    · have hG := HB2.out.trans (below_of_grown' hg (by have := HB2.out.size; omega) (by intro q hq; injection hq with hq; omega))
      exact ⟨hG.os, hG.tape, hG.output, hG.size, hG.block⟩
/-- the same with a premise that nobody needs -/
theorem implGet_no (A : Option Addr) (n c : Nat) (p : Int) (xs : List Int) (w : World) (hi : Ints w w.heap.size A n xs) (hn : n ≤ c) (hc : c ≤ 9223372036854775807) (hn2 : n ≤ 17592186044416) (h0 : A = none → c = 0)
    (hp : p ≤ 9223372036854775807) (hno : ¬ goodF xs n p) :
    Calls Try.prog 12 #[.slice A n c, .int .i64 p] w fun e w' => e = .returned noFrame ∧ Below w.heap.size w w' := implGet_no0 A n c p xs w hi hn hc hn2 hp hno
theorem implGet_yes (A : Option Addr) (n c a m : Nat) (p : Int) (xs : List Int) (w : World) (hp : p = a) (hi : Ints w w.heap.size A n xs) (hn : n ≤ c) (hc : c ≤ 9223372036854775807) (hn2 : n ≤ 17592186044416) (h0 : A = none → c = 0)
    (hm : xs.getD (a + 2) 0 = (m : Int)) (hl : a + 4 + m ≤ n) (x0 x1 x3 : Int) (hx0 : xs.getD a 0 = x0) (hx1 : xs.getD (a + 1) 0 = x1) (hx3 : xs.getD (a + 3 + m) 0 = x3)
    (hv : validF x0 x1 (cutW xs (a + 3) m) = true) (hs : x3 = sumFrom 7 (cutW xs a (3 + m))) :
    Calls Try.prog 12 #[.slice A n c, .int .i64 p] w fun e w' => ∃ A2 c2, e = .returned (.tuple #[.agg #[.int .i64 x0, .int .i64 x1, .slice A2 m c2], .int .i64 ((a : Int) + 4 + m), .bool true]) ∧
      Own w' w.heap.size A2 m c2 (cutW xs (a + 3) m) ∧ Below w.heap.size w w' := implGet_yes0 A n c a m p xs w hp hi hn hc hn2 hm hl x0 x1 x3 hx0 hx1 hx3 hv hs
end Go.Proofs.Ytcocboigjfjnfac

/- ImpZ1 -/
namespace Go.Proofs.Ytcocboigjfjnfac
open Go.RowKit
set_option linter.unusedVariables false
set_option maxRecDepth 100000

set_option maxHeartbeats 800000 in
theorem implWords (A : Option Addr) (n c B : Nat) (xs : List Int) (w : World) (hr : Ints w B A n xs) (hn : n ≤ maxLen) :
    Calls Try.prog 73 #[.slice A n c] w fun e w' => e = .returned (.bool (allW xs)) ∧ w = w' := by
  have HS := hide (implSum A n c B xs w hr hn)
  have HG := hide (sum_ge xs)
  have hlt := sumFrom_lt xs
  clear hr
  generalize sumFrom 7 xs = s at HS HG hlt
  go_enter Try.func73, Try.ntmps73
  go_wp2_with fail
  refine HS.out.mono ?_
  rintro e w1 ⟨rfl, rfl⟩
  go_wp2
  go_ret
  exact ⟨ret_bool HG.out, rfl⟩

set_option maxHeartbeats 1600000 in
theorem implZoneV (B m : Nat) (sy : Int) (fu : Bool) (A : Option Addr) (c : Nat) (ws : List Int) (w : World) (hi : Ints w B A m ws) (hB : B ≤ w.heap.size) (hm : m ≤ maxLen) :
    Calls Try.prog 50 #[.agg #[.slice A m c, .int .i64 sy, .bool fu]] w fun e w' => e = .returned (.bool (zoneOk (ws, sy, fu))) ∧ Below w.heap.size w w' := by
  have HW := hide fun (o : Obj) => implWords A m c B ws (w.alloc o) (hi.alloc hB o) hm
  have hm' : m ≤ 9223372036854775807 := by unfold maxLen at hm; omega
  have HX : Hid (zoneOk (ws, sy, fu) = (allW ws && decide (m ≤ 64) && inB sy 0 m)) := by show _ = _; unfold zoneOk; simp only [hi.1]
  clear hi hm
  generalize allW ws = v at HW HX
  by_cases h1 : m ≤ 64
  · have h1' : decide (64 < (m : Int)) = false := decide_eq_false (by omega)
    by_cases h2 : sy < 0
    · have hr : zoneOk (ws, sy, fu) = false := by rw [HX.out]; simp [inB]; omega
      have HR := hide hr
      clear hr HX
      go_enter Try.func50, Try.ntmps50
      go_wp2
      go_ret
      exact ⟨ret_bool HR.out.symm, below_box _ _⟩
    · by_cases h3 : (m : Int) < sy
      · have hr : zoneOk (ws, sy, fu) = false := by rw [HX.out]; simp [inB]; omega
        have HR := hide hr
        clear hr HX
        go_enter Try.func50, Try.ntmps50
        go_wp2
        go_ret
        exact ⟨ret_bool HR.out.symm, below_box _ _⟩
      · have hr : zoneOk (ws, sy, fu) = v := by
          rw [HX.out, inB_true (by omega) (by omega)]; simp [h1]
        have HR := hide hr
        clear hr HX
        go_enter Try.func50, Try.ntmps50
        go_wp2_with fail
        refine (HW.out _).mono ?_
        rintro e w1 ⟨rfl, rfl⟩
        go_wp2
        go_ret
        exact ⟨ret_bool HR.out.symm, below_box _ _⟩
  · have h1' : decide (64 < (m : Int)) = true := decide_eq_true (by omega)
    have hr : zoneOk (ws, sy, fu) = false := by rw [HX.out]; simp [h1]
    have HR := hide hr
    clear hr HX
    go_enter Try.func50, Try.ntmps50
    go_wp2
    go_ret
    exact ⟨ret_bool HR.out.symm, below_box _ _⟩

set_option maxHeartbeats 3200000 in
theorem implDV (A : Option Addr) (n c B : Nat) (qs : List Zq) (w : World) (hr : Zns w B A n qs) (hB : B ≤ w.heap.size) (hn : n ≤ 1000000000000) :
    Calls Try.prog 23 #[.slice A n c] w fun e w' => e = .returned (.bool (devV (zns qs))) ∧ Below w.heap.size w w' := by
  have HR := hide hr
  have HBB := hide hB
  have hl : (zns qs).length = n := by unfold zns; rw [List.length_map]; exact hr.1
  have HL := hide hl
  clear hr hl
  by_cases h4 : n = 4
  · subst h4
    have HV : Hid (devV (zns qs) = (zns qs).all zoneOk) := by show _ = _; unfold devV; rw [HL.out]; simp
    go_enter Try.func23, Try.ntmps23
    go_wp2
    go_loopw [10] (fun i wr => ∃ (k : Nat), k ≤ 4 ∧ i = .int .i64 k ∧ Hid (Below w.heap.size w wr) ∧ Hid ((zns qs).all zoneOk = (zns (qs.drop k)).all zoneOk)) (fun i _ => 4 - (intOf i).toNat)
    case atStart => exact ⟨0, Nat.zero_le _, rfl, Below.refl _ _, rfl⟩
    case round =>
      obtain ⟨k, hk, rfl, HB, HA⟩ := hrel
      have hs := HB.out.size
      by_cases hlt : k < 4
      · obtain ⟨q, hq⟩ : ∃ q, qs[k]? = some q := ⟨_, List.getElem?_eq_getElem (by rw [HR.out.1]; exact hlt)⟩
        have HX := hide (HA.out.trans (zns_all_next hq))
        have hR := HR.out.below HB.out HBB.out
        obtain ⟨ad, p, rfl, hp, hb, hc0, hc1, hc2⟩ := hR.at_ hq
        obtain ⟨hi, hle, hcm⟩ := hR.words hq
        clear HA hq hR
        obtain ⟨ws, sy, fu, qa, qc⟩ := q
        simp only [Zq.sl] at hc0 hc1 hc2 hi hle hcm
        obtain ⟨m, hm⟩ : ∃ m, ws.length = m := ⟨_, rfl⟩
        rw [hm] at hc0 hi hle
        have HZ := hide fun (o : Obj) => implZoneV B m sy fu qa qc ws (wr.alloc o) (hi.alloc (by omega) o) (by simp; omega) (by omega)
        have k0 : (0 : Int) ≤ (k : Int) := by omega
        have k1 : (k : Int) < ((4 : Nat) : Int) := by omega
        clear hm hi hle hcm
        obtain ⟨v, hv⟩ : ∃ v, zoneOk (ws, sy, fu) = v := ⟨_, rfl⟩
        rw [hv] at HZ
        have hz : zoneOk (Zq.zn ⟨ws, sy, fu, qa, qc⟩) = v := hv
        rw [hz] at HX
        clear hz hv
        rcases v with _ | _
        · go_wp2_with fail
          refine (HZ.out _).mono ?_
          rintro e w1 ⟨rfl, hb1⟩
          have HB1 := hide ((HB.out.alloc hs _).trans (hb1.mono (by simp; omega)))
          clear hb1
          go_wp2
          go_ret
          exact ⟨ret_bool (by rw [HV.out, HX.out]; rfl), HB1.out⟩
        · go_wp2_with fail
          refine (HZ.out _).mono ?_
          rintro e w1 ⟨rfl, hb1⟩
          have HB1 := hide ((HB.out.alloc hs _).trans (hb1.mono (by simp; omega)))
          clear hb1
          go_wp2
          go_roundw
          case rel => exact ⟨k + 1, by omega, by go_num, HB1.out, by show _ = _; rw [HX.out]; simp⟩
          case measure => simp [intOf]; omega
      · obtain rfl : k = 4 := by omega
        go_wp2
        go_ret
        exact ⟨ret_bool (by rw [HV.out, HA.out, List.drop_of_length_le (by rw [HR.out.1]; exact Nat.le_refl _)]; rfl), HB.out⟩
  · have HV : Hid (devV (zns qs) = false) := by show _ = _; unfold devV; rw [HL.out]; simp [h4]
    have h4' : ((n : Int) == 4) = false := by simpa using (by omega : ¬ (n : Int) = 4)
    have h4'' : ((n : Int) != 4) = true := by simpa using (by omega : ¬ (n : Int) = 4)
    go_enter Try.func23, Try.ntmps23
    go_wp2
    go_ret
    exact ⟨ret_bool HV.out.symm, Below.refl _ _⟩
end Go.Proofs.Ytcocboigjfjnfac

/- DrawZ1 -/
namespace Go.Proofs.Ytcocboigjfjnfac
open Go.RowKit
set_option linter.unusedVariables false
set_option maxRecDepth 100000

set_option maxHeartbeats 1600000 in
theorem body91_any (R : Nat) (p : Int) (w : World) (hr : Rd w R p) (hp : p < 19000) :
    Calls Try.prog 44 #[.pointer (some ⟨R, 0, none⟩)] w fun e w' => ∃ (kd : Int) (A2 : Option Addr) (m c2 : Nat) (xs : List Int) (p' : Int), e = .returned (.tuple #[.int .i64 kd, .slice A2 m c2]) ∧ Own w' w.heap.size A2 m c2 xs ∧ m ≤ 100 ∧
      p ≤ p' ∧ p' ≤ p + 101 ∧ Rd w' R p' ∧ w.grownBy w' (some R) := by
  have hRw := hr.lt
  go_enter Try.func44, Try.ntmps44
  go_wp2_with fail
  refine (pick_any R p 3 _ hr (by omega) (by omega)).mono ?_
  rintro e w1 ⟨v, rfl, hv0, hv1, hr1, hg1⟩
  have hs1 := hg1.size
  have HG1 := hide hg1
  clear hg1 hr
  by_cases hv : v = 0
  · subst hv
    go_wp2_with fail
    refine (draw91C_any R (p + 1) _ hr1 (by omega)).mono ?_
    rintro e w2 ⟨A2, k, c2, xs, p', rfl, hown, hk, hrng, hp0, hp1, hr2, hg2⟩
    have hs2 := hg2.size
    have HI2 := hide hown.ints
    have hlen := hown.1
    have HG2 := hide (grown_trans' HG1.out hg2)
    have HR2 := hide hr2
    clear hown hg2 hr1 hr2
    go_wp2_with fail
    refine (specPutC A2 k c2 _ xs _ HI2.out (Nat.le_refl _) (by omega)).mono ?_
    rintro e w3 ⟨A3, m, c3, rfl, ho3, hb3⟩
    have hm : m ≤ 100 := by
      have h1 := ho3.1
      split at h1
      · omega
      · simp at h1; omega
    have HG3 := hide (grown_own HG2.out (grown_of_below hb3 none) (by simp))
    have HR3 := hide (HR2.out.below hb3)
    have HO3 := hide (ho3.mono (show w.heap.size ≤ w2.heap.size by omega))
    clear hb3 ho3
    go_wp2
    go_ret2
    exact ⟨_, _, _, _, _, p', rfl, HO3.out, hm, by omega, by omega, HR3.out, HG3.out⟩
  · have hv' : (v == 0) = false := by simpa using hv
    go_wp2_with fail
    refine (draw91P_any R (p + 1) _ hr1 (by omega)).mono ?_
    rintro e w2 ⟨A2, k, c2, xs, p', rfl, hown, hk, hrng, hp0, hp1, hr2, hg2⟩
    have hs2 := hg2.size
    have HI2 := hide hown.ints
    have hlen := hown.1
    have HG2 := hide (grown_trans' HG1.out hg2)
    have HR2 := hide hr2
    clear hown hg2 hr1 hr2
    go_wp2_with fail
    refine (specPutP A2 k c2 _ xs _ HI2.out (Nat.le_refl _) (by omega)).mono ?_
    rintro e w3 ⟨A3, m, c3, rfl, ho3, hb3⟩
    have hm : m ≤ 100 := by
      have h1 := ho3.1
      split at h1
      · omega
      · simp at h1; omega
    have HG3 := hide (grown_own HG2.out (grown_of_below hb3 none) (by simp))
    have HR3 := hide (HR2.out.below hb3)
    have HO3 := hide (ho3.mono (show w.heap.size ≤ w2.heap.size by omega))
    clear hb3 ho3
    go_wp2
    go_ret2
    exact ⟨_, _, _, _, _, p', rfl, HO3.out, hm, by omega, by omega, HR3.out, HG3.out⟩

theorem cell_facts' {w : World} {g : Nat} {t : TypeId} {a b c : Value} (h : Blk w g t #[a, b, c]) : w.cell? ⟨g, 0, none⟩ = some a ∧ w.cell? ⟨g, 1, none⟩ = some b ∧ w.cell? ⟨g, 2, none⟩ = some c :=
  ⟨by rw [h.cell]; rfl, by rw [h.cell]; rfl, by rw [h.cell]; rfl⟩

end Go.Proofs.Ytcocboigjfjnfac
