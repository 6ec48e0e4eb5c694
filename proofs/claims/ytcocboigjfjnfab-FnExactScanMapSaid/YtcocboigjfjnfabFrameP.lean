/-
  The words of a frame: impl.FramePut and the model's: both return a row of the call's own that holds putF.
-/
import Derived.Test.YtcocboigjfjnfabFrameV
import Derived.Test.YtcocboigjfjnfabMake
namespace Go.Proofs.Ytcocboigjfjnfab
open Go.RowKit
set_option linter.unusedVariables false
set_option maxRecDepth 100000

def headF (k s : Int) (body : List Int) : List Int := [k, s, (body.length : Int)] ++ body
def putF (k s : Int) (body : List Int) : List Int := if validF k s body = true then headF k s body ++ [sumFrom 7 (headF k s body)] else []

theorem allW_head {k s : Int} {body : List Int} (h : validF k s body = true) : allW (headF k s body) = true := by
  obtain ⟨h1, h2, h3, h4⟩ := validF_iff.1 h
  have e : headF k s body = k :: s :: (body.length : Int) :: body := rfl
  rw [e]
  unfold allW at h4 ⊢
  simp only [List.all_cons, h4, Bool.and_true, Bool.and_eq_true]
  simp [okW]
  omega

theorem Own.lit' {w : World} {base g : Nat} (hg : g = w.heap.size) (hb : base ≤ w.heap.size) (xs : List Int) (hm : xs.length ≤ maxLen) :
    Own (w.alloc (.cells (xs.map (Value.int .i64)).toArray 3)) base (some ⟨g, 0, none⟩) xs.length xs.length xs := by
  subst hg
  exact Own.lit w base hb xs hm

theorem Ints.three (w : World) (a b c : Int) : Ints (w.alloc (.cells #[.int .i64 a, .int .i64 b, .int .i64 c] 3)) (w.heap.size + 1) (some ⟨w.heap.size, 0, none⟩) 3 [a, b, c] := by
  have h := (Own.lit w w.heap.size (Nat.le_refl _) [a, b, c] (by unfold maxLen; simp)).ints
  exact h.more (by simp)

theorem below_app_any {B : Nat} {a w w' : World} {row : Option Nat} {o : Obj} (h : Below B a w) (hB : B ≤ w.heap.size) (hg : (w.alloc o).grownBy w' row) (hr : ∀ k, row = some k → B ≤ k) : Below B a w' :=
  (h.alloc hB o).grown hg (by simp; omega) hr
theorem below_app_bare {B : Nat} {a w w' : World} {row : Option Nat} (h : Below B a w) (hB : B ≤ w.heap.size) (hg : w.grownBy w' row) (hr : ∀ k, row = some k → B ≤ k) : Below B a w' :=
  h.grown hg hB hr

theorem set_grown {a w : World} {R : Nat} (h : a.grownBy w (some R)) (i : Nat) (u : Value) : a.grownBy (w.setCell ⟨R, i, none⟩ u) (some R) :=
  ⟨h.os, h.tape, h.output, by simpa [World.setCell] using h.size, fun k hk hne => (Below.heap_setCell w ⟨R, i, none⟩ u k (by rintro rfl; exact hne rfl)).trans (h.block k hk hne)⟩
theorem set3_grown (w : World) (R : Nat) (u0 u1 u2 : Value) : w.grownBy (((w.setCell ⟨R, 0, none⟩ u0).setCell ⟨R, 1, none⟩ u1).setCell ⟨R, 2, none⟩ u2) (some R) :=
  set_grown (set_grown (set_grown (grown_refl w _) 0 u0) 1 u1) 2 u2

theorem frame_new {w : World} (R : Nat) (u0 u1 u2 : Value) (h : Blk w R 32 #[u0, u1, u2]) (v0 v1 v2 : Value) :
    Blk (((w.setCell ⟨R, 0, none⟩ v0).setCell ⟨R, 1, none⟩ v1).setCell ⟨R, 2, none⟩ v2) R 32 #[v0, v1, v2] := by
  have := ((h.set_ 0 v0).set_ 1 v1).set_ 2 v2
  simpa using this

theorem blk_new' {w : World} {g : Nat} (hg : g = w.heap.size) (t : TypeId) (cs : Array Value) : Blk (w.alloc (.cells cs t)) g t cs := by subst hg; exact Blk.new w t cs
theorem blk_cells3 {w : World} {R : Nat} {t : TypeId} {u0 u1 u2 : Value} (h : Blk w R t #[u0, u1, u2]) :
    w.cell? ⟨R, 0, none⟩ = some u0 ∧ w.cell? ⟨R, 1, none⟩ = some u1 ∧ w.cell? ⟨R, 2, none⟩ = some u2 := by
  refine ⟨?_, ?_, ?_⟩ <;> rw [h.cell] <;> rfl

theorem grown_box {w w' : World} {C : Nat} {o : Obj} (h : (w.alloc o).grownBy w' (some C)) : w.grownBy w' (some C) := grown_trans' (grown_alloc (grown_refl w (some C)) o) h
theorem blk_grown {w w' : World} {C R : Nat} {t : TypeId} {cs : Array Value} (h : Blk w R t cs) (hg : w.grownBy w' (some C)) (hne : R ≠ C) : Blk w' R t cs := h.grown hg (by intro e; injection e with e; exact hne e)

set_option maxHeartbeats 1000000 in
theorem specPut0 (k s : Int) (A : Option Addr) (n c B : Nat) (xs : List Int) (w : World) (hr : Ints w B A n xs) (hB : B ≤ w.heap.size) (hv : validF k s xs = true) :
    Calls Try.prog 67 #[.agg #[.int .i64 k, .int .i64 s, .slice A n c]] w fun e w' => ∃ A2 m c2, e = .returned (.slice A2 m c2) ∧ Own w' w.heap.size A2 m c2 (putF k s xs) ∧ Below w.heap.size w w' := by
  have hlen := hr.1
  have hl18 : n ≤ 18 := by have := (validF_iff.1 hv).2.2.1; omega
  have hl0 : 1 ≤ n := by have := (validF_iff.1 hv).2.2.1; omega
  have HP := hide (show putF k s xs = [k, s, (n : Int)] ++ xs ++ [sumFrom 7 ([k, s, (n : Int)] ++ xs)] by rw [putF, if_pos hv, headF, hlen])
  have HA := hide (show allW ([k, s, (n : Int)] ++ xs) = true by have h := allW_head hv; rw [headF, hlen] at h; exact h)
  have HI1 := hide fun o : Obj => (hr.alloc hB o)
  clear hr hv hlen
  go_enter Try.func67, Try.ntmps67
  go_wp2_with (first
      | (at_builtin; refine wpList_append_ints rfl (.tmp 11) (.tmp 13) rfl w.heap.size 3 _ B n _ _ _ [k, s, (n : Int)] xs rfl (Own.lit' (w := w.alloc (.cells #[.int .i64 k, .int .i64 s, .slice A n c] 32)) (base := w.heap.size) (g := w.heap.size + 1) (by simp) (by simp) [k, s, (n : Int)] (by unfold maxLen; simp)) rfl ((HI1.out _).alloc (by simp; omega) _) (by omega) (by simp; omega) ?_; intro A4 c4 w4 ho4 hg4 hat4; clear hat4; have hB4 := below_app_bare (((below_box w (.cells #[.int .i64 k, .int .i64 s, .slice A n c] 32))).alloc (by simp) _) (by simp; omega) hg4 (by intro q hq; simp [Value.ownBlock] at hq; omega))
      | (go_at_call 89; refine (specSum0 A4 (3 + n) c4 _ _ _ ho4.ints (by unfold maxLen; omega) HA.out).mono ?_; rintro e w' ⟨rfl, rfl⟩)
      | (at_builtin; refine wpList_append_ints rfl (.tmp 15) (.tmp 18) rfl w.heap.size (3 + n) _ _ 1 _ _ _ ([k, s, (n : Int)] ++ xs) [sumFrom 7 ([k, s, (n : Int)] ++ xs)] rfl (ho4.alloc _) rfl (Ints.one _ _) (by omega) (by have := hB4.size; simp; omega) ?_; intro A5 c5 w5 ho5 hg5 hat5; clear hat5; have hB5 := below_app_any hB4 hB4.size hg5 (fun q hq => (ho4.block q hq).1)))
  go_ret
  refine ⟨_, _, _, rfl, ?_, hB5⟩
  rw [HP.out]
  exact ho5

set_option maxHeartbeats 1000000 in
theorem specPut (k s : Int) (A : Option Addr) (n c B : Nat) (xs : List Int) (w : World) (hr : Ints w B A n xs) (hB : B ≤ w.heap.size) (hn : n ≤ maxLen) :
    Calls Try.prog 44 #[.agg #[.int .i64 k, .int .i64 s, .slice A n c]] w fun e w' => ∃ A2 m c2, e = .returned (.slice A2 m c2) ∧ Own w' w.heap.size A2 m c2 (putF k s xs) ∧ Below w.heap.size w w' := by
  have HN := hide hn
  have HI := hide fun o : Obj => (hr.alloc hB o)
  rcases hv : validF k s xs with _ | _
  · have HV := hide hv
    clear hr hv
    go_enter Try.func44, Try.ntmps44
    go_wp2_with fail
    refine (specValid k s A n c B xs _ (HI.out _) (by simp; omega) HN.out).mono ?_
    rw [HV.out]
    rintro e w1 ⟨rfl, hb1⟩
    have HB1 := hide ((below_box w _).trans (hb1.mono (by simp)))
    go_wp2
    go_ret
    refine ⟨_, _, _, rfl, ?_, HB1.out.alloc HB1.out.size _⟩
    rw [putF, if_neg (by rw [HV.out]; simp)]
    exact Own.lit0 _ _ HB1.out.size
  · have HV := hide hv
    clear hr hv
    go_enter Try.func44, Try.ntmps44
    go_wp2_with fail
    refine (specValid k s A n c B xs _ (HI.out _) (by simp; omega) HN.out).mono ?_
    rw [HV.out]
    rintro e w1 ⟨rfl, hb1⟩
    have hbk : Blk w1 w.heap.size 32 #[.int .i64 k, .int .i64 s, .slice A n c] := (Blk.new w 32 _).below hb1 (by simp)
    have HB1 := hide ((below_box w _).trans (hb1.mono (by simp)))
    have HI1 := hide ((HI.out _).below hb1 (by simp; omega))
    have c0 := hbk.cell 0
    have c1 := hbk.cell 1
    have c2 := hbk.cell 2
    simp at c0 c1 c2
    clear hb1
    have hsz := HB1.out.size
    go_wp2_with fail
    refine (specPut0 k s A n c B xs _ HI1.out (by omega) HV.out).mono ?_
    rintro e w2 ⟨A2, m, c2, rfl, ho2, hb2⟩
    go_wp2
    go_ret
    exact ⟨_, _, _, rfl, ho2.mono hsz, HB1.out.trans (hb2.mono hsz)⟩
end Go.Proofs.Ytcocboigjfjnfab
