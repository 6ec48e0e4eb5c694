/-
  What the laws on MapApply begin with; plain words on what a frame tells.
-/
import Derived.Test.YtgkjbickphdeoaaDrawM3
import Derived.Test.YtgkjbickphdeoaaSameM
import Derived.Test.YtgkjbickphdeoaaImpM5
import Derived.Test.YtgkjbickphdeoaaFrameP
import Derived.BigQuiet
namespace Go.Proofs.Ytgkjbickphdeoaa
open Go.RowKit
set_option linter.unusedVariables false
set_option maxRecDepth 100000

/-- behind the draw, the frame in its variable -/
structure ApS (w w1 W2 : World) (A1 : Option Addr) (m c1 : Nat) (ms : List Wh) (kd sq : Int) (F : Option Addr) (fn fc : Nat) (xs : List Int) : Prop where
  box : ∀ W : World, Below W2.heap.size W2 W → W.cell? ⟨w1.heap.size, 0, none⟩ = some (.int .i64 kd) ∧ W.cell? ⟨w1.heap.size, 1, none⟩ = some (.int .i64 sq) ∧ W.cell? ⟨w1.heap.size, 2, none⟩ = some (.slice F fn fc)
  mpi : ∀ W : World, Below W2.heap.size W2 W → MpI W w1.heap.size A1 m ms
  bod : ∀ W : World, Below W2.heap.size W2 W → Ints W w1.heap.size F fn xs
  siz : ∀ W : World, Below W2.heap.size W2 W → w1.heap.size ≤ W.heap.size
  fin : ∀ W : World, Below W2.heap.size W2 W → Below w.heap.size w W
theorem apStart {w w1 W2 : World} {A1 F : Option Addr} {m c1 fn fc : Nat} {ms : List Wh} {kd sq z a : Int} {xs : List Int} (hd : DA w w1 A1 m c1 ms kd sq F fn fc xs z a)
    (hW : w1.alloc (.cells #[.int .i64 kd, .int .i64 sq, .slice F fn fc] 26) = W2) : ApS w w1 W2 A1 m c1 ms kd sq F fn fc xs := by
  have hs : W2.heap.size = w1.heap.size + 1 := by rw [← hW]; simp
  have h12 : Below w1.heap.size w1 W2 := by rw [← hW]; exact below_new w1 _
  have hb : Blk W2 w1.heap.size 26 #[.int .i64 kd, .int .i64 sq, .slice F fn fc] := by rw [← hW]; exact Blk.new w1 _ _
  have h1 : ∀ W : World, Below W2.heap.size W2 W → Below w1.heap.size w1 W := fun W h => h12.trans (h.mono h12.size)
  exact {
    box := fun W h => by
      have hb2 := hb.below h (by omega)
      exact ⟨by rw [hb2.cell]; rfl, by rw [hb2.cell]; rfl, by rw [hb2.cell]; rfl⟩
    mpi := fun W h => hd.dm.mpi.below (h1 W h) (Nat.le_refl _)
    bod := fun W h => hd.bod.below (h1 W h) (Nat.le_refl _)
    siz := fun W h => (h1 W h).size
    fin := fun W h => hd.dm.below.trans ((h1 W h).mono hd.dm.below.size) }
theorem apM_le (ms : List Wh) (kd sq : Int) (xs : List Int) (z a : Int) : (apM ms kd sq xs z a).length ≤ 12 := by
  rcases h : apOk ms kd sq xs z a with _ | _
  · rw [ap_no h]; exact Nat.zero_le _
  · exact Nat.le_of_eq (apM_len h)
theorem apI_hot {ms : List Wh} {sq z a : Int} {xs : List Int} (h : apOk ms 1 sq xs z a = true) : RecsI 2 9 fldP xs (xs.length / 2) := by
  have hb := (apOk_iff.1 h).bo
  unfold bodyOk at hb
  rw [if_pos rfl] at hb
  exact recs_of hb
theorem apI_cold {ms : List Wh} {kd sq z a : Int} {xs : List Int} (hk : kd ≠ 1) (h : apOk ms kd sq xs z a = true) : RecsI 3 6 fldC xs (xs.length / 3) := by
  have hb := (apOk_iff.1 h).bo
  unfold bodyOk at hb
  rw [if_neg hk] at hb
  exact recs_of hb
theorem okP_of {ms : List Wh} {sq z a : Int} {xs : List Int} {fn : Nat} (h : apOk ms 1 sq xs z a = true) (hl : xs.length = fn) : okG 2 9 fldP xs fn = true := by
  have hb := (apOk_iff.1 h).bo
  unfold bodyOk at hb
  rw [if_pos rfl, hl] at hb
  exact hb
theorem okC_of {ms : List Wh} {kd sq z a : Int} {xs : List Int} {fn : Nat} (hk : kd ≠ 1) (h : apOk ms kd sq xs z a = true) (hl : xs.length = fn) : okG 3 6 fldC xs fn = true := by
  have hb := (apOk_iff.1 h).bo
  unfold bodyOk at hb
  rw [if_neg hk, hl] at hb
  exact hb
theorem hot_at {ms : List Wh} {sq z a : Int} {xs : List Int} (h : apOk ms 1 sq xs z a = true) {j : Nat} (hj : j < xs.length / 2) : (apM ms 1 sq xs z a)[blkAt 2 xs j]? = some (hotE z a xs j) := by
  have := apM_at h (j := j) (by unfold recN; rw [if_pos rfl]; exact hj)
  unfold apF apG at this
  rwa [if_pos rfl, if_pos rfl] at this
theorem cold_at {ms : List Wh} {kd sq z a : Int} {xs : List Int} (hk : kd ≠ 1) (h : apOk ms kd sq xs z a = true) {j : Nat} (hj : j < xs.length / 3) : (apM ms kd sq xs z a)[blkAt 3 xs j]? = some (coldE z a xs j) := by
  have := apM_at h (j := j) (by unfold recN; rw [if_neg hk]; exact hj)
  unfold apF apG at this
  rwa [if_neg hk, if_neg hk] at this
/-- a variable of five cells is set to zeros -/
theorem box_zero {w : World} {g : Nat} {t : TypeId} {x0 x1 x2 x3 x4 : Value} (h : Blk w g t #[x0, x1, x2, x3, x4]) :
    Blk (((((w.setCell ⟨g, 0, none⟩ (.int .i64 0)).setCell ⟨g, 1, none⟩ (.int .i64 0)).setCell ⟨g, 2, none⟩ (.int .i64 0)).setCell ⟨g, 3, none⟩ (.int .i64 0)).setCell ⟨g, 4, none⟩ (.int .i64 0)) g t #[.int .i64 0, .int .i64 0, .int .i64 0, .int .i64 0, .int .i64 0] ∧
    w.grownBy (((((w.setCell ⟨g, 0, none⟩ (.int .i64 0)).setCell ⟨g, 1, none⟩ (.int .i64 0)).setCell ⟨g, 2, none⟩ (.int .i64 0)).setCell ⟨g, 3, none⟩ (.int .i64 0)).setCell ⟨g, 4, none⟩ (.int .i64 0)) (some g) ∧
    w.cell? ⟨g, 0, none⟩ = some x0 ∧ w.frozen? ⟨g, 0, none⟩ = false ∧
    (w.setCell ⟨g, 0, none⟩ (.int .i64 0)).cell? ⟨g, 1, none⟩ = some x1 ∧ (w.setCell ⟨g, 0, none⟩ (.int .i64 0)).frozen? ⟨g, 1, none⟩ = false ∧
    ((w.setCell ⟨g, 0, none⟩ (.int .i64 0)).setCell ⟨g, 1, none⟩ (.int .i64 0)).cell? ⟨g, 2, none⟩ = some x2 ∧ ((w.setCell ⟨g, 0, none⟩ (.int .i64 0)).setCell ⟨g, 1, none⟩ (.int .i64 0)).frozen? ⟨g, 2, none⟩ = false ∧
    (((w.setCell ⟨g, 0, none⟩ (.int .i64 0)).setCell ⟨g, 1, none⟩ (.int .i64 0)).setCell ⟨g, 2, none⟩ (.int .i64 0)).cell? ⟨g, 3, none⟩ = some x3 ∧ (((w.setCell ⟨g, 0, none⟩ (.int .i64 0)).setCell ⟨g, 1, none⟩ (.int .i64 0)).setCell ⟨g, 2, none⟩ (.int .i64 0)).frozen? ⟨g, 3, none⟩ = false ∧
    ((((w.setCell ⟨g, 0, none⟩ (.int .i64 0)).setCell ⟨g, 1, none⟩ (.int .i64 0)).setCell ⟨g, 2, none⟩ (.int .i64 0)).setCell ⟨g, 3, none⟩ (.int .i64 0)).cell? ⟨g, 4, none⟩ = some x4 ∧ ((((w.setCell ⟨g, 0, none⟩ (.int .i64 0)).setCell ⟨g, 1, none⟩ (.int .i64 0)).setCell ⟨g, 2, none⟩ (.int .i64 0)).setCell ⟨g, 3, none⟩ (.int .i64 0)).frozen? ⟨g, 4, none⟩ = false := by
  have h0 := h.set_ 0 (.int .i64 0)
  have h1 := h0.set_ 1 (.int .i64 0)
  have h2 := h1.set_ 2 (.int .i64 0)
  have h3 := h2.set_ 3 (.int .i64 0)
  have h4 := h3.set_ 4 (.int .i64 0)
  exact ⟨by simpa using h4, set_grown (set_grown (set_grown (set_grown (set_grown (grown_refl w _) 0 _) 1 _) 2 _) 3 _) 4 _, by rw [h.cell]; rfl, h.frozen 0, by rw [h0.cell]; rfl, h0.frozen 1, by rw [h1.cell]; rfl, h1.frozen 2, by rw [h2.cell]; rfl, h2.frozen 3, by rw [h3.cell]; rfl, h3.frozen 4⟩
theorem put_len {k s : Int} {xs : List Int} (h : validF k s xs = true) : (putF k s xs).length = 4 + xs.length := by
  unfold putF
  rw [if_pos h]
  unfold headF
  simp
  omega
theorem put_word {k s : Int} {xs : List Int} (h : validF k s xs = true) {j : Nat} (hj : j * 2 + 1 < xs.length) : (putF k s xs).getD (4 + 2 * j) 0 = xs.getD (j * 2 + 1) 0 := by
  unfold putF
  rw [if_pos h]
  unfold headF
  rw [List.getD, List.getD, List.append_assoc, List.getElem?_append_right (by simp; omega), List.getElem?_append_left (by simp; omega)]
  simp
  congr 2
  omega
end Go.Proofs.Ytgkjbickphdeoaa
