/-
  The program's trees: get.
-/
import Derived.Test.YtapfbkjgmfmepaaTree
namespace Go.Proofs.Ytapfbkjgmfmepaa
open Go.RowKit
set_option linter.unusedVariables false
set_option maxRecDepth 100000

def gotV (x : Int) : Int := if 0 ≤ x then x else 0
def gotB (x : Int) : Bool := decide (0 ≤ x)
theorem node_cells {w : World} {g : Nat} {l r : Tr} {e : Int × Int} (h : TrI w (.node g l e r)) :
    w.cell? ⟨g, 0, none⟩ = some (.int .i64 e.1) ∧ w.cell? ⟨g, 1, none⟩ = some (.int .i64 e.2) ∧ w.cell? ⟨g, 2, none⟩ = some (.pointer l.pt) ∧ w.cell? ⟨g, 3, none⟩ = some (.pointer r.pt) :=
  ⟨h.1.cell 0, h.1.cell 1, h.1.cell 2, h.1.cell 3⟩

set_option maxHeartbeats 1600000 in
theorem get_any (t : Tr) (b : Int) : ∀ (w : World) (l : Int), TrI w t → lyV l t.vals = true →
    Calls Try.prog 65 #[.pointer t.pt, .int .i64 b] w fun e w' => e = .returned (.tuple #[.int .i64 (gotV (findL t.vals b)), .bool (gotB (findL t.vals b))]) ∧ w' = w := by
  induction t with
  | nil =>
    intro w l h hv
    show Calls Try.prog 65 #[.pointer none, .int .i64 b] w _
    go_enter Try.func65, Try.ntmps65
    go_wp2
    go_ret2
    exact ⟨rfl, rfl⟩
  | node g lt e rt ihl ihr =>
    intro w l h hv
    show Calls Try.prog 65 #[.pointer (some ⟨g, 0, none⟩), .int .i64 b] w _
    obtain ⟨c0, c1, c2, c3⟩ := node_cells h
    rw [vals_mid] at hv ⊢
    obtain ⟨x, y⟩ := e
    obtain ⟨k1, k2, k3, k4, k5, k6⟩ := lyV_mid hv
    by_cases hlt : b < x
    · have HI := hide (ihl w l h.2.1 k1)
      rw [← findL_midL (e := (x, y)) hv hlt] at HI
      generalize findL (lt.vals ++ (x, y) :: rt.vals) b = z at HI ⊢
      clear ihl ihr h hv k1 k2 k3 k4 k5 k6
      go_enter Try.func65, Try.ntmps65
      go_wp2_with fail
      refine HI.out.mono ?_
      rintro e w' ⟨rfl, rfl⟩
      go_wp2
      go_ret2
      exact ⟨rfl, rfl⟩
    · by_cases hgt : x < b
      · have HI := hide (ihr w x h.2.2 k6)
        rw [← findL_midR (e := (x, y)) hv hgt] at HI
        generalize findL (lt.vals ++ (x, y) :: rt.vals) b = z at HI ⊢
        clear ihl ihr h hv k1 k2 k3 k4 k5 k6
        go_enter Try.func65, Try.ntmps65
        go_wp2_with fail
        refine HI.out.mono ?_
        rintro e w' ⟨rfl, rfl⟩
        go_wp2
        go_ret2
        exact ⟨rfl, rfl⟩
      · obtain rfl : x = b := by omega
        have hm := findL_mid (e := (x, y)) hv
        have hy := k5.1
        clear ihl ihr h hv k1 k2 k3 k4 k5 k6
        have e1 : gotV (findL (lt.vals ++ (x, y) :: rt.vals) x) = y := by rw [hm]; unfold gotV; rw [if_pos hy]
        have e2 : gotB (findL (lt.vals ++ (x, y) :: rt.vals) x) = true := by rw [hm]; unfold gotB; rw [decide_eq_true hy]
        rw [e1, e2]
        clear hm e1 e2 hy
        go_enter Try.func65, Try.ntmps65
        go_wp2
        go_ret2
        exact ⟨rfl, rfl⟩
end Go.Proofs.Ytapfbkjgmfmepaa
