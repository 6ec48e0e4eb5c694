/-
  The program's (*mark).cut, (*mark).sync, (*grid).add: they change one grid.
-/
import Derived.Test.YtfianpjoifcphaaImpZ3
namespace Go.Proofs.Ytfianpjoifcphaa
open Go.RowKit
set_option linter.unusedVariables false
set_option maxRecDepth 100000

/-- a call that changed one grid, and returns nothing -/
def MarkPost (w : World) (g : Nat) (W : List Int) (M : List Mk) (e : Ending) (w' : World) : Prop := e = .returned (.tuple #[]) ∧ GB w' g W M ∧ w.grownBy w' (some g)

theorem GB.cutS {w : World} {g k : Nat} {W : List Int} {M : List Mk} {m : Mk} (h : GB w g W M) (hm : M[k]? = some m) (a b : Int) (h0 : 0 ≤ a) (h1 : a ≤ 64) :
    GB ((w.setCell ⟨g, 256 + k * 3, none⟩ (.int .i64 a)).setCell ⟨g, 256 + k * 3 + 1, none⟩ (.int .i64 b)) g W (M.set k (a, b, m.2.2)) ∧ w.grownBy ((w.setCell ⟨g, 256 + k * 3, none⟩ (.int .i64 a)).setCell ⟨g, 256 + k * 3 + 1, none⟩ (.int .i64 b)) (some g) := by
  have hl : k < M.length := (List.getElem?_eq_some_iff.1 hm).1
  have p1 := h.set0 hm a h0 h1
  have p2 := p1.set1 (k := k) (m := (a, m.2.1, m.2.2)) (by rw [List.getElem?_set_self hl]) b
  rw [List.set_set] at p2
  exact ⟨p2, grown_trans' (grown1 _ _ _ _) (grown1 _ _ _ _)⟩


theorem GB.syncS {w : World} {g k : Nat} {W : List Int} {M : List Mk} {m : Mk} (h : GB w g W M) (hm : M[k]? = some m) (b : Int) :
    GB (w.setCell ⟨g, 256 + k * 3 + 1, none⟩ (.int .i64 b)) g W (M.set k (m.1, b, m.2.2)) ∧ w.grownBy (w.setCell ⟨g, 256 + k * 3 + 1, none⟩ (.int .i64 b)) (some g) := ⟨h.set1 hm b, grown1 _ _ _ _⟩


end Go.Proofs.Ytfianpjoifcphaa
