/-
  Which method of the merger an interface calls.
-/
import Derived.Test.YtfianpjoifcphaaGreatMrgI
import Derived.Handy
namespace Go.Proofs.YtfianpjoifcphaaGreat
open Go.RowKit
set_option linter.unusedVariables false
set_option maxRecDepth 100000

theorem run_load_cell {v : Value} {a : Addr} {W : World} (f : FuncId) (h : W.cell? a = some v) : (do let x ← load a; pure (f, x) : Sem (FuncId × Value)).run Tryz.prog W = .ok (f, v) W := by
  go_simp
theorem meth_len (b n c : Nat) (A : Option Addr) (W : World) (h : W.cell? ⟨b, 0, none⟩ = some (.slice A n c)) :
    (Go.method 438 204 (.pointer (some ⟨b, 0, none⟩)) "Len").run Tryz.prog W = .ok (303, .slice A n c) W := by
  have e : (Go.method 438 204 (.pointer (some ⟨b, 0, none⟩)) "Len").run Tryz.prog W = (do let x ← load ⟨b, 0, none⟩; pure (303, x) : Sem (FuncId × Value)).run Tryz.prog W := by kernel_rfl
  rw [e]
  exact run_load_cell _ h
theorem meth_less (b n c : Nat) (A : Option Addr) (W : World) (h : W.cell? ⟨b, 0, none⟩ = some (.slice A n c)) :
    (Go.method 438 204 (.pointer (some ⟨b, 0, none⟩)) "Less").run Tryz.prog W = .ok (304, .slice A n c) W := by
  have e : (Go.method 438 204 (.pointer (some ⟨b, 0, none⟩)) "Less").run Tryz.prog W = (do let x ← load ⟨b, 0, none⟩; pure (304, x) : Sem (FuncId × Value)).run Tryz.prog W := by kernel_rfl
  rw [e]
  exact run_load_cell _ h
theorem meth_swap (b n c : Nat) (A : Option Addr) (W : World) (h : W.cell? ⟨b, 0, none⟩ = some (.slice A n c)) :
    (Go.method 438 204 (.pointer (some ⟨b, 0, none⟩)) "Swap").run Tryz.prog W = .ok (305, .slice A n c) W := by
  have e : (Go.method 438 204 (.pointer (some ⟨b, 0, none⟩)) "Swap").run Tryz.prog W = (do let x ← load ⟨b, 0, none⟩; pure (305, x) : Sem (FuncId × Value)).run Tryz.prog W := by kernel_rfl
  rw [e]
  exact run_load_cell _ h
theorem meth_push (b : Nat) (W : World) : (Go.method 438 204 (.pointer (some ⟨b, 0, none⟩)) "Push").run Tryz.prog W = .ok (307, .pointer (some ⟨b, 0, none⟩)) W := by kernel_rfl
theorem meth_pop (b : Nat) (W : World) : (Go.method 438 204 (.pointer (some ⟨b, 0, none⟩)) "Pop").run Tryz.prog W = .ok (306, .pointer (some ⟨b, 0, none⟩)) W := by kernel_rfl
end Go.Proofs.YtfianpjoifcphaaGreat
