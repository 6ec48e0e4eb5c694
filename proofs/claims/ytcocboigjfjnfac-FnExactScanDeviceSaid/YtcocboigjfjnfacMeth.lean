/-
  Which method of the merger an interface calls.
-/
import Derived.Test.YtcocboigjfjnfacMrgI
import Derived.Handy
namespace Go.Proofs.Ytcocboigjfjnfac
open Go.RowKit
set_option linter.unusedVariables false
set_option maxRecDepth 100000

theorem run_load_cell {v : Value} {a : Addr} {W : World} (f : FuncId) (h : W.cell? a = some v) : (do let x ← load a; pure (f, x) : Sem (FuncId × Value)).run Try.prog W = .ok (f, v) W := by
  go_simp
theorem meth_len (b n c : Nat) (A : Option Addr) (W : World) (h : W.cell? ⟨b, 0, none⟩ = some (.slice A n c)) :
    (Go.method 261 91 (.pointer (some ⟨b, 0, none⟩)) "Len").run Try.prog W = .ok (116, .slice A n c) W := by
  have e : (Go.method 261 91 (.pointer (some ⟨b, 0, none⟩)) "Len").run Try.prog W = (do let x ← load ⟨b, 0, none⟩; pure (116, x) : Sem (FuncId × Value)).run Try.prog W := by kernel_rfl
  rw [e]
  exact run_load_cell _ h
theorem meth_less (b n c : Nat) (A : Option Addr) (W : World) (h : W.cell? ⟨b, 0, none⟩ = some (.slice A n c)) :
    (Go.method 261 91 (.pointer (some ⟨b, 0, none⟩)) "Less").run Try.prog W = .ok (117, .slice A n c) W := by
  have e : (Go.method 261 91 (.pointer (some ⟨b, 0, none⟩)) "Less").run Try.prog W = (do let x ← load ⟨b, 0, none⟩; pure (117, x) : Sem (FuncId × Value)).run Try.prog W := by kernel_rfl
  rw [e]
  exact run_load_cell _ h
theorem meth_swap (b n c : Nat) (A : Option Addr) (W : World) (h : W.cell? ⟨b, 0, none⟩ = some (.slice A n c)) :
    (Go.method 261 91 (.pointer (some ⟨b, 0, none⟩)) "Swap").run Try.prog W = .ok (118, .slice A n c) W := by
  have e : (Go.method 261 91 (.pointer (some ⟨b, 0, none⟩)) "Swap").run Try.prog W = (do let x ← load ⟨b, 0, none⟩; pure (118, x) : Sem (FuncId × Value)).run Try.prog W := by kernel_rfl
  rw [e]
  exact run_load_cell _ h
theorem meth_push (b : Nat) (W : World) : (Go.method 261 91 (.pointer (some ⟨b, 0, none⟩)) "Push").run Try.prog W = .ok (120, .pointer (some ⟨b, 0, none⟩)) W := by kernel_rfl
theorem meth_pop (b : Nat) (W : World) : (Go.method 261 91 (.pointer (some ⟨b, 0, none⟩)) "Pop").run Try.prog W = .ok (119, .pointer (some ⟨b, 0, none⟩)) W := by kernel_rfl
end Go.Proofs.Ytcocboigjfjnfac
