/-
  What the laws on ModelDo keep.
-/
import Derived.Test.YtiopbgenkalfaaaDrawR5
import Derived.Test.YtiopbgenkalfaaaSameR
import Derived.Test.YtiopbgenkalfaaaImpR5
namespace Go.Proofs.Ytiopbgenkalfaaa
open Go.RowKit
set_option linter.unusedVariables false
set_option maxRecDepth 100000

/-- what a law's walk keeps: the drawn model, event and values; two models that were answered; each in its block, below B -/
structure LD (w0 W : World) (B g3 g4 g7 g9 : Nat) (q : Mq) (kd : Int) (PA LA : Option Addr) (pn pc ln lc : Nat) (ps : List Int) (A3 : Option Addr) (n3 : Nat) (af : List Int) (q1 q2 : Mq) : Prop where
  m : MdI W B q
  p : Ints W B PA (pn * 2) ps
  a : Ints W B A3 n3 af
  m1 : MdI W B q1
  m2 : MdI W B q2
  k3 : Blk W g3 27 #[.slice q.A q.n q.c, .slice q.P q.m q.d]
  k4 : Blk W g4 35 #[.int .i64 kd, .slice PA pn pc, .slice LA ln lc]
  k7 : Blk W g7 27 #[.slice q1.A q1.n q1.c, .slice q1.P q1.m q1.d]
  k9 : Blk W g9 27 #[.slice q2.A q2.n q2.c, .slice q2.P q2.m q2.d]
  below : Below w0.heap.size w0 W
  hB : B ≤ W.heap.size
section
variable {w0 W W' : World} {B g3 g4 g7 g9 pn pc ln lc n3 : Nat} {kd : Int} {q q1 q2 : Mq} {PA LA A3 : Option Addr} {ps af : List Int}
theorem LD.step (h : LD w0 W B g3 g4 g7 g9 q kd PA LA pn pc ln lc ps A3 n3 af q1 q2) (hb : Below W.heap.size W W') : LD w0 W' B g3 g4 g7 g9 q kd PA LA pn pc ln lc ps A3 n3 af q1 q2 :=
  ⟨h.m.below hb h.hB, h.p.below hb h.hB, h.a.below hb h.hB, h.m1.below hb h.hB, h.m2.below hb h.hB, h.k3.below hb h.k3.lt, h.k4.below hb h.k4.lt, h.k7.below hb h.k7.lt, h.k9.below hb h.k9.lt, h.below.trans (hb.mono h.below.size), Nat.le_trans h.hB hb.size⟩
theorem LD.cells3 (h : LD w0 W B g3 g4 g7 g9 q kd PA LA pn pc ln lc ps A3 n3 af q1 q2) : W.cell? ⟨g3, 0, none⟩ = some (.slice q.A q.n q.c) ∧ W.cell? ⟨g3, 1, none⟩ = some (.slice q.P q.m q.d) := ⟨by rw [h.k3.cell]; rfl, by rw [h.k3.cell]; rfl⟩
theorem LD.cells4 (h : LD w0 W B g3 g4 g7 g9 q kd PA LA pn pc ln lc ps A3 n3 af q1 q2) : W.cell? ⟨g4, 0, none⟩ = some (.int .i64 kd) ∧ W.cell? ⟨g4, 1, none⟩ = some (.slice PA pn pc) ∧ W.cell? ⟨g4, 2, none⟩ = some (.slice LA ln lc) := ⟨by rw [h.k4.cell]; rfl, by rw [h.k4.cell]; rfl, by rw [h.k4.cell]; rfl⟩
theorem LD.cells7 (h : LD w0 W B g3 g4 g7 g9 q kd PA LA pn pc ln lc ps A3 n3 af q1 q2) : W.cell? ⟨g7, 0, none⟩ = some (.slice q1.A q1.n q1.c) ∧ W.cell? ⟨g7, 1, none⟩ = some (.slice q1.P q1.m q1.d) := ⟨by rw [h.k7.cell]; rfl, by rw [h.k7.cell]; rfl⟩
theorem LD.cells9 (h : LD w0 W B g3 g4 g7 g9 q kd PA LA pn pc ln lc ps A3 n3 af q1 q2) : W.cell? ⟨g9, 0, none⟩ = some (.slice q2.A q2.n q2.c) ∧ W.cell? ⟨g9, 1, none⟩ = some (.slice q2.P q2.m q2.d) := ⟨by rw [h.k9.cell]; rfl, by rw [h.k9.cell]; rfl⟩
end
end Go.Proofs.Ytiopbgenkalfaaa
