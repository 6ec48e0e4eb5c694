/-
  Drawn heat and blocks: l13New, l91Heat, l91Blocks, DrawHeatUse, DrawHeatDecay, DrawHeatColdest.
-/
import Derived.Test.YtldbcenipahkfaaDrawA
namespace Go.Proofs.Ytldbcenipahkfaa
open Go.RowKit
set_option linter.unusedVariables false
set_option maxRecDepth 100000

/-- what a drawing knows at each step -/
structure KH (w0 w : World) (R : Nat) (p : Int) (A : Option Addr) (n c : Nat) (xs : List Int) : Prop where
  rd : Rd w R p
  rlt : R < w0.heap.size
  own : Own w w0.heap.size A n c xs
  grown : w0.grownBy w (some R)
section
variable {w0 w w' w8 : World} {R n c c8 g : Nat} {p p' x : Int} {A A8 : Option Addr} {xs : List Int}
theorem KH.pick (h : KH w0 w R p A n c xs) (hr : Rd w' R p') (hg : w.grownBy w' (some R)) : KH w0 w' R p' A n c xs :=
  { rd := hr, rlt := h.rlt, own := h.own.kept hg (by intro q hq; injection hq with hq; subst hq; intro e; have := (h.own.block _ e).1; have := h.rlt; omega), grown := grown_trans' h.grown hg }
theorem KH.put (h : KH w0 w R p (some ⟨g, 0, none⟩) n c xs) (j : Nat) (x : Int) : KH w0 (w.setCell ⟨g, j, none⟩ (.int .i64 x)) R p (some ⟨g, 0, none⟩) n c (xs.set j x) := by
  have hst := h.own.stored (g := g) (j := j) x
  have hg0 := (h.own.block g rfl).1
  exact { rd := h.rd.grown hst.2 (fun b hb => by injection hb with hb; have := h.rlt; omega), rlt := h.rlt, own := hst.1, grown := grown_own h.grown hst.2 (fun b hb => by injection hb with hb; omega) }
theorem KH.alloc (h : KH w0 w R p A n c xs) (o : Obj) : KH w0 (w.alloc o) R p A n c xs :=
  { rd := h.rd.alloc o, rlt := h.rlt, own := h.own.alloc o, grown := grown_alloc h.grown o }
theorem KH.app {o : Obj} (h : KH w0 w R p A n c xs) (ho : Own w8 w0.heap.size A8 (n + 1) c8 (xs ++ [x])) (hg : (w.alloc o).grownBy w8 (Value.slice A n c).ownBlock) : KH w0 w8 R p A8 (n + 1) c8 (xs ++ [x]) := by
  have hb := h.own.block
  exact { rd := (h.rd.alloc o).grown hg (fun b hb' => by have := (hb b hb').1; have := h.rlt; omega), rlt := h.rlt, own := ho, grown := grown_own (grown_alloc h.grown o) hg (fun b hb' => (hb b hb').1) }
theorem KH.firsts (h : KH w0 w R p A n c xs) {m : Nat} (hm : m ≤ n) : KH w0 w R p A m c (xs.take m) :=
  { rd := h.rd, rlt := h.rlt, own := h.own.firsts hm, grown := h.grown }
theorem KH.lit0 (h : KH w0 w R p A n c xs) : KH w0 (w.alloc (.cells #[] 3)) R p (some ⟨w.heap.size, 0, none⟩) 0 0 [] :=
  { rd := h.rd.alloc _, rlt := h.rlt, own := Own.lit0 w _ h.grown.size, grown := grown_alloc h.grown _ }
end

def sev7 (v : Int) : Int := ([0, 5, 10, 20, 95, 100, 33] : List Int).getD v.toNat 0
def odd2 (v : Int) : Int := ([-1, 101] : List Int).getD v.toNat 0
/-- what is handed back -/
def DrawnH (w0 : World) (R : Nat) (p : Int) (e : Ending) (w' : World) : Prop :=
  ∃ (A : Option Addr) (n c : Nat) (xs : List Int) (p' : Int), e = .returned (.slice A n c) ∧ n ≤ 13 ∧ p ≤ p' ∧ p' ≤ p + 20 ∧ KH w0 w' R p' A n c xs




/-- a drawn list, as the laws know it -/
structure DL (w0 w : World) (A : Option Addr) (n c : Nat) (xs : List Int) : Prop where
  ints : Ints w w.heap.size A n xs
  num : n ≤ 13
  nc : n ≤ c ∧ c ≤ maxLen
  below : Below w0.heap.size w0 w
theorem KH.dl {w0 w1 w : World} {R n c : Nat} {p : Int} {A : Option Addr} {xs : List Int} (h : KH w1 w R p A n c xs) (hn : n ≤ 13) (hb : Below w0.heap.size w0 w1) (hR : w0.heap.size ≤ R) : DL w0 w A n c xs :=
  { ints := h.own.ints, num := hn, nc := h.own.cap, below := hb.grown h.grown hb.size (fun g e => by injection e with e; omega) }



end Go.Proofs.Ytldbcenipahkfaa
