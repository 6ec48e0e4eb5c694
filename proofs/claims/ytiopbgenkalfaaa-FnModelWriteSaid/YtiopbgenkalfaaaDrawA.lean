/-
  Drawn words: l91Word, l91Words: what they return is a word from -1 to 10000, or a row of the call's own of such words; the reader's own block alone has turned.
-/
import Derived.Test.YtiopbgenkalfaaaRd
import Derived.Test.YtiopbgenkalfaaaRng
namespace Go.Proofs.Ytiopbgenkalfaaa
open Go.RowKit
set_option linter.unusedVariables false
set_option maxRecDepth 100000

theorem grown_cell {w w' : World} {R : Nat} {p : Addr} (h : w.grownBy w' (some R)) (hp : p.block < w.heap.size) (hne : p.block ≠ R) : w'.cell? p = w.cell? p :=
  World.cell?_of_block (h.block p.block hp (by intro e; exact hne (by injection e)))

def four (v : Int) : Int := ([-1, 0, 9999, 10000] : List Int).getD v.toNat 0
theorem four_rng (v : Int) : -1 ≤ four v ∧ four v ≤ 10000 := by
  unfold four
  rcases h : v.toNat with _ | _ | _ | _ | n <;> simp


theorem Rd.lt {w : World} {R : Nat} {p : Int} (h : Rd w R p) : R < w.heap.size := by obtain ⟨_, _, A, m, c, bs, _, _, hb, _⟩ := h; exact hb.lt
theorem Rd.grown {w w' : World} {R : Nat} {p : Int} {row : Option Nat} (h : Rd w R p) (hg : w.grownBy w' row) (hr : ∀ g, row = some g → R < g) : Rd w' R p := by
  have hl := h.lt
  obtain ⟨a, b, A, m, c, bs, d, e, hb, hbs⟩ := h
  exact ⟨a, b, A, m, c, bs, d, e, hb.grown hg (fun e => by have := hr R e.symm; omega), hbs.keep fun q hq => World.cell?_of_block (hg.block q.block (by omega) (fun e => by have := hr _ e.symm; omega))⟩
theorem Rd.alloc {w : World} {R : Nat} {p : Int} (h : Rd w R p) (o : Obj) : Rd (w.alloc o) R p := h.grown (World.grownBy_alloc w o none) (by simp)
theorem Rd.drewN {w : World} {R : Nat} {p : Int} (h : Rd w R p) (n : Nat) : Rd (w.drewN n) R p := h
theorem Rd.below {w w' : World} {R : Nat} {p : Int} (h : Rd w R p) (hg : Below w.heap.size w w') : Rd w' R p := h.grown (grown_of_below hg none) (by simp)

theorem Blk.ne_ {w : World} {g g' : Nat} {t t' : TypeId} {cs cs' : Array Value} (h : Blk w g t cs) (h' : Blk w g' t' cs') (hne : t ≠ t') : g ≠ g' := by
  rintro rfl
  unfold Blk at h h'
  rw [h] at h'
  injection h' with h'
  injection h' with _ ht
  exact hne ht
theorem own_blk_ne {w : World} {g base n c : Nat} {t : TypeId} {cs : Array Value} {A : Option Addr} {xs : List Int} (h : Own w base A n c xs) (hg : Blk w g t cs) (hne : 3 ≠ t) : (Value.slice A n c).ownBlock ≠ some g := by
  rcases h.2.2 with ⟨hv, _⟩ | ⟨g', cap, cur, hv, _, hh, _⟩
  · rw [hv]; simp [Value.ownBlock]
  · rw [hv]
    intro he
    have : g' = g := by simpa [Value.ownBlock] using he
    subst this
    exact Blk.ne_ (t := 3) hh hg hne rfl
theorem Own.firsts {w : World} {base n c m : Nat} {A : Option Addr} {xs : List Int} (h : Own w base A n c xs) (hm : m ≤ n) : Own w base A m c (xs.take m) := by
  refine ⟨by rw [List.length_take, h.1]; omega, by simp [h.1]; omega, ?_⟩
  rcases h.2.2 with ⟨hv, h0⟩ | ⟨g, cap, cur, hv, hb, hh, hc, hmx, hs, ht⟩
  · injection hv with e1 e2 e3
    subst e1 e2 e3
    exact .inl ⟨by rw [show m = 0 by omega], by omega⟩
  · injection hv with e1 e2 e3
    subst e1 e3
    refine .inr ⟨g, c, cur, rfl, hb, hh, by omega, hmx, hs, ?_⟩
    have : (cur.toList.take (n * 1)).take (m * 1) = (xs.map (Value.int .i64)).take (m * 1) := by rw [ht]
    rw [List.take_take] at this
    rw [show min (m * 1) (n * 1) = m * 1 by omega] at this
    rw [this, Nat.mul_one, List.map_take]

end Go.Proofs.Ytiopbgenkalfaaa
