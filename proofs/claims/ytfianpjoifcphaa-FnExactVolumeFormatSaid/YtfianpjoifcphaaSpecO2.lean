/-
  The model's l4Copy: a store in new memory.
-/
import Derived.Test.YtfianpjoifcphaaSpecO1
import Derived.Deep.RegionLaw
namespace Go.Proofs.Ytfianpjoifcphaa
open Go.RowKit
set_option linter.unusedVariables false
set_option maxRecDepth 100000

theorem size_allocO (w : World) (o : Obj) : (w.alloc o).heap.size = w.heap.size + 1 := by simp

/-- behind 'append(out, o)', the object in a new block -/
theorem below_app_o {B base n c : Nat} {a w w' : World} {A : Option Addr} {qs : List Oq} {o : Obj} (h : Below B a w) (hB : B ≤ w.heap.size) (hown : OwnO w base A n c qs) (hb : B ≤ base)
    (hg : (w.alloc o).grownBy w' (Value.slice A n c).ownBlock) : Below B a w' :=
  (h.alloc hB o).grown hg (by simp; omega) (fun k hk => by have := (hown.block k hk).1; omega)
theorem new_sepO {w : World} {base n c : Nat} {A : Option Addr} {qs : List Oq} (h : OwnO w base A n c qs) {q : Oq} (hq : ∀ g, q.sl.ownBlock = some g → w.heap.size ≤ g) :
    ∀ (k : Nat) (r : Oq), qs[k]? = some r → ∀ g, r.sl.ownBlock = some g → q.sl.ownBlock ≠ some g := by
  intro k r hk g hg e
  have h1 := (h.wblock hk g hg).2
  have h2 := hq g e
  omega

/-- what is known between the two appends of a copied object -/
structure MidO (w wr w3 : World) (A2 : Option Addr) (k c2 : Nat) (qs : List Oq) (q : Oq) : Prop where
  own : OwnO w3 w.heap.size A2 k c2 qs
  hq : Own w3 w.heap.size q.addr q.vals.length q.cap q.vals
  sep : ∀ (k : Nat) (r : Oq), qs[k]? = some r → ∀ g, r.sl.ownBlock = some g → q.sl.ownBlock ≠ some g
  below : Below w.heap.size w w3
  cell : ∀ (p : Addr) (v : Value), p.block < wr.heap.size → wr.cell? p = some v → w3.cell? p = some v

theorem midO {w wr w3 : World} {A2 A3 : Option Addr} {k c2 m c3 : Nat} {qs : List Oq} {ws : List Int} (id : Int) (hB : Below w.heap.size w wr) (hown : OwnO wr w.heap.size A2 k c2 qs) (hq : Own w3 w.heap.size A3 m c3 ws)
    (hg : (wr.alloc (.cells #[] 3)).grownBy w3 (Value.slice (some ⟨wr.heap.size, 0, none⟩) 0 0).ownBlock)
    (hat : (Value.slice A3 m c3).ownBlock = (Value.slice (some ⟨wr.heap.size, 0, none⟩) 0 0).ownBlock ∨ (Value.slice A3 m c3).ownBlock = some (wr.alloc (.cells #[] 3)).heap.size) :
    MidO w wr w3 A2 k c2 qs ⟨id, ws, A3, c3⟩ := by
  have hs := hB.size
  have hl := hq.1
  subst hl
  have hgb : (Value.slice (some (⟨wr.heap.size, 0, none⟩ : Addr)) 0 0).ownBlock = some wr.heap.size := rfl
  rw [hgb] at hg hat
  refine ⟨(hown.alloc _).kept hg (fun g h => ?_), hq, new_sepO hown (fun g h => ?_), below_app0 (n := 0) (c := 0) hB hs hg, fun p v hp h => ?_⟩
  · injection h with h
    subst h
    exact ⟨fun e => by have := (hown.block _ e).2; omega, fun j r hj e => by have := (hown.wblock hj _ e).2; omega⟩
  · have h' : (Value.slice A3 ws.length c3).ownBlock = some g := h
    rcases hat with h2 | h2
    · rw [h'] at h2; injection h2 with h2; omega
    · rw [h', size_allocO] at h2; injection h2 with h2; omega
  · rw [World.cell?_of_block (hg.block p.block (by rw [size_allocO]; omega) (fun e => by injection e with e; omega)), World.cell?_alloc_lt _ _ _ hp]
    exact h

theorem obj_cells_m (w : World) {ws : List Int} {m : Nat} (hm : ws.length = m) (id : Int) (A : Option Addr) (c : Nat) :
    ∀ j u, (Oq.cells ⟨id, ws, A, c⟩)[j]? = some u → (w.alloc (.cells #[.int .i64 id, .slice A m c] 69)).cell? (Addr.add ⟨w.heap.size, 0, none⟩ j) = some u := by
  subst hm
  exact obj_cells w ⟨id, ws, A, c⟩
theorem MidO.news {w wr w3 : World} {A2 : Option Addr} {k c2 m : Nat} {qs : List Oq} {id : Int} {ws : List Int} {A3 : Option Addr} {c3 : Nat} (h : MidO w wr w3 A2 k c2 qs ⟨id, ws, A3, c3⟩) (hm : ws.length = m) :
    News (w3.alloc (.cells #[.int .i64 id, .slice A3 m c3] 69)) w.heap.size k A2 c2 qs (some ⟨w3.heap.size, 0, none⟩) 1 [⟨id, ws, A3, c3⟩] :=
  News.one (h.own.alloc _) (obj_cells_m w3 hm id A3 c3) (h.hq.alloc _) h.sep

end Go.Proofs.Ytfianpjoifcphaa
