/-
  Models in memory: two slices that read as a model ('MdI'); rows of the call's own that hold one ('OwnM'). Plain.
-/
import Derived.Test.YtiopbgenkalfaaaNt
import Derived.Test.YtiopbgenkalfaaaModM
import Derived.Test.YtiopbgenkalfaaaKp
namespace Go.Proofs.Ytiopbgenkalfaaa
open Go.RowKit
set_option linter.unusedVariables false
set_option maxRecDepth 100000

/-- where a model lies: its values, and those of the past -/
structure Mq where
  A : Option Addr
  n : Nat
  c : Nat
  P : Option Addr
  m : Nat
  d : Nat
  xs : List Int
  qs : List Nq
def Mq.val (q : Mq) : Value := .agg #[.slice q.A q.n q.c, .slice q.P q.m q.d]
def boxM (q : Mq) : Array Value := #[.slice q.A q.n q.c, .slice q.P q.m q.d]
def mq0 : Mq := ⟨none, 0, 0, none, 0, 0, [], []⟩
/-- a model that can be read -/
structure MdI (w : World) (B : Nat) (q : Mq) : Prop where
  now : Ints w B q.A q.n q.xs
  past : NyI w B q.P q.m q.qs
  nc : q.n ≤ q.c ∧ q.c ≤ maxLen ∧ (q.A = none → q.c = 0)
  md : q.m ≤ q.d ∧ q.d ≤ maxLen
section
variable {w w' : World} {B B' : Nat} {q : Mq}
theorem MdI.below {B2 : Nat} (h : MdI w B q) (hb : Below B2 w w') (hB : B ≤ B2) : MdI w' B q := ⟨h.now.below hb hB, h.past.below hb hB, h.nc, h.md⟩
theorem MdI.more (h : MdI w B q) (hB : B ≤ B') : MdI w B' q := ⟨h.now.more hB, h.past.more hB, h.nc, h.md⟩
theorem MdI.alloc (h : MdI w B q) (hB : B ≤ w.heap.size) (o : Obj) : MdI (w.alloc o) B q := ⟨h.now.alloc hB o, h.past.alloc hB o, h.nc, h.md⟩
theorem MdI.drewN (h : MdI w B q) (k : Nat) : MdI (w.drewN k) B q := ⟨h.now.drewN k, h.past.drewN k, h.nc, h.md⟩
end
/-- a model of the call's own: its values, those of the past, each a row of its own -/
structure OwnM (w : World) (base : Nat) (q : Mq) : Prop where
  now : Own w base q.A q.n q.c q.xs
  past : OwnN w base q.P q.m q.d q.qs
  sep : ∀ (k : Nat) (r : Nq), q.qs[k]? = some r → ∀ g, r.sl.ownBlock = some g → (Value.slice q.A q.n q.c).ownBlock ≠ some g
section
variable {w w' : World} {base : Nat} {q : Mq}
theorem OwnM.mdi (h : OwnM w base q) : MdI w w.heap.size q := ⟨h.now.ints, h.past.nyi, ⟨h.now.cap.1, h.now.cap.2, own_nilc h.now⟩, h.past.cap⟩
theorem OwnM.below (h : OwnM w base q) (hg : Below w.heap.size w w') : OwnM w' base q := ⟨h.now.below hg, h.past.below hg, h.sep⟩
theorem OwnM.drewN (h : OwnM w base q) (k : Nat) : OwnM (w.drewN k) base q := ⟨h.now.drewN k, h.past.drewN k, h.sep⟩
theorem OwnM.alloc (h : OwnM w base q) (o : Obj) : OwnM (w.alloc o) base q := ⟨h.now.alloc o, h.past.alloc o, h.sep⟩
theorem OwnM.nil_ (w : World) (base : Nat) : OwnM w base mq0 := ⟨Own.nil_ _ _, OwnN.nil_ _ _, by simp [mq0]⟩
theorem OwnM.mono {b' : Nat} (h : OwnM w base q) (hb : b' ≤ base) : OwnM w b' q := ⟨h.now.mono hb, h.past.mono hb, h.sep⟩
/-- .. while one block is written that is none of its own -/
theorem OwnM.kept {row : Option Nat} (h : OwnM w base q) (hg : w.grownBy w' row) (hne : ∀ g, row = some g → (Value.slice q.A q.n q.c).ownBlock ≠ some g ∧ (Value.slice q.P q.m q.d).ownBlock ≠ some g ∧ ∀ (k : Nat) (r : Nq), q.qs[k]? = some r → r.sl.ownBlock ≠ some g) : OwnM w' base q :=
  ⟨h.now.kept hg (fun g e => (hne g e).1), h.past.kept hg (fun g e => ⟨(hne g e).2.1, (hne g e).2.2⟩), h.sep⟩
/-- .. while a block below is written -/
theorem OwnM.old {R : Nat} (h : OwnM w base q) (hg : w.grownBy w' (some R)) (hR : R < base) : OwnM w' base q :=
  ⟨h.now.kept hg (by intro g e; injection e with e; subst e; intro e2; have := (h.now.block _ e2).1; omega), h.past.old hg hR, h.sep⟩
end
/-- what ModelNew and ModelDo answer -/
def MPost (w : World) (r : Option (List Int × List (List Int))) (e : Ending) (w' : World) : Prop :=
  ∃ q : Mq, e = .returned (.tuple #[q.val, .bool r.isSome]) ∧ OwnM w' w.heap.size q ∧ q.xs = (r.getD ([], [])).1 ∧ vsN q.qs = (r.getD ([], [])).2 ∧ Below w.heap.size w w'
theorem MPost.no (w : World) {w' : World} (hb : Below w.heap.size w w') {r : Option (List Int × List (List Int))} (hr : r = none) : MPost w r (.returned (.tuple #[.agg #[.slice none 0 0, .slice none 0 0], .bool false])) w' := by
  subst hr
  exact ⟨mq0, rfl, OwnM.nil_ _ _, rfl, rfl, hb⟩
/-- an event in memory -/
structure EvI (w : World) (B : Nat) (PA : Option Addr) (pn : Nat) (ps : List Int) (LA : Option Addr) (ln : Nat) (ls : List Int) : Prop where
  pairs : Ints w B PA (pn * 2) ps
  list : Ints w B LA ln ls
theorem EvI.below {w w' : World} {B B2 pn ln : Nat} {PA LA : Option Addr} {ps ls : List Int} (h : EvI w B PA pn ps LA ln ls) (hb : Below B2 w w') (hB : B ≤ B2) : EvI w' B PA pn ps LA ln ls := ⟨h.pairs.below hb hB, h.list.below hb hB⟩
theorem mod_box {W : World} {g : Nat} {t : TypeId} {q : Mq} (h : Blk W g t (boxM q)) : W.cell? ⟨g, 0, none⟩ = some (.slice q.A q.n q.c) ∧ W.cell? ⟨g, 1, none⟩ = some (.slice q.P q.m q.d) := ⟨by rw [h.cell]; rfl, by rw [h.cell]; rfl⟩
theorem boxM_one (q : Mq) : ∀ v ∈ (boxM q).toList, v.oneCell' = true := by
  intro v hv
  simp only [boxM, List.mem_cons, List.not_mem_nil, or_false] at hv
  rcases hv with rfl | rfl <;> rfl
theorem Kp.cells2 {w W : World} {g : Nat} {t : TypeId} {u v : Value} {L : List (Nat × TypeId × Array Value)} (h : Kp w W ((g, t, #[u, v]) :: L)) :
    (W.cell? ⟨g, 0, none⟩ = some u ∧ W.cell? ⟨g, 1, none⟩ = some v) ∧ W.frozen? ⟨g, 0, none⟩ = false ∧ W.frozen? ⟨g, 1, none⟩ = false :=
  ⟨⟨by rw [h.hd.cell]; rfl, by rw [h.hd.cell]; rfl⟩, h.free 0, h.free 1⟩
theorem Kp.cells3 {w W : World} {g : Nat} {t : TypeId} {u v x : Value} {L : List (Nat × TypeId × Array Value)} (h : Kp w W ((g, t, #[u, v, x]) :: L)) :
    (W.cell? ⟨g, 0, none⟩ = some u ∧ W.cell? ⟨g, 1, none⟩ = some v ∧ W.cell? ⟨g, 2, none⟩ = some x) ∧ W.frozen? ⟨g, 0, none⟩ = false ∧ W.frozen? ⟨g, 1, none⟩ = false ∧ W.frozen? ⟨g, 2, none⟩ = false :=
  ⟨⟨by rw [h.hd.cell]; rfl, by rw [h.hd.cell]; rfl, by rw [h.hd.cell]; rfl⟩, h.free 0, h.free 1, h.free 2⟩
theorem Kp.put2 {w W : World} {g : Nat} {t : TypeId} {u v : Value} {L : List (Nat × TypeId × Array Value)} (h : Kp w W ((g, t, #[u, v]) :: L)) (hne : ∀ p ∈ L, p.1 ≠ g) (u' v' : Value) :
    Kp w ((W.setCell ⟨g, 0, none⟩ u').setCell ⟨g, 1, none⟩ v') ((g, t, #[u', v']) :: L) := (h.put hne 0 u').put hne 1 v'
/-- two cells of one block are written -/
theorem grown2 (W : World) (g : Nat) (u v : Value) : W.grownBy ((W.setCell ⟨g, 0, none⟩ u).setCell ⟨g, 1, none⟩ v) (some g) := by
  have s : ∀ (w0 w1 : World) (i : Nat) (u : Value), w0.grownBy w1 (some g) → w0.grownBy (w1.setCell ⟨g, i, none⟩ u) (some g) := fun w0 w1 i u h =>
    ⟨h.os, h.tape, h.output, by simpa [World.setCell] using h.size, fun q hq hne => (Below.heap_setCell w1 ⟨g, i, none⟩ u q (fun e => hne (by rw [e]))).trans (h.block q hq hne)⟩
  exact s _ _ _ _ (s _ _ _ _ (grown_refl W _))
/-- one list in a new row of one -/
theorem OwnN.single {w : World} {base : Nat} {q : Nq} (hq : Own w base q.addr q.ps.length q.cap q.ps) (hb : base ≤ w.heap.size) : OwnN (w.alloc (.cells #[q.sl] 23)) base (some ⟨w.heap.size, 0, none⟩) 1 1 [q] := by
  refine ⟨rfl, ?_, fun k r hr => ?_, fun i j r s hi hj hij => ?_⟩
  · have := World.ownsRow_lit (base := base) (e := 23) (size := 1) w #[q.sl] 1 hb (by decide) (by simp)
    simpa [slN] using this
  · rcases k with _ | k
    · simp at hr; subst hr; exact hq.alloc _
    · simp at hr
  · rcases i with _ | i
    · rcases j with _ | j
      · exact absurd rfl hij
      · simp at hj
    · simp at hi
theorem OwnN.lone {w : World} {base n c : Nat} {A : Option Addr} {xs : List Int} (hq : Own w base A n c xs) (hb : base ≤ w.heap.size) : OwnN (w.alloc (.cells #[.slice A n c] 23)) base (some ⟨w.heap.size, 0, none⟩) 1 1 [⟨xs, A, c⟩] := by
  have hl := hq.1
  subst hl
  exact OwnN.single (q := ⟨xs, A, c⟩) hq hb
/-- a model of one list, its copies made one behind the other -/
theorem OwnM.single {w : World} {b1 b2 n c5 c6 : Nat} {A5 A6 : Option Addr} {xs : List Int} (h5 : Own w b1 A5 n c5 xs) (h6 : Own w b2 A6 n c6 xs) (hA : ∀ g, (Value.slice A5 n c5).ownBlock = some g → g < b2) (hs : b1 ≤ b2) (hb : b2 ≤ w.heap.size) :
    OwnM (w.alloc (.cells #[.slice A6 n c6] 23)) b1 ⟨A5, n, c5, some ⟨w.heap.size, 0, none⟩, 1, 1, xs, [⟨xs, A6, c6⟩]⟩ := by
  have hl := h6.1
  refine ⟨h5.alloc _, (OwnN.lone h6 hb).mono hs, fun k r hr g hg e => ?_⟩
  rcases k with _ | k
  · simp at hr
    subst hr
    have h1 := (h6.block g (by rw [← hg, Nq.sl, hl])).1
    have h2 := hA g e
    omega
  · simp at hr
theorem NewN.lone {w : World} {base n c m d : Nat} {A X : Option Addr} {xs : List Int} {qs : List Nq} (h : OwnN w base A n c qs) (hq : Own w base X m d xs) (hsep : ∀ (k : Nat) (r : Nq), qs[k]? = some r → ∀ g, r.sl.ownBlock = some g → (Value.slice X m d).ownBlock ≠ some g) :
    NewN (w.alloc (.cells #[.slice X m d] 23)) base n A c qs (some ⟨w.heap.size, 0, none⟩) 1 [⟨xs, X, d⟩] := by
  have hl := hq.1
  subst hl
  exact NewN.one (q := ⟨xs, X, d⟩) h hq hsep
theorem OwnN.fresh' {w w' : World} {base n c m d : Nat} {A X : Option Addr} {xs : List Int} {qs : List Nq} (h : OwnN w base A n c qs) (hq : Own w' w.heap.size X m d xs) : ∀ (k : Nat) (r : Nq), qs[k]? = some r → ∀ g, r.sl.ownBlock = some g → (Value.slice X m d).ownBlock ≠ some g := by
  intro k r hr g hg hg2
  have h1 := (h.wblock hr g hg).2
  have h2 := (hq.block g hg2).1
  omega
end Go.Proofs.Ytiopbgenkalfaaa
