/-
  Layers in memory: a slice of layers reads as the list ('LyI'); a row of the call's own, each layer a row of its own ('OwnL'); appends. Plain.
-/
import Derived.Test.YtapfbkjgmfmepaaLyM
import Derived.Test.YtapfbkjgmfmepaaRec
namespace Go.Proofs.Ytapfbkjgmfmepaa
open Go.RowKit
set_option linter.unusedVariables false
set_option maxRecDepth 100000

/-- a layer, and where it lies -/
structure Lq where
  ps : Ly
  addr : Option Addr
  cap : Nat
def Lq.sl (q : Lq) : Value := .slice q.addr q.ps.length q.cap
def lys (qs : List Lq) : List Ly := qs.map Lq.ps
def slL (qs : List Lq) : List Value := qs.map Lq.sl
theorem lys_length (qs : List Lq) : (lys qs).length = qs.length := by unfold lys; rw [List.length_map]
theorem slL_length (qs : List Lq) : (slL qs).length = qs.length := by unfold slL; rw [List.length_map]
theorem lys_get {qs : List Lq} {k : Nat} {q : Lq} (h : qs[k]? = some q) : (lys qs)[k]? = some q.ps := by unfold lys; rw [List.getElem?_map, h]; rfl
theorem lys_getD {qs : List Lq} {k : Nat} {q : Lq} (h : qs[k]? = some q) : (lys qs).getD k [] = q.ps := by simp [List.getD, lys_get h]
theorem slL_get {qs : List Lq} {k : Nat} {q : Lq} (h : qs[k]? = some q) : (slL qs)[k]? = some q.sl := by unfold slL; rw [List.getElem?_map, h]; rfl
theorem lys_append (qs rs : List Lq) : lys (qs ++ rs) = lys qs ++ lys rs := by unfold lys; rw [List.map_append]
theorem slL_append (qs rs : List Lq) : slL (qs ++ rs) = slL qs ++ slL rs := by unfold slL; rw [List.map_append]
theorem lys_take (qs : List Lq) (k : Nat) : lys (qs.take k) = (lys qs).take k := by unfold lys; rw [List.map_take]
theorem lys_drop (qs : List Lq) (k : Nat) : lys (qs.drop k) = (lys qs).drop k := by unfold lys; rw [List.map_drop]
theorem lys_set (qs : List Lq) (k : Nat) (q : Lq) : lys (qs.set k q) = (lys qs).set k q.ps := by unfold lys; rw [List.map_set]
theorem slL_set (qs : List Lq) (k : Nat) (q : Lq) : (slL qs).set k q.sl = slL (qs.set k q) := by unfold slL; rw [List.map_set]
theorem slL_one (qs : List Lq) : ∀ u ∈ slL qs, u.oneCell' = true := by
  intro u hu
  obtain ⟨q, _, rfl⟩ := List.mem_map.1 hu
  rfl

/-- pairs that can be read -/
def PrI (w : World) (B : Nat) (A : Option Addr) (n : Nat) (ps : Ly) : Prop := ps.length = n ∧ Ints w B A (n * 2) (fl ps)
section
variable {w w' : World} {B B' n : Nat} {A : Option Addr} {ps : Ly}
theorem PrI.at_ (h : PrI w B A n ps) {k : Nat} {e : Int × Int} (hk : ps[k]? = some e) : ∃ ad p, A = some ad ∧ ad.add (k * 2) = p ∧ p.block < B ∧ w.cell? p = some (.int .i64 e.1) ∧ w.cell? ⟨p.block, p.off + 1, none⟩ = some (.int .i64 e.2) := by
  have hl : k < n := by rw [← h.1]; exact (List.getElem?_eq_some_iff.1 hk).1
  obtain ⟨ad, rfl, hb, hc⟩ := h.2.2 (by omega)
  have h0 := hc (k * 2) (by omega)
  have h1 := hc (k * 2 + 1) (by omega)
  rw [(fl_getD hk).1] at h0
  rw [(fl_getD hk).2] at h1
  refine ⟨ad, _, rfl, rfl, by rw [block_of_add]; exact hb, h0, ?_⟩
  rw [← add_of_add] at h1
  simpa [Addr.add] using h1
theorem PrI.below {B2 : Nat} (h : PrI w B A n ps) (hb : Below B2 w w') (hB : B ≤ B2) : PrI w' B A n ps := ⟨h.1, h.2.below hb hB⟩
theorem PrI.more (h : PrI w B A n ps) (hB : B ≤ B') : PrI w B' A n ps := ⟨h.1, h.2.more hB⟩
theorem PrI.drewN (h : PrI w B A n ps) (k : Nat) : PrI (w.drewN k) B A n ps := h
theorem PrI.alloc (h : PrI w B A n ps) (hB : B ≤ w.heap.size) (o : Obj) : PrI (w.alloc o) B A n ps := ⟨h.1, h.2.alloc hB o⟩
theorem PrI.grown {row : Option Nat} (h : PrI w B A n ps) (hg : w.grownBy w' row) (hB : B ≤ w.heap.size) (hr : ∀ g, row = some g → B ≤ g) : PrI w' B A n ps := ⟨h.1, h.2.grown hg hB hr⟩
theorem PrI.keep (h : PrI w B A n ps) (hk : ∀ p : Addr, p.block < B → w'.cell? p = w.cell? p) : PrI w' B A n ps := ⟨h.1, h.2.keep hk⟩
end
/-- a row of pairs of the call's own -/
def PrR (w : World) (base : Nat) (A : Option Addr) (n c : Nat) (ps : Ly) : Prop := ps.length = n ∧ OwnR w base 29 2 A n c (fl ps)
section
variable {w w' : World} {base n c : Nat} {A : Option Addr} {ps : Ly}
theorem PrR.pri (h : PrR w base A n c ps) : PrI w w.heap.size A n ps := ⟨h.1, h.2.ints⟩
theorem PrR.below (h : PrR w base A n c ps) (hg : Below w.heap.size w w') : PrR w' base A n c ps := ⟨h.1, h.2.below hg⟩
theorem PrR.alloc (h : PrR w base A n c ps) (o : Obj) : PrR (w.alloc o) base A n c ps := ⟨h.1, h.2.alloc o⟩
theorem PrR.kept {row : Option Nat} (h : PrR w base A n c ps) (hg : w.grownBy w' row) (hne : ∀ k, row = some k → (Value.slice A n c).ownBlock ≠ some k) : PrR w' base A n c ps := ⟨h.1, h.2.kept hg hne⟩
theorem PrR.mono {b' : Nat} (h : PrR w base A n c ps) (hb : b' ≤ base) : PrR w b' A n c ps := ⟨h.1, h.2.mono hb⟩
theorem PrR.drewN (h : PrR w base A n c ps) (k : Nat) : PrR (w.drewN k) base A n c ps := h
theorem PrR.lit0 (w : World) (base : Nat) (hb : base ≤ w.heap.size) : PrR (w.alloc (.cells #[] 29)) base (some ⟨w.heap.size, 0, none⟩) 0 0 [] := ⟨rfl, OwnR.lit0 w base hb _ _⟩
theorem PrR.nil_ (w : World) (base : Nat) : PrR w base none 0 0 [] := ⟨rfl, OwnR.nil_ _ _ _ _⟩
theorem PrR.block (h : PrR w base A n c ps) : ∀ k, (Value.slice A n c).ownBlock = some k → base ≤ k ∧ k < w.heap.size := h.2.block
theorem PrR.cap (h : PrR w base A n c ps) : n ≤ c ∧ c ≤ maxLen := h.2.cap
end

/-- layers that can be read -/
def LyI (w : World) (B : Nat) (A : Option Addr) (n : Nat) (qs : List Lq) : Prop :=
  qs.length = n ∧ (0 < n → ∃ ad, A = some ad ∧ ad.block < B ∧ ∀ j u, (slL qs)[j]? = some u → w.cell? (ad.add j) = some u) ∧
    ∀ q ∈ qs, PrI w B q.addr q.ps.length q.ps ∧ q.ps.length ≤ q.cap ∧ q.cap ≤ maxLen ∧ (q.addr = none → q.cap = 0)
section
variable {w w' : World} {B B' n : Nat} {A : Option Addr} {qs : List Lq}
theorem LyI.nil_ (w : World) (B : Nat) (A : Option Addr) : LyI w B A 0 [] := ⟨rfl, fun h => absurd h (by omega), by simp⟩
theorem LyI.at_ (h : LyI w B A n qs) {k : Nat} {q : Lq} (hk : qs[k]? = some q) : ∃ ad, A = some ad ∧ ad.block < B ∧ w.cell? (ad.add k) = some q.sl := by
  have hl : k < n := by rw [← h.1]; exact (List.getElem?_eq_some_iff.1 hk).1
  obtain ⟨ad, e, hb, hc⟩ := h.2.1 (by omega)
  exact ⟨ad, e, hb, hc k _ (slL_get hk)⟩
theorem LyI.layer (h : LyI w B A n qs) {k : Nat} {q : Lq} (hk : qs[k]? = some q) : PrI w B q.addr q.ps.length q.ps ∧ q.ps.length ≤ q.cap ∧ q.cap ≤ maxLen ∧ (q.addr = none → q.cap = 0) := h.2.2 q (List.mem_of_getElem? hk)
theorem LyI.keep (h : LyI w B A n qs) (hk : ∀ p : Addr, p.block < B → w'.cell? p = w.cell? p) : LyI w' B A n qs :=
  ⟨h.1, fun hn => by
    obtain ⟨ad, e, hb, hc⟩ := h.2.1 hn
    exact ⟨ad, e, hb, fun j u hu => (hk _ (by rw [block_of_add]; exact hb)).trans (hc j u hu)⟩, fun q hq => ⟨(h.2.2 q hq).1.keep hk, (h.2.2 q hq).2⟩⟩
theorem LyI.more (h : LyI w B A n qs) (hB : B ≤ B') : LyI w B' A n qs :=
  ⟨h.1, fun hn => by
    obtain ⟨ad, e, hb, hc⟩ := h.2.1 hn
    exact ⟨ad, e, by omega, hc⟩, fun q hq => ⟨(h.2.2 q hq).1.more hB, (h.2.2 q hq).2⟩⟩
theorem LyI.below {B2 : Nat} (h : LyI w B A n qs) (hb : Below B2 w w') (hB : B ≤ B2) : LyI w' B A n qs := h.keep fun _ hp => hb.cell (by omega)
theorem LyI.drewN (h : LyI w B A n qs) (k : Nat) : LyI (w.drewN k) B A n qs := h.keep fun _ _ => rfl
theorem LyI.alloc (h : LyI w B A n qs) (hB : B ≤ w.heap.size) (o : Obj) : LyI (w.alloc o) B A n qs := h.keep fun p hp => World.cell?_alloc_lt w o p (by omega)
theorem LyI.grown (h : LyI w B A n qs) {row : Option Nat} (hg : w.grownBy w' row) (hB : B ≤ w.heap.size) (hr : ∀ g, row = some g → B ≤ g) : LyI w' B A n qs :=
  h.keep fun p hp => World.cell?_of_block (hg.block p.block (by omega) (fun e => by have := hr _ e.symm; omega))
theorem LyI.firsts (h : LyI w B A n qs) {m : Nat} (hm : m ≤ n) : LyI w B A m (qs.take m) := by
  refine ⟨by rw [List.length_take, h.1]; omega, fun hn => ?_, fun q hq => h.2.2 q (List.mem_of_mem_take hq)⟩
  obtain ⟨ad, e, hb, hc⟩ := h.2.1 (by omega)
  refine ⟨ad, e, hb, fun j u hu => hc j u ?_⟩
  have e2 : slL qs = slL (qs.take m) ++ slL (qs.drop m) := by rw [← slL_append, List.take_append_drop]
  rw [e2, List.getElem?_append_left (List.getElem?_eq_some_iff.1 hu).1]
  exact hu
/-- 's[k:m]' -/
theorem LyI.cut (h : LyI w B A n qs) {k m cap : Nat} (hk : k ≤ m) (hm : m ≤ n) (hc : n ≤ cap) :
    LyI w B (if cap = k then A else A.map (·.add k)) (m - k) ((qs.take m).drop k) := by
  refine ⟨by rw [List.length_drop, List.length_take, h.1]; omega, fun hn => ?_, fun q hq => h.2.2 q (List.mem_of_mem_take (List.mem_of_mem_drop hq))⟩
  have h' := h.firsts hm
  obtain ⟨ad, rfl, hb, hcell⟩ := h'.2.1 (by omega)
  rw [if_neg (by omega)]
  refine ⟨ad.add k, rfl, by rw [block_of_add]; exact hb, fun j u hu => ?_⟩
  rw [add_of_add]
  refine hcell (k + j) u ?_
  unfold slL at hu ⊢
  rw [List.map_drop, List.getElem?_drop] at hu
  exact hu
end

/-- a row of layers of the call's own, each a row of its own -/
structure OwnL (w : World) (base : Nat) (A : Option Addr) (n c : Nat) (qs : List Lq) : Prop where
  len : qs.length = n
  row : w.ownsRow base 27 1 (.slice A n c) n (slL qs)
  own : ∀ (k : Nat) (q : Lq), qs[k]? = some q → PrR w base q.addr q.ps.length q.cap q.ps
  sep : ∀ (i j : Nat) (q r : Lq), qs[i]? = some q → qs[j]? = some r → i ≠ j → ∀ g, q.sl.ownBlock = some g → r.sl.ownBlock ≠ some g

theorem rows_neL {w : World} {b b' t t' s s' n n' : Nat} {v v' : Value} {xs ys : List Value} (h : w.ownsRow b t s v n xs) (h' : w.ownsRow b' t' s' v' n' ys) (ht : t ≠ t') {g : Nat} (hv : v.ownBlock = some g) : v'.ownBlock ≠ some g := by
  intro hv'
  rcases h.2 with ⟨rfl, _⟩ | ⟨g1, cap1, cur1, rfl, _, hh, _⟩
  · simp [Value.ownBlock] at hv
  · rcases h'.2 with ⟨rfl, _⟩ | ⟨g2, cap2, cur2, rfl, _, hh', _⟩
    · simp [Value.ownBlock] at hv'
    · simp [Value.ownBlock] at hv hv'
      subst hv hv'
      rw [hh] at hh'
      simp at hh'
      exact ht hh'.2
section
variable {w w' : World} {base n c : Nat} {A : Option Addr} {qs : List Lq}
theorem OwnL.cap (h : OwnL w base A n c qs) : n ≤ c ∧ c ≤ maxLen := by
  rcases h.row.2 with ⟨hv, h0⟩ | ⟨g, cap, cur, hv, hb, hh, hc, hm, hs, ht⟩
  · injection hv with _ h1 h2; subst h1; subst h2; exact ⟨Nat.le_refl _, Nat.zero_le _⟩
  · injection hv with _ _ h2; subst h2; exact ⟨hc, hm⟩
theorem OwnL.shape (h : OwnL w base A n c qs) (hn : 0 < n) : ∃ g, A = some ⟨g, 0, none⟩ ∧ base ≤ g ∧ g < w.heap.size := by
  rcases h.row.2 with ⟨hv, h0⟩ | ⟨g, cap, cur, hv, hb, hh, hc, hm, hs, ht⟩
  · omega
  · injection hv with h1; exact ⟨g, h1, hb, (Array.getElem?_eq_some_iff.1 hh).1⟩
theorem OwnL.block (h : OwnL w base A n c qs) : ∀ k, (Value.slice A n c).ownBlock = some k → base ≤ k ∧ k < w.heap.size := h.row.lt
theorem OwnL.wblock (h : OwnL w base A n c qs) {k : Nat} {q : Lq} (hk : qs[k]? = some q) : ∀ g, q.sl.ownBlock = some g → base ≤ g ∧ g < w.heap.size := (h.own k q hk).block
/-- pairs lie elsewhere than the row -/
theorem OwnL.far (h : OwnL w base A n c qs) {k : Nat} {q : Lq} (hk : qs[k]? = some q) {g : Nat} (hg : (Value.slice A n c).ownBlock = some g) : q.sl.ownBlock ≠ some g :=
  rows_neL h.row (h.own k q hk).2.2 (by decide) hg
theorem OwnL.lyi (h : OwnL w base A n c qs) : LyI w w.heap.size A n qs := by
  refine ⟨h.len, fun hn => ?_, fun q hq => ?_⟩
  · obtain ⟨g, rfl, hb, hl⟩ := h.shape hn
    exact ⟨_, rfl, hl, fun j u hu => h.row.cells rfl j u hu⟩
  · obtain ⟨k, hk⟩ := List.getElem?_of_mem hq
    exact ⟨(h.own k q hk).pri, (h.own k q hk).cap.1, (h.own k q hk).cap.2, (h.own k q hk).2.nilc⟩
theorem OwnL.kept {row : Option Nat} (h : OwnL w base A n c qs) (hg : w.grownBy w' row) (hne : ∀ g, row = some g → (Value.slice A n c).ownBlock ≠ some g ∧ ∀ (k : Nat) (q : Lq), qs[k]? = some q → q.sl.ownBlock ≠ some g) : OwnL w' base A n c qs :=
  ⟨h.len, h.row.kept hg (by
    rcases hv : (Value.slice A n c).ownBlock with _ | g
    · exact .inl rfl
    · right; intro e; exact (hne g e.symm).1 hv), fun k q hk => (h.own k q hk).kept hg (fun g hr => (hne g hr).2 k q hk), h.sep⟩
theorem OwnL.below (h : OwnL w base A n c qs) (hg : Below w.heap.size w w') : OwnL w' base A n c qs := h.kept (grown_of_below hg none) (by simp)
/-- .. while a block below is written -/
theorem OwnL.old {R : Nat} (h : OwnL w base A n c qs) (hg : w.grownBy w' (some R)) (hR : R < base) : OwnL w' base A n c qs :=
  h.kept hg (by
    intro g hg'
    injection hg' with hg'
    subst hg'
    exact ⟨fun e => by have := (h.block _ e).1; omega, fun k q hk e => by have := (h.wblock hk _ e).1; omega⟩)
theorem OwnL.alloc (h : OwnL w base A n c qs) (o : Obj) : OwnL (w.alloc o) base A n c qs := ⟨h.len, h.row.alloc o, fun k q hk => (h.own k q hk).alloc o, h.sep⟩
theorem OwnL.drewN (h : OwnL w base A n c qs) (k : Nat) : OwnL (w.drewN k) base A n c qs := ⟨h.len, h.row, fun j q hj => (h.own j q hj).drewN k, h.sep⟩
theorem OwnL.nil_ (w : World) (base : Nat) : OwnL w base none 0 0 [] := ⟨rfl, World.ownsRow_nil _ _ _ _, by simp, by simp⟩
theorem OwnL.mono {b' : Nat} (h : OwnL w base A n c qs) (hb : b' ≤ base) : OwnL w b' A n c qs := by
  refine ⟨h.len, ⟨h.row.1, ?_⟩, fun k q hk => (h.own k q hk).mono hb, h.sep⟩
  rcases h.row.2 with h0 | ⟨g, cap, cur, hv, hb', r⟩
  · exact .inl h0
  · exact .inr ⟨g, cap, cur, hv, by omega, r⟩
theorem OwnL.lit0 (w : World) (base : Nat) (hb : base ≤ w.heap.size) : OwnL (w.alloc (.cells #[] 27)) base (some ⟨w.heap.size, 0, none⟩) 0 0 [] := by
  refine ⟨rfl, ?_, by simp, by simp⟩
  have := World.ownsRow_lit (base := base) (e := 27) (size := 1) w #[] 0 hb (Nat.zero_le _) (by simp)
  simpa [slL] using this
theorem OwnL.free {g j : Nat} (h : OwnL w base (some ⟨g, 0, none⟩) n c qs) : w.frozen? ⟨g, j, none⟩ = false := h.row.frozenAt j
theorem OwnL.cell {g k : Nat} {q : Lq} (h : OwnL w base (some ⟨g, 0, none⟩) n c qs) (hk : qs[k]? = some q) : w.cell? ⟨g, k, none⟩ = some q.sl := by
  have := h.row.cells rfl k _ (slL_get hk)
  rwa [add_plain'] at this
/-- a layer of the call's own is put in the place of layer k -/
theorem OwnL.put {g k : Nat} {q : Lq} (h : OwnL w base (some ⟨g, 0, none⟩) n c qs) (q' : Lq) (hq' : PrR w base q'.addr q'.ps.length q'.cap q'.ps) (hfar : ∀ (j : Nat) (r : Lq), qs[j]? = some r → j ≠ k → ∀ g, q'.sl.ownBlock = some g → r.sl.ownBlock ≠ some g) :
    OwnL (w.setCell ⟨g, k, none⟩ q'.sl) base (some ⟨g, 0, none⟩) n c (qs.set k q') ∧ w.grownBy (w.setCell ⟨g, k, none⟩ q'.sl) (some g) := by
  have hst := h.row.stored k q'.sl
  rw [slL_set] at hst
  have keep : ∀ {q : Lq}, PrR w base q.addr q.ps.length q.cap q.ps → PrR (w.setCell ⟨g, k, none⟩ q'.sl) base q.addr q.ps.length q.cap q.ps := fun {q} hq =>
    hq.kept hst.2 (fun b hb => by injection hb with hb; subst hb; exact rows_neL h.row hq.2.2 (by decide) rfl)
  refine ⟨⟨by rw [List.length_set]; exact h.len, hst.1, fun j r hr => ?_, fun i j r s hi hj hij b hb => ?_⟩, hst.2⟩
  · rw [List.getElem?_set] at hr
    split at hr
    · split at hr
      · injection hr with hr; subst hr; exact keep hq'
      · cases hr
    · exact keep (h.own j r hr)
  · rw [List.getElem?_set] at hi hj
    split at hi
    · rename_i e1
      split at hi
      · injection hi with hi
        subst hi
        split at hj
        · rename_i e2; omega
        · exact hfar j s hj (by omega) b hb
      · cases hi
    · split at hj
      · rename_i e2
        split at hj
        · injection hj with hj
          subst hj
          intro hb2
          exact hfar i r hi (by omega) b hb2 hb
        · cases hj
      · exact h.sep i j r s hi hj hij b hb
end

/-! ### append of layers -/
theorem lyT : RT 23 27 1 24 (.slice none 0 0) := ⟨Try.underlying23, by kernel_rfl, by decide, by decide, by decide⟩

/-- what an append of layers asks -/
structure NewL (w : World) (base n : Nat) (A : Option Addr) (c : Nat) (qs : List Lq) (X : Option Addr) (m : Nat) (q2 : List Lq) : Prop where
  own : OwnL w base A n c qs
  len : q2.length = m
  src : 0 < m → ∃ ad, X = some ad ∧ ∀ j u, (slL q2)[j]? = some u → w.cell? (ad.add j) = some u
  news : ∀ (k : Nat) (q : Lq), q2[k]? = some q → PrR w base q.addr q.ps.length q.cap q.ps
  sep2 : ∀ (i j : Nat) (q r : Lq), q2[i]? = some q → q2[j]? = some r → i ≠ j → ∀ g, q.sl.ownBlock = some g → r.sl.ownBlock ≠ some g
  sep : ∀ (k j : Nat) (r q : Lq), qs[k]? = some r → q2[j]? = some q → ∀ g, r.sl.ownBlock = some g → q.sl.ownBlock ≠ some g

theorem run_append_lys (w : World) (base n c m d : Nat) (A X : Option Addr) (qs q2 : List Lq) (ty : TypeId) (hnew : NewL w base n A c qs X m q2)
    (hn : n + m ≤ 100000000000) (hbase : base ≤ w.heap.size) :
    ∃ A2 c2 w', (Builtin.append_ #[23, 23] ty #[.slice A n c, .slice X m d]).run Try.prog w = .ok (.slice A2 (n + m) c2) w' ∧ OwnL w' base A2 (n + m) c2 (qs ++ q2) ∧
      w.grownBy w' (Value.slice A n c).ownBlock ∧ ((Value.slice A2 (n + m) c2).ownBlock = (Value.slice A n c).ownBlock ∨ (Value.slice A2 (n + m) c2).ownBlock = some w.heap.size) := by
  obtain ⟨hown, hl, hr, hq, hsep2, hsep⟩ := hnew
  have key : ∀ A2 c2 w', w'.ownsRow base 27 1 (.slice A2 (n + m) c2) (n + m) (slL qs ++ slL q2) → w.grownBy w' (Value.slice A n c).ownBlock → OwnL w' base A2 (n + m) c2 (qs ++ q2) := by
    intro A2 c2 w' h2 h3
    rw [← slL_append] at h2
    have get : ∀ {k r}, (qs ++ q2)[k]? = some r → (k < n ∧ qs[k]? = some r) ∨ (n ≤ k ∧ q2[k - n]? = some r) := by
      intro k r hk
      rcases Nat.lt_or_ge k qs.length with h | h
      · exact .inl ⟨by rw [← hown.len]; exact h, by rwa [List.getElem?_append_left h] at hk⟩
      · rw [List.getElem?_append_right h, hown.len] at hk
        exact .inr ⟨by rw [← hown.len]; exact h, hk⟩
    refine ⟨by simp [hown.len, hl], h2, fun k r hk => ?_, fun i j r r' hi hj hij g hg => ?_⟩
    · rcases get hk with ⟨_, hk⟩ | ⟨_, hk⟩
      · exact (hown.own k r hk).kept h3 (fun g hg => hown.far hk hg)
      · exact (hq _ _ hk).kept h3 (fun g hg => rows_neL hown.row (hq _ _ hk).2.2 (by decide) hg)
    · rcases get hi with ⟨li, hi'⟩ | ⟨li, hi'⟩
      · rcases get hj with ⟨lj, hj'⟩ | ⟨lj, hj'⟩
        · exact hown.sep i j r r' hi' hj' hij g hg
        · exact hsep _ _ _ _ hi' hj' g hg
      · rcases get hj with ⟨lj, hj'⟩ | ⟨lj, hj'⟩
        · intro h
          exact hsep _ _ _ _ hj' hi' g h hg
        · exact hsep2 _ _ _ _ hi' hj' (by omega) g hg
  rcases X with _ | ad
  · have hm : m = 0 := by
      rcases Nat.eq_zero_or_pos m with h | h
      · exact h
      · obtain ⟨ad, h', _⟩ := hr h
        cases h'
    subst hm
    obtain rfl : q2 = [] := List.eq_nil_of_length_eq_zero hl
    obtain ⟨i0, hi, hz0, hz1, hz2⟩ := info_parts lyT.info
    exact ⟨A, c, w, run_append_of_nil w base 23 ty 27 i0 1 lyT.und hi _ n _ hown.row d, by simpa using hown, World.grownBy.refl w _, .inl rfl⟩
  · have hc : ∀ j u, (slL q2)[j]? = some u → w.cell? (ad.add j) = some u := by
      intro j u hu
      rcases Nat.eq_zero_or_pos m with h | h
      · obtain rfl : q2 = [] := List.eq_nil_of_length_eq_zero (by rw [hl, h])
        simp [slL] at hu
      · obtain ⟨ad', e, hc⟩ := hr h
        injection e with e
        subst e
        exact hc j u hu
    obtain ⟨i0, hi, hz0, hz1, hz2⟩ := info_parts lyT.info
    obtain ⟨v', w', hrun, h2, h3, _, h5⟩ := run_append_own_at (P := Try.prog) w base 23 ty 27 i0 (.slice none 0 0) 1 24 lyT.und hi hz0 hz1 hz2 lyT.zs lyT.pos
      (.slice A n c) n (slL qs) hown.row ad m d (slL q2) (by rw [slL_length, hl]; omega) hc (slL_one _)
      (by unfold maxLen; omega) (by omega) hbase
    obtain ⟨A2, c2, rfl⟩ := slice_of_own h2
    exact ⟨A2, c2, w', hrun, key A2 c2 w' h2 h3, h3, h5⟩
theorem wp_append_lys {w : World} {o : Oper} {a : Act} {K : Act → World → Prop} {Q : Exit → Act → World → Prop} (s x : Operand)
    (ho : o.op = .call { callee := .builtin .append, args := #[s, x], argTypes := #[23, 23] })
    (base n c m d : Nat) (A X : Option Addr) (qs q2 : List Lq) (hs : a.eval s = .slice A n c) (hx : a.eval x = .slice X m d) (hnew : NewL w base n A c qs X m q2)
    (hn : n + m ≤ 100000000000) (hbase : base ≤ w.heap.size)
    (h : ∀ A2 c2 w', OwnL w' base A2 (n + m) c2 (qs ++ q2) → w.grownBy w' (Value.slice A n c).ownBlock →
      ((Value.slice A2 (n + m) c2).ownBlock = (Value.slice A n c).ownBlock ∨ (Value.slice A2 (n + m) c2).ownBlock = some w.heap.size) → K (a.put o.dst (.slice A2 (n + m) c2)) w') : o.wp Try.prog a w K Q := by
  obtain ⟨A2, c2, w', hrun, h2, h3, h4⟩ := run_append_lys w base n c m d A X qs q2 o.type hnew hn hbase
  unfold Oper.wp execOp
  simp only [ho, resolve, invoke, builtin, Sem.run_bind, Sem.run_pure, Result.andThen_ok, List.map_toArray, List.map_cons, List.map_nil, hs, hx, hrun]
  exact h A2 c2 w' h2 h3 h4
theorem wpList_append_lys {w : World} {ops : Array Oper} {rest : List Oper} {o : Oper} {a : Act} {Q : Exit → Act → World → Prop} (hgd : o.guard = none) (s x : Operand)
    (ho : o.op = .call { callee := .builtin .append, args := #[s, x], argTypes := #[23, 23] })
    (base n c m d : Nat) (A X : Option Addr) (qs q2 : List Lq) (hs : a.eval s = .slice A n c) (hx : a.eval x = .slice X m d) (hnew : NewL w base n A c qs X m q2)
    (hn : n + m ≤ 100000000000) (hbase : base ≤ w.heap.size)
    (h : ∀ A2 c2 w', OwnL w' base A2 (n + m) c2 (qs ++ q2) → w.grownBy w' (Value.slice A n c).ownBlock →
      ((Value.slice A2 (n + m) c2).ownBlock = (Value.slice A n c).ownBlock ∨ (Value.slice A2 (n + m) c2).ownBlock = some w.heap.size) → wpList Try.prog ops Q rest (a.put o.dst (.slice A2 (n + m) c2)) w') :
    wpList Try.prog ops Q (o :: rest) a w :=
  wpList_plain hgd fun _ hK => wp_append_lys s x ho base n c m d A X qs q2 hs hx hnew hn hbase fun A2 c2 w' h2 h3 h4 => hK _ _ (h A2 c2 w' h2 h3 h4)
theorem step_append_lys {w : World} {ops : Array Oper} {o : Oper} {a : Act} {K : Act → World → Prop} {Q : Exit → Act → World → Prop} {E : Prop} (hgd : o.guard = none) (s x : Operand)
    (ho : o.op = .call { callee := .builtin .append, args := #[s, x], argTypes := #[23, 23] })
    (base n c m d : Nat) (A X : Option Addr) (qs q2 : List Lq) (hs : a.eval s = .slice A n c) (hx : a.eval x = .slice X m d) (hnew : NewL w base n A c qs X m q2)
    (hn : n + m ≤ 100000000000) (hbase : base ≤ w.heap.size)
    (h : ∀ A2 c2 w', OwnL w' base A2 (n + m) c2 (qs ++ q2) → w.grownBy w' (Value.slice A n c).ownBlock →
      ((Value.slice A2 (n + m) c2).ownBlock = (Value.slice A n c).ownBlock ∨ (Value.slice A2 (n + m) c2).ownBlock = some w.heap.size) → K (a.put o.dst (.slice A2 (n + m) c2)) w') :
    if Region.wanted o (yielded ops a.tmps) = true then Oper.wp Try.prog o a w K Q else E := by
  have hw : Region.wanted o (yielded ops a.tmps) = true := by simp [Region.wanted, hgd]
  rw [if_pos hw]
  exact wp_append_lys s x ho base n c m d A X qs q2 hs hx hnew hn hbase h

/-- one new layer, its slice in a block of its own -/
theorem NewL.one {w : World} {base n c : Nat} {A : Option Addr} {qs : List Lq} {q : Lq} (h : OwnL w base A n c qs) (hq : PrR w base q.addr q.ps.length q.cap q.ps) (hsep : ∀ (k : Nat) (r : Lq), qs[k]? = some r → ∀ g, r.sl.ownBlock = some g → q.sl.ownBlock ≠ some g) :
    NewL (w.alloc (.cells #[q.sl] 27)) base n A c qs (some ⟨w.heap.size, 0, none⟩) 1 [q] where
  own := h.alloc _
  len := rfl
  src _ := ⟨_, rfl, fun j u hu => by
    rw [add_plain', (Blk.new w 27 #[q.sl]).cell j]
    rcases j with _ | j
    · exact hu
    · simp [slL] at hu⟩
  news k r hr := by
    rcases k with _ | k
    · simp at hr; subst hr; exact hq.alloc _
    · simp at hr
  sep2 i j r s hi hj hij := by
    rcases i with _ | i
    · rcases j with _ | j
      · exact absurd rfl hij
      · simp at hj
    · simp at hi
  sep k j r s hr hs := by
    rcases j with _ | j
    · simp at hs; subst hs; exact hsep k r hr
    · simp at hs
/-- .. made behind all of them -/
theorem OwnL.fresh {w w' : World} {base n c : Nat} {A : Option Addr} {qs : List Lq} {q : Lq} (h : OwnL w base A n c qs) (hq : PrR w' w.heap.size q.addr q.ps.length q.cap q.ps) : ∀ (k : Nat) (r : Lq), qs[k]? = some r → ∀ g, r.sl.ownBlock = some g → q.sl.ownBlock ≠ some g := by
  intro k r hr g hg hg2
  have h1 := (h.wblock hr g hg).2
  have h2 := (hq.block g hg2).1
  omega
end Go.Proofs.Ytapfbkjgmfmepaa
