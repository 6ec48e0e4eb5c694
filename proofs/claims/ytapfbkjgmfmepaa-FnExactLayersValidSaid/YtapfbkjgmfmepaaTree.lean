/-
  The program's trees in memory: nodes, each a block known whole; what a call may change besides new blocks: some blocks named. Plain.
-/
import Derived.Test.YtapfbkjgmfmepaaTreM
import Derived.Test.YtapfbkjgmfmepaaRec
namespace Go.Proofs.Ytapfbkjgmfmepaa
open Go.RowKit
set_option linter.unusedVariables false
set_option maxRecDepth 100000

/-- from w to w' nothing is changed but the blocks named, and new ones -/
structure But (ids : List Nat) (w w' : World) : Prop where
  os : w'.os = w.os
  tape : w'.tape = w.tape
  output : w'.output = w.output
  size : w.heap.size ≤ w'.heap.size
  block : ∀ i, i < w.heap.size → i ∉ ids → w'.heap[i]? = w.heap[i]?
section
variable {a b c w w' : World} {ids ids' : List Nat}
theorem But.refl (ids : List Nat) (w : World) : But ids w w := ⟨rfl, rfl, rfl, Nat.le_refl _, fun _ _ _ => rfl⟩
theorem But.trans (h : But ids a b) (k : But ids' b c) (hs : ∀ i ∈ ids', i ∈ ids ∨ a.heap.size ≤ i) : But ids a c :=
  ⟨k.os.trans h.os, k.tape.trans h.tape, k.output.trans h.output, Nat.le_trans h.size k.size, fun i hi hne =>
    (k.block i (Nat.lt_of_lt_of_le hi h.size) (fun hm => by rcases hs i hm with h1 | h1; exact hne h1; omega)).trans (h.block i hi hne)⟩
theorem But.of_below (h : Below w.heap.size w w') (ids : List Nat) : But ids w w' := ⟨h.os, h.tape, h.output, h.size, fun i hi _ => h.block i hi⟩
theorem But.of_grown {row : Option Nat} (h : w.grownBy w' row) (hr : ∀ g, row = some g → g ∈ ids) : But ids w w' := ⟨h.os, h.tape, h.output, h.size, fun i hi hn => h.block i hi fun e => hn (hr i e.symm)⟩
theorem But.new (ids : List Nat) (w : World) (o : Obj) : But ids w (w.alloc o) := But.of_below (below_new w o) ids
theorem But.set (w : World) {p : Addr} (hp : p.block ∈ ids) (u : Value) : But ids w (w.setCell p u) :=
  ⟨rfl, rfl, rfl, Nat.le_of_eq (by simp), fun i hi hn => Below.heap_setCell w p u i fun e => hn (by rw [e]; exact hp)⟩
theorem But.drewN (h : But ids a w) (n : Nat) : But ids a (w.drewN n) := ⟨h.os, h.tape, h.output, h.size, h.block⟩
theorem But.mono (h : But ids w w') (hs : ∀ i ∈ ids, i ∈ ids' ∨ w.heap.size ≤ i) : But ids' w w' := ⟨h.os, h.tape, h.output, h.size, fun i hi hn => h.block i hi fun hm => by rcases hs i hm with h1 | h1; exact hn h1; omega⟩
theorem But.below {B : Nat} (h : But ids w w') (hB : B ≤ w.heap.size) (hs : ∀ i ∈ ids, B ≤ i) : Below B w w' :=
  ⟨h.os, h.tape, h.output, h.size, fun i hi => h.block i (Nat.lt_of_lt_of_le hi hB) fun hm => by have := hs i hm; omega⟩
theorem below_trans_but {B : Nat} (h : Below B a b) (k : But ids b c) (hB : B ≤ b.heap.size) (hs : ∀ i ∈ ids, B ≤ i) : Below B a c := h.trans (k.below hB hs)
end

inductive Tr
  | nil : Tr
  | node (g : Nat) (l : Tr) (e : Int × Int) (r : Tr) : Tr
def Tr.pt : Tr → Option Addr
  | .nil => none
  | .node g _ _ _ => some ⟨g, 0, none⟩
def Tr.ids : Tr → List Nat
  | .nil => []
  | .node g l _ r => g :: (l.ids ++ r.ids)
def Tr.vals : Tr → Ly
  | .nil => []
  | .node _ l e r => l.vals ++ e :: r.vals
def TrI (w : World) : Tr → Prop
  | .nil => True
  | .node g l e r => Blk w g 92 #[.int .i64 e.1, .int .i64 e.2, .pointer l.pt, .pointer r.pt] ∧ TrI w l ∧ TrI w r
section
variable {w w' : World} {t : Tr}
theorem TrI.keep (h : TrI w t) (hk : ∀ g ∈ t.ids, w'.heap[g]? = w.heap[g]?) : TrI w' t := by
  induction t with
  | nil => trivial
  | node g l e r ihl ihr =>
    obtain ⟨h1, h2, h3⟩ := h
    refine ⟨(hk g (List.mem_cons_self ..)).trans h1, ihl h2 fun i hi => hk i ?_, ihr h3 fun i hi => hk i ?_⟩
    · exact List.mem_cons_of_mem _ (List.mem_append_left _ hi)
    · exact List.mem_cons_of_mem _ (List.mem_append_right _ hi)
theorem TrI.obj (h : TrI w t) : ∀ g ∈ t.ids, ∃ cs, Blk w g 92 cs := by
  induction t with
  | nil => intro g hg; cases hg
  | node g l e r ihl ihr =>
    obtain ⟨h1, h2, h3⟩ := h
    intro i hi
    rcases List.mem_cons.1 hi with rfl | hi
    · exact ⟨_, h1⟩
    · rcases List.mem_append.1 hi with hi | hi
      · exact ihl h2 i hi
      · exact ihr h3 i hi
theorem TrI.lt (h : TrI w t) : ∀ g ∈ t.ids, g < w.heap.size := fun g hg => by obtain ⟨cs, hc⟩ := h.obj g hg; exact hc.lt
theorem TrI.below (h : TrI w t) (hb : Below w.heap.size w w') : TrI w' t := h.keep fun g hg => hb.block g (h.lt g hg)
theorem TrI.alloc (h : TrI w t) (o : Obj) : TrI (w.alloc o) t := h.below (below_new w o)
theorem TrI.but {ids : List Nat} (h : TrI w t) (hb : But ids w w') (hd : ∀ g ∈ t.ids, g ∉ ids) : TrI w' t := h.keep fun g hg => hb.block g (h.lt g hg) (hd g hg)
theorem TrI.grown {row : Option Nat} (h : TrI w t) (hb : w.grownBy w' row) (hd : ∀ g, row = some g → g ∉ t.ids) : TrI w' t := h.keep fun g hg => hb.block g (h.lt g hg) fun e => hd g e.symm hg
theorem TrI.drewN (h : TrI w t) (n : Nat) : TrI (w.drewN n) t := h.keep fun _ _ => rfl
theorem vals_mid {g : Nat} {l r : Tr} {e : Int × Int} : (Tr.node g l e r).vals = l.vals ++ e :: r.vals := rfl
/-- a row of other things is no node -/
theorem TrI.off {t2 s n base : Nat} {v : Value} {xs : List Value} (h : TrI w t) (hr : w.ownsRow base t2 s v n xs) (ht : 92 ≠ t2) : ∀ g, v.ownBlock = some g → g ∉ t.ids := by
  intro g hv hg
  obtain ⟨cs, hc⟩ := h.obj g hg
  rcases hr.2 with ⟨rfl, _⟩ | ⟨g1, cap1, cur1, rfl, _, hh, _⟩
  · simp [Value.ownBlock] at hv
  · simp [Value.ownBlock] at hv
    subst hv
    unfold Blk at hc
    rw [hh] at hc
    simp at hc
    exact ht hc.2.symm
end

/-- what makes of a layer's values a tree of blocks of a call -/
def New (base : Nat) (t : Tr) (w : World) (ps : Ly) : Prop := TrI w t ∧ t.vals = ps ∧ (∀ g ∈ t.ids, base ≤ g) ∧ t.ids.Nodup

theorem pairPT : RT 61 69 1 8 (.pointer none) := ⟨Try.underlying61, by kernel_rfl, by decide, by decide, by decide⟩
def pts (ts : List Tr) : List Value := ts.map fun t => .pointer t.pt
/-- trees in a row of the call's own, with nodes of its own, none twice -/
structure Trs (w : World) (base : Nat) (A : Option Addr) (n c : Nat) (ts : List Tr) : Prop where
  len : ts.length = n
  row : w.ownsRow base 69 1 (.slice A n c) n (pts ts)
  tri : ∀ t ∈ ts, TrI w t
  ge : ∀ t ∈ ts, ∀ g ∈ t.ids, base ≤ g
  nd : (ts.flatMap Tr.ids).Nodup
theorem pts_length (ts : List Tr) : (pts ts).length = ts.length := by unfold pts; rw [List.length_map]
theorem pts_get {ts : List Tr} {k : Nat} {t : Tr} (h : ts[k]? = some t) : (pts ts)[k]? = some (.pointer t.pt) := by unfold pts; rw [List.getElem?_map, h]; rfl
theorem pts_set (ts : List Tr) (k : Nat) (t : Tr) : (pts ts).set k (.pointer t.pt) = pts (ts.set k t) := by unfold pts; rw [List.map_set]
theorem pts_append (ts us : List Tr) : pts (ts ++ us) = pts ts ++ pts us := by unfold pts; rw [List.map_append]
section
variable {w w' : World} {base n c : Nat} {A : Option Addr} {ts : List Tr}
theorem Trs.cap (h : Trs w base A n c ts) : n ≤ c ∧ c ≤ maxLen := by
  rcases h.row.2 with ⟨hv, h0⟩ | ⟨g, cap, cur, hv, hb, hh, hc, hm, hs, ht⟩
  · injection hv with _ h1 h2; subst h1; subst h2; exact ⟨Nat.le_refl _, Nat.zero_le _⟩
  · injection hv with _ _ h2; subst h2; exact ⟨hc, hm⟩
theorem Trs.shape (h : Trs w base A n c ts) (hn : 0 < n) : ∃ g, A = some ⟨g, 0, none⟩ ∧ base ≤ g ∧ g < w.heap.size := by
  rcases h.row.2 with ⟨hv, h0⟩ | ⟨g, cap, cur, hv, hb, hh, hc, hm, hs, ht⟩
  · omega
  · injection hv with h1; exact ⟨g, h1, hb, (Array.getElem?_eq_some_iff.1 hh).1⟩
theorem Trs.block (h : Trs w base A n c ts) : ∀ k, (Value.slice A n c).ownBlock = some k → base ≤ k ∧ k < w.heap.size := h.row.lt
theorem Trs.keep (h : Trs w base A n c ts) (hr : ∀ k, (Value.slice A n c).ownBlock = some k → w'.heap[k]? = w.heap[k]?) (hs : w.heap.size ≤ w'.heap.size) (hk : ∀ t ∈ ts, ∀ g ∈ t.ids, w'.heap[g]? = w.heap[g]?) : Trs w' base A n c ts := by
  refine ⟨h.len, ?_, fun t ht => (h.tri t ht).keep (hk t ht), h.ge, h.nd⟩
  refine ⟨h.row.1, ?_⟩
  rcases h.row.2 with h0 | ⟨g, cap, cur, hv, hb, hh, r⟩
  · exact .inl h0
  · exact .inr ⟨g, cap, cur, hv, hb, (hr g (by rw [hv]; rfl)).trans hh, r⟩
theorem Trs.below (h : Trs w base A n c ts) (hb : Below w.heap.size w w') : Trs w' base A n c ts := h.keep (fun k hk => hb.block k (h.block k hk).2) hb.size fun t ht g hg => hb.block g ((h.tri t ht).lt g hg)
theorem Trs.alloc (h : Trs w base A n c ts) (o : Obj) : Trs (w.alloc o) base A n c ts := h.below (below_new w o)
theorem Trs.drewN (h : Trs w base A n c ts) (k : Nat) : Trs (w.drewN k) base A n c ts := h.keep (fun _ _ => rfl) (Nat.le_refl _) fun _ _ _ _ => rfl
theorem Trs.cell {g k : Nat} {t : Tr} (h : Trs w base (some ⟨g, 0, none⟩) n c ts) (hk : ts[k]? = some t) : w.cell? ⟨g, k, none⟩ = some (.pointer t.pt) := by
  have := h.row.cells rfl k _ (pts_get hk)
  rwa [add_plain'] at this
theorem Trs.free {g j : Nat} (h : Trs w base (some ⟨g, 0, none⟩) n c ts) : w.frozen? ⟨g, j, none⟩ = false := h.row.frozenAt j
theorem Trs.off (h : Trs w base A n c ts) : ∀ g, (Value.slice A n c).ownBlock = some g → ∀ t ∈ ts, g ∉ t.ids := fun g hg t ht => (h.tri t ht).off h.row (by decide) g hg
theorem Trs.lit0 (w : World) (base : Nat) (hb : base ≤ w.heap.size) : Trs (w.alloc (.cells #[] 69)) base (some ⟨w.heap.size, 0, none⟩) 0 0 [] := by
  refine ⟨rfl, ?_, by simp, by simp, by simp⟩
  have := World.ownsRow_lit (base := base) (e := 69) (size := 1) w #[] 0 hb (Nat.zero_le _) (by simp)
  simpa [pts] using this
end
theorem flat_nodup {ts : List Tr} (h : (ts.flatMap Tr.ids).Nodup) {i j : Nat} {t u : Tr} (hi : ts[i]? = some t) (hj : ts[j]? = some u) (hne : i ≠ j) : ∀ g ∈ t.ids, g ∉ u.ids := by
  induction ts generalizing i j with
  | nil => simp at hi
  | cons x r ih =>
    rw [List.flatMap_cons, List.nodup_append] at h
    obtain ⟨h1, h2, h3⟩ := h
    intro g hg hu
    rcases i with _ | i
    · rcases j with _ | j
      · exact hne rfl
      · simp at hi hj
        subst hi
        exact h3 g hg g (List.mem_flatMap.2 ⟨u, List.mem_of_getElem? hj, hu⟩) rfl
    · rcases j with _ | j
      · simp at hi hj
        subst hj
        exact h3 g hu g (List.mem_flatMap.2 ⟨t, List.mem_of_getElem? hi, hg⟩) rfl
      · simp at hi hj
        exact ih h2 hi hj (by omega) g hg hu
theorem flat_each {ts : List Tr} (h : (ts.flatMap Tr.ids).Nodup) {t : Tr} (ht : t ∈ ts) : t.ids.Nodup := by
  induction ts with
  | nil => cases ht
  | cons x r ih =>
    rw [List.flatMap_cons, List.nodup_append] at h
    rcases List.mem_cons.1 ht with rfl | ht
    · exact h.1
    · exact ih h.2.1 ht
/-- a tree is exchanged: its new nodes are some of the old ones, or new -/
theorem flat_set {ts : List Tr} (h : (ts.flatMap Tr.ids).Nodup) {k N : Nat} {t t' : Tr} (hk : ts[k]? = some t) (hN : ∀ u ∈ ts, ∀ g ∈ u.ids, g < N) (hs : ∀ g ∈ t'.ids, g ∈ t.ids ∨ N ≤ g) (hd : t'.ids.Nodup) : ((ts.set k t').flatMap Tr.ids).Nodup := by
  induction ts generalizing k with
  | nil => simp at hk
  | cons x r ih =>
    rw [List.flatMap_cons, List.nodup_append] at h
    obtain ⟨h1, h2, h3⟩ := h
    rcases k with _ | k
    · simp at hk
      subst hk
      rw [List.set_cons_zero, List.flatMap_cons, List.nodup_append]
      refine ⟨hd, h2, fun g hg i hi e => ?_⟩
      subst e
      rcases hs g hg with h4 | h4
      · exact h3 g h4 g hi rfl
      · obtain ⟨u, hu, hgu⟩ := List.mem_flatMap.1 hi
        have := hN u (List.mem_cons_of_mem _ hu) g hgu
        omega
    · simp at hk
      rw [List.set_cons_succ, List.flatMap_cons, List.nodup_append]
      refine ⟨h1, ih h2 hk fun u hu => hN u (List.mem_cons_of_mem _ hu), fun g hg i hi e => ?_⟩
      subst e
      obtain ⟨u, hu, hgu⟩ := List.mem_flatMap.1 hi
      rcases List.mem_or_eq_of_mem_set hu with hu | rfl
      · exact h3 g hg g (List.mem_flatMap.2 ⟨u, hu, hgu⟩) rfl
      · rcases hs g hgu with h4 | h4
        · exact h3 g hg g (List.mem_flatMap.2 ⟨t, List.mem_of_getElem? hk, h4⟩) rfl
        · have := hN x (List.mem_cons_self ..) g hg
          omega
end Go.Proofs.Ytapfbkjgmfmepaa
