/-
  Lists of lists of integers in memory: a slice of them reads as the list ('NyI'); a row of the call's own, each list a row of its own ('OwnN'); appends. Plain.
-/
import Derived.Test.YtiopbgenkalfaaaRec
namespace Go.Proofs.Ytiopbgenkalfaaa
open Go.RowKit
set_option linter.unusedVariables false
set_option maxRecDepth 100000

theorem own_nilc {w : World} {base n c : Nat} {A : Option Addr} {xs : List Int} (h : Own w base A n c xs) : A = none → c = 0 := by
  intro e
  rcases h.2.2 with ⟨hv, h0⟩ | ⟨g, cap, cur, hv, hb, hh, hc, hm, hs, ht⟩
  · injection hv with _ _ h2
  · injection hv with h1; rw [e] at h1; cases h1
/-- a list, and where it lies -/
structure Nq where
  ps : List Int
  addr : Option Addr
  cap : Nat
def Nq.sl (q : Nq) : Value := .slice q.addr q.ps.length q.cap
def vsN (qs : List Nq) : List (List Int) := qs.map Nq.ps
def slN (qs : List Nq) : List Value := qs.map Nq.sl
theorem vsN_length (qs : List Nq) : (vsN qs).length = qs.length := by unfold vsN; rw [List.length_map]
theorem slN_length (qs : List Nq) : (slN qs).length = qs.length := by unfold slN; rw [List.length_map]
theorem vsN_get {qs : List Nq} {k : Nat} {q : Nq} (h : qs[k]? = some q) : (vsN qs)[k]? = some q.ps := by unfold vsN; rw [List.getElem?_map, h]; rfl
theorem vsN_getD {qs : List Nq} {k : Nat} {q : Nq} (h : qs[k]? = some q) : (vsN qs).getD k [] = q.ps := by simp [List.getD, vsN_get h]
theorem slN_get {qs : List Nq} {k : Nat} {q : Nq} (h : qs[k]? = some q) : (slN qs)[k]? = some q.sl := by unfold slN; rw [List.getElem?_map, h]; rfl
theorem vsN_append (qs rs : List Nq) : vsN (qs ++ rs) = vsN qs ++ vsN rs := by unfold vsN; rw [List.map_append]
theorem slN_append (qs rs : List Nq) : slN (qs ++ rs) = slN qs ++ slN rs := by unfold slN; rw [List.map_append]
theorem vsN_take (qs : List Nq) (k : Nat) : vsN (qs.take k) = (vsN qs).take k := by unfold vsN; rw [List.map_take]
theorem vsN_drop (qs : List Nq) (k : Nat) : vsN (qs.drop k) = (vsN qs).drop k := by unfold vsN; rw [List.map_drop]
theorem vsN_set (qs : List Nq) (k : Nat) (q : Nq) : vsN (qs.set k q) = (vsN qs).set k q.ps := by unfold vsN; rw [List.map_set]
theorem slN_set (qs : List Nq) (k : Nat) (q : Nq) : (slN qs).set k q.sl = slN (qs.set k q) := by unfold slN; rw [List.map_set]
theorem slN_one (qs : List Nq) : ∀ u ∈ slN qs, u.oneCell' = true := by
  intro u hu
  obtain ⟨q, _, rfl⟩ := List.mem_map.1 hu
  rfl

/-- lists that can be read -/
def NyI (w : World) (B : Nat) (A : Option Addr) (n : Nat) (qs : List Nq) : Prop :=
  qs.length = n ∧ (0 < n → ∃ ad, A = some ad ∧ ad.block < B ∧ ∀ j u, (slN qs)[j]? = some u → w.cell? (ad.add j) = some u) ∧
    ∀ q ∈ qs, Ints w B q.addr q.ps.length q.ps ∧ q.ps.length ≤ q.cap ∧ q.cap ≤ maxLen ∧ (q.addr = none → q.cap = 0)
section
variable {w w' : World} {B B' n : Nat} {A : Option Addr} {qs : List Nq}
theorem NyI.nil_ (w : World) (B : Nat) (A : Option Addr) : NyI w B A 0 [] := ⟨rfl, fun h => absurd h (by omega), by simp⟩
theorem NyI.at_ (h : NyI w B A n qs) {k : Nat} {q : Nq} (hk : qs[k]? = some q) : ∃ ad, A = some ad ∧ ad.block < B ∧ w.cell? (ad.add k) = some q.sl := by
  have hl : k < n := by rw [← h.1]; exact (List.getElem?_eq_some_iff.1 hk).1
  obtain ⟨ad, e, hb, hc⟩ := h.2.1 (by omega)
  exact ⟨ad, e, hb, hc k _ (slN_get hk)⟩
theorem NyI.row_ (h : NyI w B A n qs) {k : Nat} {q : Nq} (hk : qs[k]? = some q) : Ints w B q.addr q.ps.length q.ps ∧ q.ps.length ≤ q.cap ∧ q.cap ≤ maxLen ∧ (q.addr = none → q.cap = 0) := h.2.2 q (List.mem_of_getElem? hk)
theorem NyI.keep (h : NyI w B A n qs) (hk : ∀ p : Addr, p.block < B → w'.cell? p = w.cell? p) : NyI w' B A n qs :=
  ⟨h.1, fun hn => by
    obtain ⟨ad, e, hb, hc⟩ := h.2.1 hn
    exact ⟨ad, e, hb, fun j u hu => (hk _ (by rw [block_of_add]; exact hb)).trans (hc j u hu)⟩, fun q hq => ⟨(h.2.2 q hq).1.keep hk, (h.2.2 q hq).2⟩⟩
theorem NyI.more (h : NyI w B A n qs) (hB : B ≤ B') : NyI w B' A n qs :=
  ⟨h.1, fun hn => by
    obtain ⟨ad, e, hb, hc⟩ := h.2.1 hn
    exact ⟨ad, e, by omega, hc⟩, fun q hq => ⟨(h.2.2 q hq).1.more hB, (h.2.2 q hq).2⟩⟩
theorem NyI.below {B2 : Nat} (h : NyI w B A n qs) (hb : Below B2 w w') (hB : B ≤ B2) : NyI w' B A n qs := h.keep fun _ hp => hb.cell (by omega)
theorem NyI.drewN (h : NyI w B A n qs) (k : Nat) : NyI (w.drewN k) B A n qs := h.keep fun _ _ => rfl
theorem NyI.alloc (h : NyI w B A n qs) (hB : B ≤ w.heap.size) (o : Obj) : NyI (w.alloc o) B A n qs := h.keep fun p hp => World.cell?_alloc_lt w o p (by omega)
theorem NyI.grown (h : NyI w B A n qs) {row : Option Nat} (hg : w.grownBy w' row) (hB : B ≤ w.heap.size) (hr : ∀ g, row = some g → B ≤ g) : NyI w' B A n qs :=
  h.keep fun p hp => World.cell?_of_block (hg.block p.block (by omega) (fun e => by have := hr _ e.symm; omega))
theorem NyI.firsts (h : NyI w B A n qs) {m : Nat} (hm : m ≤ n) : NyI w B A m (qs.take m) := by
  refine ⟨by rw [List.length_take, h.1]; omega, fun hn => ?_, fun q hq => h.2.2 q (List.mem_of_mem_take hq)⟩
  obtain ⟨ad, e, hb, hc⟩ := h.2.1 (by omega)
  refine ⟨ad, e, hb, fun j u hu => hc j u ?_⟩
  have e2 : slN qs = slN (qs.take m) ++ slN (qs.drop m) := by rw [← slN_append, List.take_append_drop]
  rw [e2, List.getElem?_append_left (List.getElem?_eq_some_iff.1 hu).1]
  exact hu
/-- 's[k:m]' -/
theorem NyI.cut (h : NyI w B A n qs) {k m cap : Nat} (hk : k ≤ m) (hm : m ≤ n) (hc : n ≤ cap) :
    NyI w B (if cap = k then A else A.map (·.add k)) (m - k) ((qs.take m).drop k) := by
  refine ⟨by rw [List.length_drop, List.length_take, h.1]; omega, fun hn => ?_, fun q hq => h.2.2 q (List.mem_of_mem_take (List.mem_of_mem_drop hq))⟩
  have h' := h.firsts hm
  obtain ⟨ad, rfl, hb, hcell⟩ := h'.2.1 (by omega)
  rw [if_neg (by omega)]
  refine ⟨ad.add k, rfl, by rw [block_of_add]; exact hb, fun j u hu => ?_⟩
  rw [add_of_add]
  refine hcell (k + j) u ?_
  unfold slN at hu ⊢
  rw [List.map_drop, List.getElem?_drop] at hu
  exact hu
end

/-- a row of lists of the call's own, each a row of its own -/
structure OwnN (w : World) (base : Nat) (A : Option Addr) (n c : Nat) (qs : List Nq) : Prop where
  len : qs.length = n
  row : w.ownsRow base 23 1 (.slice A n c) n (slN qs)
  own : ∀ (k : Nat) (q : Nq), qs[k]? = some q → Own w base q.addr q.ps.length q.cap q.ps
  sep : ∀ (i j : Nat) (q r : Nq), qs[i]? = some q → qs[j]? = some r → i ≠ j → ∀ g, q.sl.ownBlock = some g → r.sl.ownBlock ≠ some g

theorem rows_neN {w : World} {b b' t t' s s' n n' : Nat} {v v' : Value} {xs ys : List Value} (h : w.ownsRow b t s v n xs) (h' : w.ownsRow b' t' s' v' n' ys) (ht : t ≠ t') {g : Nat} (hv : v.ownBlock = some g) : v'.ownBlock ≠ some g := by
  intro hv'
  rcases h.2 with ⟨rfl, _⟩ | ⟨g1, cap1, cur1, rfl, _, hh, _⟩
  · simp [Value.ownBlock] at hv
  · rcases h'.2 with ⟨rfl, _⟩ | ⟨g2, cap2, cur2, rfl, _, hh', _⟩
    · simp [Value.ownBlock] at hv'
    · simp [Value.ownBlock] at hv hv'
      subst hv hv'
      rw [hh] at hh'
      simp at hh'
      exact ht hh'.2
section
variable {w w' : World} {base n c : Nat} {A : Option Addr} {qs : List Nq}
theorem OwnN.cap (h : OwnN w base A n c qs) : n ≤ c ∧ c ≤ maxLen := by
  rcases h.row.2 with ⟨hv, h0⟩ | ⟨g, cap, cur, hv, hb, hh, hc, hm, hs, ht⟩
  · injection hv with _ h1 h2; subst h1; subst h2; exact ⟨Nat.le_refl _, Nat.zero_le _⟩
  · injection hv with _ _ h2; subst h2; exact ⟨hc, hm⟩
theorem OwnN.shape (h : OwnN w base A n c qs) (hn : 0 < n) : ∃ g, A = some ⟨g, 0, none⟩ ∧ base ≤ g ∧ g < w.heap.size := by
  rcases h.row.2 with ⟨hv, h0⟩ | ⟨g, cap, cur, hv, hb, hh, hc, hm, hs, ht⟩
  · omega
  · injection hv with h1; exact ⟨g, h1, hb, (Array.getElem?_eq_some_iff.1 hh).1⟩
theorem OwnN.block (h : OwnN w base A n c qs) : ∀ k, (Value.slice A n c).ownBlock = some k → base ≤ k ∧ k < w.heap.size := h.row.lt
theorem OwnN.wblock (h : OwnN w base A n c qs) {k : Nat} {q : Nq} (hk : qs[k]? = some q) : ∀ g, q.sl.ownBlock = some g → base ≤ g ∧ g < w.heap.size := (h.own k q hk).block
/-- pairs lie elsewhere than the row -/
theorem OwnN.far (h : OwnN w base A n c qs) {k : Nat} {q : Nq} (hk : qs[k]? = some q) {g : Nat} (hg : (Value.slice A n c).ownBlock = some g) : q.sl.ownBlock ≠ some g :=
  rows_neN h.row (h.own k q hk).2 (by decide) hg
theorem OwnN.nyi (h : OwnN w base A n c qs) : NyI w w.heap.size A n qs := by
  refine ⟨h.len, fun hn => ?_, fun q hq => ?_⟩
  · obtain ⟨g, rfl, hb, hl⟩ := h.shape hn
    exact ⟨_, rfl, hl, fun j u hu => h.row.cells rfl j u hu⟩
  · obtain ⟨k, hk⟩ := List.getElem?_of_mem hq
    exact ⟨(h.own k q hk).ints, (h.own k q hk).cap.1, (h.own k q hk).cap.2, own_nilc (h.own k q hk)⟩
theorem OwnN.kept {row : Option Nat} (h : OwnN w base A n c qs) (hg : w.grownBy w' row) (hne : ∀ g, row = some g → (Value.slice A n c).ownBlock ≠ some g ∧ ∀ (k : Nat) (q : Nq), qs[k]? = some q → q.sl.ownBlock ≠ some g) : OwnN w' base A n c qs :=
  ⟨h.len, h.row.kept hg (by
    rcases hv : (Value.slice A n c).ownBlock with _ | g
    · exact .inl rfl
    · right; intro e; exact (hne g e.symm).1 hv), fun k q hk => (h.own k q hk).kept hg (fun g hr => (hne g hr).2 k q hk), h.sep⟩
theorem OwnN.below (h : OwnN w base A n c qs) (hg : Below w.heap.size w w') : OwnN w' base A n c qs := h.kept (grown_of_below hg none) (by simp)
/-- .. while a block below is written -/
theorem OwnN.old {R : Nat} (h : OwnN w base A n c qs) (hg : w.grownBy w' (some R)) (hR : R < base) : OwnN w' base A n c qs :=
  h.kept hg (by
    intro g hg'
    injection hg' with hg'
    subst hg'
    exact ⟨fun e => by have := (h.block _ e).1; omega, fun k q hk e => by have := (h.wblock hk _ e).1; omega⟩)
theorem OwnN.alloc (h : OwnN w base A n c qs) (o : Obj) : OwnN (w.alloc o) base A n c qs := ⟨h.len, h.row.alloc o, fun k q hk => (h.own k q hk).alloc o, h.sep⟩
theorem OwnN.drewN (h : OwnN w base A n c qs) (k : Nat) : OwnN (w.drewN k) base A n c qs := ⟨h.len, h.row, fun j q hj => (h.own j q hj).drewN k, h.sep⟩
theorem OwnN.nil_ (w : World) (base : Nat) : OwnN w base none 0 0 [] := ⟨rfl, World.ownsRow_nil _ _ _ _, by simp, by simp⟩
theorem OwnN.mono {b' : Nat} (h : OwnN w base A n c qs) (hb : b' ≤ base) : OwnN w b' A n c qs := by
  refine ⟨h.len, ⟨h.row.1, ?_⟩, fun k q hk => (h.own k q hk).mono hb, h.sep⟩
  rcases h.row.2 with h0 | ⟨g, cap, cur, hv, hb', r⟩
  · exact .inl h0
  · exact .inr ⟨g, cap, cur, hv, by omega, r⟩
theorem OwnN.lit0 (w : World) (base : Nat) (hb : base ≤ w.heap.size) : OwnN (w.alloc (.cells #[] 23)) base (some ⟨w.heap.size, 0, none⟩) 0 0 [] := by
  refine ⟨rfl, ?_, by simp, by simp⟩
  have := World.ownsRow_lit (base := base) (e := 23) (size := 1) w #[] 0 hb (Nat.zero_le _) (by simp)
  simpa [slN] using this
theorem OwnN.free {g j : Nat} (h : OwnN w base (some ⟨g, 0, none⟩) n c qs) : w.frozen? ⟨g, j, none⟩ = false := h.row.frozenAt j
theorem OwnN.cell {g k : Nat} {q : Nq} (h : OwnN w base (some ⟨g, 0, none⟩) n c qs) (hk : qs[k]? = some q) : w.cell? ⟨g, k, none⟩ = some q.sl := by
  have := h.row.cells rfl k _ (slN_get hk)
  rwa [add_plain'] at this
/-- a list of the call's own is put in the place of list k -/
theorem OwnN.put {g k : Nat} {q : Nq} (h : OwnN w base (some ⟨g, 0, none⟩) n c qs) (q' : Nq) (hq' : Own w base q'.addr q'.ps.length q'.cap q'.ps) (hfar : ∀ (j : Nat) (r : Nq), qs[j]? = some r → j ≠ k → ∀ g, q'.sl.ownBlock = some g → r.sl.ownBlock ≠ some g) :
    OwnN (w.setCell ⟨g, k, none⟩ q'.sl) base (some ⟨g, 0, none⟩) n c (qs.set k q') ∧ w.grownBy (w.setCell ⟨g, k, none⟩ q'.sl) (some g) := by
  have hst := h.row.stored k q'.sl
  rw [slN_set] at hst
  have keep : ∀ {q : Nq}, Own w base q.addr q.ps.length q.cap q.ps → Own (w.setCell ⟨g, k, none⟩ q'.sl) base q.addr q.ps.length q.cap q.ps := fun {q} hq =>
    hq.kept hst.2 (fun b hb => by injection hb with hb; subst hb; exact rows_neN h.row hq.2 (by decide) rfl)
  refine ⟨⟨by rw [List.length_set]; exact h.len, hst.1, fun j r hr => ?_, fun i j r s hi hj hij b hb => ?_⟩, hst.2⟩
  · rw [List.getElem?_set] at hr
    split at hr
    · split at hr
      · injection hr with hr; subst hr; exact keep hq'
      · cases hr
    · exact keep (h.own j r hr)
  · rw [List.getElem?_set] at hi hj
    split at hi
    · rename_i e1
      split at hi
      · injection hi with hi
        subst hi
        split at hj
        · rename_i e2; omega
        · exact hfar j s hj (by omega) b hb
      · cases hi
    · split at hj
      · rename_i e2
        split at hj
        · injection hj with hj
          subst hj
          intro hb2
          exact hfar i r hi (by omega) b hb2 hb
        · cases hj
      · exact h.sep i j r s hi hj hij b hb
end

/-! ### append of lists -/
theorem nyT : RT 25 23 1 24 (.slice none 0 0) := ⟨Try.underlying25, by kernel_rfl, by decide, by decide, by decide⟩

/-- what an append of lists asks -/
structure NewN (w : World) (base n : Nat) (A : Option Addr) (c : Nat) (qs : List Nq) (X : Option Addr) (m : Nat) (q2 : List Nq) : Prop where
  own : OwnN w base A n c qs
  len : q2.length = m
  src : 0 < m → ∃ ad, X = some ad ∧ ∀ j u, (slN q2)[j]? = some u → w.cell? (ad.add j) = some u
  news : ∀ (k : Nat) (q : Nq), q2[k]? = some q → Own w base q.addr q.ps.length q.cap q.ps
  sep2 : ∀ (i j : Nat) (q r : Nq), q2[i]? = some q → q2[j]? = some r → i ≠ j → ∀ g, q.sl.ownBlock = some g → r.sl.ownBlock ≠ some g
  sep : ∀ (k j : Nat) (r q : Nq), qs[k]? = some r → q2[j]? = some q → ∀ g, r.sl.ownBlock = some g → q.sl.ownBlock ≠ some g

theorem run_append_nts (w : World) (base n c m d : Nat) (A X : Option Addr) (qs q2 : List Nq) (ty : TypeId) (hnew : NewN w base n A c qs X m q2)
    (hn : n + m ≤ 100000000000) (hbase : base ≤ w.heap.size) :
    ∃ A2 c2 w', (Builtin.append_ #[25, 25] ty #[.slice A n c, .slice X m d]).run Try.prog w = .ok (.slice A2 (n + m) c2) w' ∧ OwnN w' base A2 (n + m) c2 (qs ++ q2) ∧
      w.grownBy w' (Value.slice A n c).ownBlock ∧ ((Value.slice A2 (n + m) c2).ownBlock = (Value.slice A n c).ownBlock ∨ (Value.slice A2 (n + m) c2).ownBlock = some w.heap.size) := by
  obtain ⟨hown, hl, hr, hq, hsep2, hsep⟩ := hnew
  have key : ∀ A2 c2 w', w'.ownsRow base 23 1 (.slice A2 (n + m) c2) (n + m) (slN qs ++ slN q2) → w.grownBy w' (Value.slice A n c).ownBlock → OwnN w' base A2 (n + m) c2 (qs ++ q2) := by
    intro A2 c2 w' h2 h3
    rw [← slN_append] at h2
    have get : ∀ {k r}, (qs ++ q2)[k]? = some r → (k < n ∧ qs[k]? = some r) ∨ (n ≤ k ∧ q2[k - n]? = some r) := by
      intro k r hk
      rcases Nat.lt_or_ge k qs.length with h | h
      · exact .inl ⟨by rw [← hown.len]; exact h, by rwa [List.getElem?_append_left h] at hk⟩
      · rw [List.getElem?_append_right h, hown.len] at hk
        exact .inr ⟨by rw [← hown.len]; exact h, hk⟩
    refine ⟨by simp [hown.len, hl], h2, fun k r hk => ?_, fun i j r r' hi hj hij g hg => ?_⟩
    · rcases get hk with ⟨_, hk⟩ | ⟨_, hk⟩
      · exact (hown.own k r hk).kept h3 (fun g hg => hown.far hk hg)
      · exact (hq _ _ hk).kept h3 (fun g hg => rows_neN hown.row (hq _ _ hk).2 (by decide) hg)
    · rcases get hi with ⟨li, hi'⟩ | ⟨li, hi'⟩
      · rcases get hj with ⟨lj, hj'⟩ | ⟨lj, hj'⟩
        · exact hown.sep i j r r' hi' hj' hij g hg
        · exact hsep _ _ _ _ hi' hj' g hg
      · rcases get hj with ⟨lj, hj'⟩ | ⟨lj, hj'⟩
        · intro h
          exact hsep _ _ _ _ hj' hi' g h hg
        · exact hsep2 _ _ _ _ hi' hj' (by omega) g hg
  rcases X with _ | ad
  · have hm : m = 0 := by
      rcases Nat.eq_zero_or_pos m with h | h
      · exact h
      · obtain ⟨ad, h', _⟩ := hr h
        cases h'
    subst hm
    obtain rfl : q2 = [] := List.eq_nil_of_length_eq_zero hl
    obtain ⟨i0, hi, hz0, hz1, hz2⟩ := info_parts nyT.info
    exact ⟨A, c, w, run_append_of_nil w base 25 ty 23 i0 1 nyT.und hi _ n _ hown.row d, by simpa using hown, World.grownBy.refl w _, .inl rfl⟩
  · have hc : ∀ j u, (slN q2)[j]? = some u → w.cell? (ad.add j) = some u := by
      intro j u hu
      rcases Nat.eq_zero_or_pos m with h | h
      · obtain rfl : q2 = [] := List.eq_nil_of_length_eq_zero (by rw [hl, h])
        simp [slN] at hu
      · obtain ⟨ad', e, hc⟩ := hr h
        injection e with e
        subst e
        exact hc j u hu
    obtain ⟨i0, hi, hz0, hz1, hz2⟩ := info_parts nyT.info
    obtain ⟨v', w', hrun, h2, h3, _, h5⟩ := run_append_own_at (P := Try.prog) w base 25 ty 23 i0 (.slice none 0 0) 1 24 nyT.und hi hz0 hz1 hz2 nyT.zs nyT.pos
      (.slice A n c) n (slN qs) hown.row ad m d (slN q2) (by rw [slN_length, hl]; omega) hc (slN_one _)
      (by unfold maxLen; omega) (by omega) hbase
    obtain ⟨A2, c2, rfl⟩ := slice_of_own h2
    exact ⟨A2, c2, w', hrun, key A2 c2 w' h2 h3, h3, h5⟩
theorem wp_append_nts {w : World} {o : Oper} {a : Act} {K : Act → World → Prop} {Q : Exit → Act → World → Prop} (s x : Operand)
    (ho : o.op = .call { callee := .builtin .append, args := #[s, x], argTypes := #[25, 25] })
    (base n c m d : Nat) (A X : Option Addr) (qs q2 : List Nq) (hs : a.eval s = .slice A n c) (hx : a.eval x = .slice X m d) (hnew : NewN w base n A c qs X m q2)
    (hn : n + m ≤ 100000000000) (hbase : base ≤ w.heap.size)
    (h : ∀ A2 c2 w', OwnN w' base A2 (n + m) c2 (qs ++ q2) → w.grownBy w' (Value.slice A n c).ownBlock →
      ((Value.slice A2 (n + m) c2).ownBlock = (Value.slice A n c).ownBlock ∨ (Value.slice A2 (n + m) c2).ownBlock = some w.heap.size) → K (a.put o.dst (.slice A2 (n + m) c2)) w') : o.wp Try.prog a w K Q := by
  obtain ⟨A2, c2, w', hrun, h2, h3, h4⟩ := run_append_nts w base n c m d A X qs q2 o.type hnew hn hbase
  unfold Oper.wp execOp
  simp only [ho, resolve, invoke, builtin, Sem.run_bind, Sem.run_pure, Result.andThen_ok, List.map_toArray, List.map_cons, List.map_nil, hs, hx, hrun]
  exact h A2 c2 w' h2 h3 h4
theorem wpList_append_nts {w : World} {ops : Array Oper} {rest : List Oper} {o : Oper} {a : Act} {Q : Exit → Act → World → Prop} (hgd : o.guard = none) (s x : Operand)
    (ho : o.op = .call { callee := .builtin .append, args := #[s, x], argTypes := #[25, 25] })
    (base n c m d : Nat) (A X : Option Addr) (qs q2 : List Nq) (hs : a.eval s = .slice A n c) (hx : a.eval x = .slice X m d) (hnew : NewN w base n A c qs X m q2)
    (hn : n + m ≤ 100000000000) (hbase : base ≤ w.heap.size)
    (h : ∀ A2 c2 w', OwnN w' base A2 (n + m) c2 (qs ++ q2) → w.grownBy w' (Value.slice A n c).ownBlock →
      ((Value.slice A2 (n + m) c2).ownBlock = (Value.slice A n c).ownBlock ∨ (Value.slice A2 (n + m) c2).ownBlock = some w.heap.size) → wpList Try.prog ops Q rest (a.put o.dst (.slice A2 (n + m) c2)) w') :
    wpList Try.prog ops Q (o :: rest) a w :=
  wpList_plain hgd fun _ hK => wp_append_nts s x ho base n c m d A X qs q2 hs hx hnew hn hbase fun A2 c2 w' h2 h3 h4 => hK _ _ (h A2 c2 w' h2 h3 h4)
theorem step_append_nts {w : World} {ops : Array Oper} {o : Oper} {a : Act} {K : Act → World → Prop} {Q : Exit → Act → World → Prop} {E : Prop} (hgd : o.guard = none) (s x : Operand)
    (ho : o.op = .call { callee := .builtin .append, args := #[s, x], argTypes := #[25, 25] })
    (base n c m d : Nat) (A X : Option Addr) (qs q2 : List Nq) (hs : a.eval s = .slice A n c) (hx : a.eval x = .slice X m d) (hnew : NewN w base n A c qs X m q2)
    (hn : n + m ≤ 100000000000) (hbase : base ≤ w.heap.size)
    (h : ∀ A2 c2 w', OwnN w' base A2 (n + m) c2 (qs ++ q2) → w.grownBy w' (Value.slice A n c).ownBlock →
      ((Value.slice A2 (n + m) c2).ownBlock = (Value.slice A n c).ownBlock ∨ (Value.slice A2 (n + m) c2).ownBlock = some w.heap.size) → K (a.put o.dst (.slice A2 (n + m) c2)) w') :
    if Region.wanted o (yielded ops a.tmps) = true then Oper.wp Try.prog o a w K Q else E := by
  have hw : Region.wanted o (yielded ops a.tmps) = true := by simp [Region.wanted, hgd]
  rw [if_pos hw]
  exact wp_append_nts s x ho base n c m d A X qs q2 hs hx hnew hn hbase h

/-- one new list, its slice in a block of its own -/
theorem NewN.one {w : World} {base n c : Nat} {A : Option Addr} {qs : List Nq} {q : Nq} (h : OwnN w base A n c qs) (hq : Own w base q.addr q.ps.length q.cap q.ps) (hsep : ∀ (k : Nat) (r : Nq), qs[k]? = some r → ∀ g, r.sl.ownBlock = some g → q.sl.ownBlock ≠ some g) :
    NewN (w.alloc (.cells #[q.sl] 23)) base n A c qs (some ⟨w.heap.size, 0, none⟩) 1 [q] where
  own := h.alloc _
  len := rfl
  src _ := ⟨_, rfl, fun j u hu => by
    rw [add_plain', (Blk.new w 23 #[q.sl]).cell j]
    rcases j with _ | j
    · exact hu
    · simp [slN] at hu⟩
  news k r hr := by
    rcases k with _ | k
    · simp at hr; subst hr; exact hq.alloc _
    · simp at hr
  sep2 i j r s hi hj hij := by
    rcases i with _ | i
    · rcases j with _ | j
      · exact absurd rfl hij
      · simp at hj
    · simp at hi
  sep k j r s hr hs := by
    rcases j with _ | j
    · simp at hs; subst hs; exact hsep k r hr
    · simp at hs
/-- .. made behind all of them -/
theorem OwnN.fresh {w w' : World} {base n c : Nat} {A : Option Addr} {qs : List Nq} {q : Nq} (h : OwnN w base A n c qs) (hq : Own w' w.heap.size q.addr q.ps.length q.cap q.ps) : ∀ (k : Nat) (r : Nq), qs[k]? = some r → ∀ g, r.sl.ownBlock = some g → q.sl.ownBlock ≠ some g := by
  intro k r hr g hg hg2
  have h1 := (h.wblock hr g hg).2
  have h2 := (hq.block g hg2).1
  omega
end Go.Proofs.Ytiopbgenkalfaaa
