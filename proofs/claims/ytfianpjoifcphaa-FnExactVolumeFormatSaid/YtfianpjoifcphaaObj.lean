/-
  Stores: a slice of objects is read as the list of its objects ('Objs'); a row of objects of the call's own, each with values of its own: 'OwnO'. Plain.
-/
import Derived.Test.YtfianpjoifcphaaRec
namespace Go.Proofs.Ytfianpjoifcphaa
open Go.RowKit
set_option linter.unusedVariables false
set_option maxRecDepth 100000

/-- An object: its number, its values; and where its values lie. -/
structure Oq where
  id : Int
  vals : List Int
  addr : Option Addr
  cap : Nat
/-- the object as the document sees it -/
def Oq.ob (q : Oq) : Int × List Int := (q.id, q.vals)
def Oq.sl (q : Oq) : Value := .slice q.addr q.vals.length q.cap
def Oq.cells (q : Oq) : List Value := [.int .i64 q.id, q.sl]
def flatO : List Oq → List Value
  | [] => []
  | q :: qs => .int .i64 q.id :: q.sl :: flatO qs
/-- a store -/
abbrev Sto := List (Int × List Int)
def obs (qs : List Oq) : Sto := qs.map Oq.ob

theorem flatO_length (qs : List Oq) : (flatO qs).length = qs.length * 2 := by
  induction qs with
  | nil => rfl
  | cons q qs ih => simp only [flatO, List.length_cons, ih]; omega
theorem flatO_append (qs rs : List Oq) : flatO (qs ++ rs) = flatO qs ++ flatO rs := by
  induction qs with
  | nil => rfl
  | cons q qs ih => simp only [flatO, List.cons_append, ih]
theorem flatO_get {qs : List Oq} {k : Nat} {q : Oq} (h : qs[k]? = some q) (j : Nat) (hj : j < 2) : (flatO qs)[k * 2 + j]? = q.cells[j]? := by
  induction qs generalizing k with
  | nil => simp at h
  | cons r qs ih =>
    rcases k with _ | k
    · simp at h
      subst h
      rcases j with _ | _ | j
      · rfl
      · rfl
      · omega
    · simp at h
      have := ih h
      rw [show (k + 1) * 2 + j = (k * 2 + j) + 1 + 1 by omega]
      simpa [flatO] using this
theorem flatO_set {qs : List Oq} {k : Nat} {q q' : Oq} (h : qs[k]? = some q) (j : Nat) (v : Value) (hj : j < 2) (hv : q'.cells = q.cells.set j v) : (flatO qs).set (k * 2 + j) v = flatO (qs.set k q') := by
  induction qs generalizing k with
  | nil => simp at h
  | cons r qs ih =>
    rcases k with _ | k
    · simp at h
      subst h
      obtain ⟨h0, h1⟩ : (.int .i64 q'.id : Value) = (r.cells.set j v).getD 0 (.bool false) ∧ q'.sl = (r.cells.set j v).getD 1 (.bool false) := by
        rw [← hv]
        exact ⟨rfl, rfl⟩
      simp only [List.set_cons_zero, flatO]
      rw [h0, h1]
      rcases j with _ | _ | j
      · rfl
      · rfl
      · omega
    · simp at h
      have := ih h
      rw [show (k + 1) * 2 + j = (k * 2 + j) + 1 + 1 by omega]
      simpa [flatO] using this
theorem flatO_one (qs : List Oq) : ∀ u ∈ flatO qs, u.oneCell' = true := by
  induction qs with
  | nil => simp [flatO]
  | cons q qs ih =>
    intro u hu
    simp only [flatO, List.mem_cons] at hu
    rcases hu with rfl | rfl | hu
    · rfl
    · rfl
    · exact ih u hu
theorem flatO_drop (qs : List Oq) (k j : Nat) : (flatO (qs.drop k))[j]? = (flatO qs)[k * 2 + j]? := by
  induction k generalizing qs with
  | zero => simp
  | succ k ih =>
    rcases qs with _ | ⟨q, qs⟩
    · simp [flatO]
    · rw [List.drop_succ_cons, ih, show (k + 1) * 2 + j = (k * 2 + j) + 1 + 1 by omega]
      simp [flatO]

theorem obs_length (qs : List Oq) : (obs qs).length = qs.length := by unfold obs; rw [List.length_map]
theorem obs_get {qs : List Oq} {k : Nat} {q : Oq} (h : qs[k]? = some q) : (obs qs)[k]? = some q.ob := by unfold obs; rw [List.getElem?_map, h]; rfl
theorem obs_get_inv {qs : List Oq} {k : Nat} {z : Int × List Int} (h : (obs qs)[k]? = some z) : ∃ q, qs[k]? = some q ∧ q.ob = z := by
  unfold obs at h
  rw [List.getElem?_map] at h
  rcases h2 : qs[k]? with _ | q
  · rw [h2] at h; cases h
  · rw [h2] at h; exact ⟨q, rfl, by injection h⟩
theorem obs_append (qs rs : List Oq) : obs (qs ++ rs) = obs qs ++ obs rs := by unfold obs; rw [List.map_append]
theorem obs_take (qs : List Oq) (k : Nat) : obs (qs.take k) = (obs qs).take k := by unfold obs; rw [List.map_take]
theorem obs_drop (qs : List Oq) (k : Nat) : obs (qs.drop k) = (obs qs).drop k := by unfold obs; rw [List.map_drop]

/-! ### A store that can be read -/
def Objs (w : World) (B : Nat) (A : Option Addr) (n : Nat) (qs : List Oq) : Prop :=
  qs.length = n ∧ (0 < n → ∃ ad, A = some ad ∧ ad.block < B ∧ ∀ j u, (flatO qs)[j]? = some u → w.cell? (ad.add j) = some u) ∧
    ∀ q ∈ qs, Ints w B q.addr q.vals.length q.vals ∧ q.vals.length ≤ q.cap ∧ q.cap ≤ maxLen ∧ (q.addr = none → q.cap = 0)
section
variable {w w' : World} {B B' n : Nat} {A : Option Addr} {qs : List Oq}
theorem Objs.nil_ (w : World) (B : Nat) (A : Option Addr) : Objs w B A 0 [] := ⟨rfl, fun h => absurd h (by omega), by simp⟩
theorem Objs.at_ (h : Objs w B A n qs) {k : Nat} {q : Oq} (hk : qs[k]? = some q) : ∃ ad p, A = some ad ∧ ad.add (k * 2) = p ∧ p.block < B ∧ w.cell? p = some (.int .i64 q.id) ∧
    w.cell? ⟨p.block, p.off + 1, none⟩ = some q.sl := by
  have hl : k < n := by rw [← h.1]; exact (List.getElem?_eq_some_iff.1 hk).1
  obtain ⟨ad, e, hb, hc⟩ := h.2.1 (by omega)
  have hc0 := hc (k * 2 + 0) _ (by rw [flatO_get hk 0 (by omega)]; rfl)
  have hc1 := hc (k * 2 + 1) _ (by rw [flatO_get hk 1 (by omega)]; rfl)
  have next : ∀ {i : Nat} {v : Value}, i ≠ 0 → w.cell? (ad.add (k * 2 + i)) = some v → w.cell? ⟨(ad.add (k * 2)).block, (ad.add (k * 2)).off + i, none⟩ = some v := by
    intro i v hi h
    rw [← add_of_add] at h
    simpa [Addr.add, hi] using h
  exact ⟨ad, _, e, rfl, by rw [block_of_add]; exact hb, hc0, next (by decide) hc1⟩
theorem Objs.words (h : Objs w B A n qs) {k : Nat} {q : Oq} (hk : qs[k]? = some q) : Ints w B q.addr q.vals.length q.vals ∧ q.vals.length ≤ q.cap ∧ q.cap ≤ maxLen ∧ (q.addr = none → q.cap = 0) := h.2.2 q (List.mem_of_getElem? hk)
theorem Objs.keep (h : Objs w B A n qs) (hk : ∀ p : Addr, p.block < B → w'.cell? p = w.cell? p) : Objs w' B A n qs :=
  ⟨h.1, fun hn => by
    obtain ⟨ad, e, hb, hc⟩ := h.2.1 hn
    exact ⟨ad, e, hb, fun j u hu => (hk _ (by rw [block_of_add]; exact hb)).trans (hc j u hu)⟩, fun q hq => ⟨(h.2.2 q hq).1.keep hk, (h.2.2 q hq).2⟩⟩
theorem Objs.more (h : Objs w B A n qs) (hB : B ≤ B') : Objs w B' A n qs :=
  ⟨h.1, fun hn => by
    obtain ⟨ad, e, hb, hc⟩ := h.2.1 hn
    exact ⟨ad, e, by omega, hc⟩, fun q hq => ⟨(h.2.2 q hq).1.more hB, (h.2.2 q hq).2⟩⟩
theorem Objs.below {B2 : Nat} (h : Objs w B A n qs) (hb : Below B2 w w') (hB : B ≤ B2) : Objs w' B A n qs := h.keep fun _ hp => hb.cell (by omega)
theorem Objs.drewN (h : Objs w B A n qs) (k : Nat) : Objs (w.drewN k) B A n qs := h.keep fun _ _ => rfl
theorem Objs.alloc (h : Objs w B A n qs) (hB : B ≤ w.heap.size) (o : Obj) : Objs (w.alloc o) B A n qs := h.keep fun p hp => World.cell?_alloc_lt w o p (by omega)
theorem Objs.grown (h : Objs w B A n qs) {row : Option Nat} (hg : w.grownBy w' row) (hB : B ≤ w.heap.size) (hr : ∀ g, row = some g → B ≤ g) : Objs w' B A n qs :=
  h.keep fun p hp => World.cell?_of_block (hg.block p.block (by omega) (fun e => by have := hr _ e.symm; omega))
theorem Objs.firsts (h : Objs w B A n qs) {m : Nat} (hm : m ≤ n) : Objs w B A m (qs.take m) := by
  refine ⟨by rw [List.length_take, h.1]; omega, fun hn => ?_, fun q hq => h.2.2 q (List.mem_of_mem_take hq)⟩
  obtain ⟨ad, e, hb, hc⟩ := h.2.1 (by omega)
  refine ⟨ad, e, hb, fun j u hu => hc j u ?_⟩
  have e2 : flatO qs = flatO (qs.take m) ++ flatO (qs.drop m) := by rw [← flatO_append, List.take_append_drop]
  rw [e2, List.getElem?_append_left (List.getElem?_eq_some_iff.1 hu).1]
  exact hu
/-- 's[k:]', 's[k:m]' -/
theorem Objs.cut (h : Objs w B A n qs) {k m cap : Nat} (hk : k ≤ m) (hm : m ≤ n) (hc : n ≤ cap) :
    Objs w B (if cap = k then A else A.map (·.add (k * 2))) (m - k) ((qs.take m).drop k) := by
  refine ⟨by rw [List.length_drop, List.length_take, h.1]; omega, fun hn => ?_, fun q hq => h.2.2 q (List.mem_of_mem_take (List.mem_of_mem_drop hq))⟩
  have h' := h.firsts hm
  obtain ⟨ad, rfl, hb, hcell⟩ := h'.2.1 (by omega)
  rw [if_neg (by omega)]
  refine ⟨ad.add (k * 2), rfl, by rw [block_of_add]; exact hb, fun j u hu => ?_⟩
  rw [add_of_add]
  rw [flatO_drop] at hu
  exact hcell _ _ hu
end

/-! ### A store that the call owns -/
structure OwnO (w : World) (base : Nat) (A : Option Addr) (n c : Nat) (qs : List Oq) : Prop where
  len : qs.length = n
  row : w.ownsRow base 69 2 (.slice A n c) n (flatO qs)
  own : ∀ (k : Nat) (q : Oq), qs[k]? = some q → Own w base q.addr q.vals.length q.cap q.vals
  sep : ∀ (i j : Nat) (q r : Oq), qs[i]? = some q → qs[j]? = some r → i ≠ j → ∀ g, q.sl.ownBlock = some g → r.sl.ownBlock ≠ some g

theorem rows_neO {w : World} {b b' t t' s s' n n' : Nat} {v v' : Value} {xs ys : List Value} (h : w.ownsRow b t s v n xs) (h' : w.ownsRow b' t' s' v' n' ys) (ht : t ≠ t') {g : Nat} (hv : v.ownBlock = some g) : v'.ownBlock ≠ some g := by
  intro hv'
  rcases h.2 with ⟨rfl, _⟩ | ⟨g1, cap1, cur1, rfl, _, hh, _⟩
  · simp [Value.ownBlock] at hv
  · rcases h'.2 with ⟨rfl, _⟩ | ⟨g2, cap2, cur2, rfl, _, hh', _⟩
    · simp [Value.ownBlock] at hv'
    · simp [Value.ownBlock] at hv hv'
      subst hv hv'
      rw [hh] at hh'
      simp at hh'
      exact ht hh'.2
theorem Own.nilcap {w : World} {base n c : Nat} {A : Option Addr} {xs : List Int} (h : Own w base A n c xs) (hA : A = none) : c = 0 := by
  rcases h.2.2 with ⟨hv, h0⟩ | ⟨g, cap, cur, hv, hb, hh, hc, hm, hs, ht⟩
  · injection hv
  · injection hv with h1; rw [hA] at h1; cases h1

section
variable {w w' : World} {base n c : Nat} {A : Option Addr} {qs : List Oq}
theorem OwnO.cap (h : OwnO w base A n c qs) : n ≤ c ∧ c ≤ maxLen := by
  rcases h.row.2 with ⟨hv, h0⟩ | ⟨g, cap, cur, hv, hb, hh, hc, hm, hs, ht⟩
  · injection hv with _ h1 h2; subst h1; subst h2; exact ⟨Nat.le_refl _, Nat.zero_le _⟩
  · injection hv with _ _ h2; subst h2; exact ⟨hc, hm⟩
theorem OwnO.shape (h : OwnO w base A n c qs) (hn : 0 < n) : ∃ g, A = some ⟨g, 0, none⟩ ∧ base ≤ g ∧ g < w.heap.size := by
  rcases h.row.2 with ⟨hv, h0⟩ | ⟨g, cap, cur, hv, hb, hh, hc, hm, hs, ht⟩
  · omega
  · injection hv with h1; exact ⟨g, h1, hb, (Array.getElem?_eq_some_iff.1 hh).1⟩
theorem OwnO.nilcap (h : OwnO w base A n c qs) (hA : A = none) : n = 0 ∧ c = 0 := by
  rcases h.row.2 with ⟨hv, h0⟩ | ⟨g, cap, cur, hv, hb, hh, hc, hm, hs, ht⟩
  · injection hv with _ h1 h2; exact ⟨h1, h2⟩
  · injection hv with h1; rw [hA] at h1; cases h1
theorem OwnO.block (h : OwnO w base A n c qs) : ∀ k, (Value.slice A n c).ownBlock = some k → base ≤ k ∧ k < w.heap.size := h.row.lt
theorem OwnO.wblock (h : OwnO w base A n c qs) {k : Nat} {q : Oq} (hk : qs[k]? = some q) : ∀ g, q.sl.ownBlock = some g → base ≤ g ∧ g < w.heap.size := (h.own k q hk).block
/-- values lie elsewhere than objects -/
theorem OwnO.far (h : OwnO w base A n c qs) {k : Nat} {q : Oq} (hk : qs[k]? = some q) {g : Nat} (hg : (Value.slice A n c).ownBlock = some g) : q.sl.ownBlock ≠ some g :=
  rows_neO h.row (h.own k q hk).2 (by decide) hg
theorem OwnO.objs (h : OwnO w base A n c qs) : Objs w w.heap.size A n qs := by
  refine ⟨h.len, fun hn => ?_, fun q hq => ?_⟩
  · obtain ⟨g, rfl, hb, hl⟩ := h.shape hn
    exact ⟨_, rfl, hl, fun j u hu => h.row.cells rfl j u hu⟩
  · obtain ⟨k, hk⟩ := List.getElem?_of_mem hq
    exact ⟨(h.own k q hk).ints, (h.own k q hk).cap.1, (h.own k q hk).cap.2, (h.own k q hk).nilcap⟩
theorem OwnO.kept {row : Option Nat} (h : OwnO w base A n c qs) (hg : w.grownBy w' row) (hne : ∀ g, row = some g → (Value.slice A n c).ownBlock ≠ some g ∧ ∀ (k : Nat) (q : Oq), qs[k]? = some q → q.sl.ownBlock ≠ some g) : OwnO w' base A n c qs :=
  ⟨h.len, h.row.kept hg (by
    rcases hv : (Value.slice A n c).ownBlock with _ | g
    · exact .inl rfl
    · right; intro e; exact (hne g e.symm).1 hv), fun k q hk => (h.own k q hk).kept hg (fun g hr => (hne g hr).2 k q hk), h.sep⟩
theorem OwnO.below (h : OwnO w base A n c qs) (hg : Below w.heap.size w w') : OwnO w' base A n c qs := h.kept (grown_of_below hg none) (by simp)
theorem OwnO.alloc (h : OwnO w base A n c qs) (o : Obj) : OwnO (w.alloc o) base A n c qs := ⟨h.len, h.row.alloc o, fun k q hk => (h.own k q hk).alloc o, h.sep⟩
theorem OwnO.drewN (h : OwnO w base A n c qs) (k : Nat) : OwnO (w.drewN k) base A n c qs := ⟨h.len, h.row, fun j q hj => (h.own j q hj).drewN k, h.sep⟩
theorem OwnO.nil_ (w : World) (base : Nat) : OwnO w base none 0 0 [] := ⟨rfl, World.ownsRow_nil _ _ _ _, by simp, by simp⟩
theorem OwnO.mono {b' : Nat} (h : OwnO w base A n c qs) (hb : b' ≤ base) : OwnO w b' A n c qs := by
  refine ⟨h.len, ⟨h.row.1, ?_⟩, fun k q hk => (h.own k q hk).mono hb, h.sep⟩
  rcases h.row.2 with h0 | ⟨g, cap, cur, hv, hb', r⟩
  · exact .inl h0
  · exact .inr ⟨g, cap, cur, hv, by omega, r⟩
theorem OwnO.lit0 (w : World) (base : Nat) (hb : base ≤ w.heap.size) : OwnO (w.alloc (.cells #[] 69)) base (some ⟨w.heap.size, 0, none⟩) 0 0 [] := by
  refine ⟨rfl, ?_, by simp, by simp⟩
  have := World.ownsRow_lit (base := base) (e := 69) (size := 2) w #[] 0 hb (Nat.zero_le _) (by simp)
  simpa [flatO] using this
theorem OwnO.free {g j : Nat} (h : OwnO w base (some ⟨g, 0, none⟩) n c qs) : w.frozen? ⟨g, j, none⟩ = false := h.row.frozenAt j
end

/-! ### append of objects -/
theorem run_append_vals' {T t : TypeId} {s bytes : Nat} {z : Value} (hT : RT T t s bytes z) (w : World) (base n c m d : Nat) (A : Option Addr) (ad : Addr) (vs us : List Value) (ty : TypeId) (hown : w.ownsRow base t s (.slice A n c) n vs)
    (hu : us.length = m * s) (hone : ∀ u ∈ us, u.oneCell' = true) (hr : ∀ j u, us[j]? = some u → w.cell? (ad.add j) = some u) (hnm : n + m ≤ 1000000000000) (hbase : base ≤ w.heap.size) :
    ∃ A2 c2 w', (Builtin.append_ #[T, T] ty #[.slice A n c, .slice (some ad) m d]).run Try.prog w = .ok (.slice A2 (n + m) c2) w' ∧ w'.ownsRow base t s (.slice A2 (n + m) c2) (n + m) (vs ++ us) ∧
      w.grownBy w' (Value.slice A n c).ownBlock ∧ ((Value.slice A2 (n + m) c2).ownBlock = (Value.slice A n c).ownBlock ∨ (Value.slice A2 (n + m) c2).ownBlock = some w.heap.size) := by
  obtain ⟨i0, hi, hz0, hz1, hz2⟩ := info_parts hT.info
  obtain ⟨v', w', hrun, h2, h3, _, h5⟩ := run_append_own_at (P := Try.prog) w base T ty t i0 z s bytes hT.und hi hz0 hz1 hz2 hT.zs hT.pos
    (.slice A n c) n vs hown ad m d us hu hr hone
    (by unfold maxLen; omega) (Nat.le_trans (Nat.mul_le_mul hnm hT.small) (by decide)) hbase
  obtain ⟨A2, c2, rfl⟩ := slice_of_own h2
  exact ⟨A2, c2, w', hrun, h2, h3, h5⟩

theorem objT : RT 25 69 2 32 (.agg #[.int .i64 0, .slice none 0 0]) := ⟨Try.underlying25, by kernel_rfl, by decide, by decide, by decide⟩

/-- 'append(out, qs2...)', each with values of its own -/
theorem run_append_objs (w : World) (base n c m d : Nat) (A X : Option Addr) (qs q2 : List Oq) (ty : TypeId) (hown : OwnO w base A n c qs)
    (hl : q2.length = m) (hr : 0 < m → ∃ ad, X = some ad ∧ ∀ j u, (flatO q2)[j]? = some u → w.cell? (ad.add j) = some u) (hq : ∀ (k : Nat) (q : Oq), q2[k]? = some q → Own w base q.addr q.vals.length q.cap q.vals)
    (hsep2 : ∀ (i j : Nat) (q r : Oq), q2[i]? = some q → q2[j]? = some r → i ≠ j → ∀ g, q.sl.ownBlock = some g → r.sl.ownBlock ≠ some g)
    (hsep : ∀ (k j : Nat) (r q : Oq), qs[k]? = some r → q2[j]? = some q → ∀ g, r.sl.ownBlock = some g → q.sl.ownBlock ≠ some g)
    (hn : n + m ≤ 100000000000) (hbase : base ≤ w.heap.size) :
    ∃ A2 c2 w', (Builtin.append_ #[25, 25] ty #[.slice A n c, .slice X m d]).run Try.prog w = .ok (.slice A2 (n + m) c2) w' ∧ OwnO w' base A2 (n + m) c2 (qs ++ q2) ∧
      w.grownBy w' (Value.slice A n c).ownBlock ∧ ((Value.slice A2 (n + m) c2).ownBlock = (Value.slice A n c).ownBlock ∨ (Value.slice A2 (n + m) c2).ownBlock = some w.heap.size) := by
  have key : ∀ A2 c2 w', w'.ownsRow base 69 2 (.slice A2 (n + m) c2) (n + m) (flatO qs ++ flatO q2) → w.grownBy w' (Value.slice A n c).ownBlock → OwnO w' base A2 (n + m) c2 (qs ++ q2) := by
    intro A2 c2 w' h2 h3
    rw [← flatO_append] at h2
    have get : ∀ {k r}, (qs ++ q2)[k]? = some r → (k < n ∧ qs[k]? = some r) ∨ (n ≤ k ∧ q2[k - n]? = some r) := by
      intro k r hk
      rcases Nat.lt_or_ge k qs.length with h | h
      · exact .inl ⟨by rw [← hown.len]; exact h, by rwa [List.getElem?_append_left h] at hk⟩
      · rw [List.getElem?_append_right h, hown.len] at hk
        exact .inr ⟨by rw [← hown.len]; exact h, hk⟩
    refine ⟨by simp [hown.len, hl], h2, fun k r hk => ?_, fun i j r r' hi hj hij g hg => ?_⟩
    · rcases get hk with ⟨_, hk⟩ | ⟨_, hk⟩
      · exact (hown.own k r hk).kept h3 (fun g hg => hown.far hk hg)
      · exact (hq _ _ hk).kept h3 (fun g hg => rows_neO hown.row (hq _ _ hk).2 (by decide) hg)
    · rcases get hi with ⟨li, hi'⟩ | ⟨li, hi'⟩
      · rcases get hj with ⟨lj, hj'⟩ | ⟨lj, hj'⟩
        · exact hown.sep i j r r' hi' hj' hij g hg
        · exact hsep _ _ _ _ hi' hj' g hg
      · rcases get hj with ⟨lj, hj'⟩ | ⟨lj, hj'⟩
        · intro h
          exact hsep _ _ _ _ hj' hi' g h hg
        · exact hsep2 _ _ _ _ hi' hj' (by omega) g hg
  rcases X with _ | ad
  · have hm : m = 0 := by
      rcases Nat.eq_zero_or_pos m with h | h
      · exact h
      · obtain ⟨ad, h', _⟩ := hr h
        cases h'
    subst hm
    obtain rfl : q2 = [] := List.eq_nil_of_length_eq_zero hl
    obtain ⟨i0, hi, hz0, hz1, hz2⟩ := info_parts objT.info
    exact ⟨A, c, w, run_append_of_nil w base 25 ty 69 i0 2 objT.und hi _ n _ hown.row d, by simpa using hown, World.grownBy.refl w _, .inl rfl⟩
  · have hc : ∀ j u, (flatO q2)[j]? = some u → w.cell? (ad.add j) = some u := by
      intro j u hu
      rcases Nat.eq_zero_or_pos m with h | h
      · obtain rfl : q2 = [] := List.eq_nil_of_length_eq_zero (by rw [hl, h])
        simp [flatO] at hu
      · obtain ⟨ad', e, hc⟩ := hr h
        injection e with e
        subst e
        exact hc j u hu
    obtain ⟨A2, c2, w', hrun, h2, h3, h4⟩ := run_append_vals' objT w base n c m d A ad (flatO qs) (flatO q2) ty hown.row (by rw [flatO_length, hl]) (flatO_one _) hc (by omega) hbase
    exact ⟨A2, c2, w', hrun, key A2 c2 w' h2 h3, h3, h4⟩

/-- what an append of objects asks and gives -/
structure News (w : World) (base n : Nat) (A : Option Addr) (c : Nat) (qs : List Oq) (X : Option Addr) (m : Nat) (q2 : List Oq) : Prop where
  own : OwnO w base A n c qs
  len : q2.length = m
  src : 0 < m → ∃ ad, X = some ad ∧ ∀ j u, (flatO q2)[j]? = some u → w.cell? (ad.add j) = some u
  news : ∀ (k : Nat) (q : Oq), q2[k]? = some q → Own w base q.addr q.vals.length q.cap q.vals
  sep2 : ∀ (i j : Nat) (q r : Oq), q2[i]? = some q → q2[j]? = some r → i ≠ j → ∀ g, q.sl.ownBlock = some g → r.sl.ownBlock ≠ some g
  sep : ∀ (k j : Nat) (r q : Oq), qs[k]? = some r → q2[j]? = some q → ∀ g, r.sl.ownBlock = some g → q.sl.ownBlock ≠ some g

theorem wp_append_objs {w : World} {o : Oper} {a : Act} {K : Act → World → Prop} {Q : Exit → Act → World → Prop} (s x : Operand)
    (ho : o.op = .call { callee := .builtin .append, args := #[s, x], argTypes := #[25, 25] })
    (base n c m d : Nat) (A X : Option Addr) (qs q2 : List Oq) (hs : a.eval s = .slice A n c) (hx : a.eval x = .slice X m d) (hnew : News w base n A c qs X m q2)
    (hn : n + m ≤ 100000000000) (hbase : base ≤ w.heap.size)
    (h : ∀ A2 c2 w', OwnO w' base A2 (n + m) c2 (qs ++ q2) → w.grownBy w' (Value.slice A n c).ownBlock →
      ((Value.slice A2 (n + m) c2).ownBlock = (Value.slice A n c).ownBlock ∨ (Value.slice A2 (n + m) c2).ownBlock = some w.heap.size) → K (a.put o.dst (.slice A2 (n + m) c2)) w') : o.wp Try.prog a w K Q := by
  obtain ⟨A2, c2, w', hrun, h2, h3, h4⟩ := run_append_objs w base n c m d A X qs q2 o.type hnew.own hnew.len hnew.src hnew.news hnew.sep2 hnew.sep hn hbase
  unfold Oper.wp execOp
  simp only [ho, resolve, invoke, builtin, Sem.run_bind, Sem.run_pure, Result.andThen_ok, List.map_toArray, List.map_cons, List.map_nil, hs, hx, hrun]
  exact h A2 c2 w' h2 h3 h4

theorem wpList_append_objs {w : World} {ops : Array Oper} {rest : List Oper} {o : Oper} {a : Act} {Q : Exit → Act → World → Prop} (hgd : o.guard = none) (s x : Operand)
    (ho : o.op = .call { callee := .builtin .append, args := #[s, x], argTypes := #[25, 25] })
    (base n c m d : Nat) (A X : Option Addr) (qs q2 : List Oq) (hs : a.eval s = .slice A n c) (hx : a.eval x = .slice X m d) (hnew : News w base n A c qs X m q2)
    (hn : n + m ≤ 100000000000) (hbase : base ≤ w.heap.size)
    (h : ∀ A2 c2 w', OwnO w' base A2 (n + m) c2 (qs ++ q2) → w.grownBy w' (Value.slice A n c).ownBlock →
      ((Value.slice A2 (n + m) c2).ownBlock = (Value.slice A n c).ownBlock ∨ (Value.slice A2 (n + m) c2).ownBlock = some w.heap.size) → wpList Try.prog ops Q rest (a.put o.dst (.slice A2 (n + m) c2)) w') :
    wpList Try.prog ops Q (o :: rest) a w :=
  wpList_plain hgd fun _ hK => wp_append_objs s x ho base n c m d A X qs q2 hs hx hnew hn hbase fun A2 c2 w' h2 h3 h4 => hK _ _ (h A2 c2 w' h2 h3 h4)

theorem step_append_objs {w : World} {ops : Array Oper} {o : Oper} {a : Act} {K : Act → World → Prop} {Q : Exit → Act → World → Prop} {E : Prop} (hgd : o.guard = none) (s x : Operand)
    (ho : o.op = .call { callee := .builtin .append, args := #[s, x], argTypes := #[25, 25] })
    (base n c m d : Nat) (A X : Option Addr) (qs q2 : List Oq) (hs : a.eval s = .slice A n c) (hx : a.eval x = .slice X m d) (hnew : News w base n A c qs X m q2)
    (hn : n + m ≤ 100000000000) (hbase : base ≤ w.heap.size)
    (h : ∀ A2 c2 w', OwnO w' base A2 (n + m) c2 (qs ++ q2) → w.grownBy w' (Value.slice A n c).ownBlock →
      ((Value.slice A2 (n + m) c2).ownBlock = (Value.slice A n c).ownBlock ∨ (Value.slice A2 (n + m) c2).ownBlock = some w.heap.size) → K (a.put o.dst (.slice A2 (n + m) c2)) w') :
    if Region.wanted o (yielded ops a.tmps) = true then Oper.wp Try.prog o a w K Q else E := by
  have hw : Region.wanted o (yielded ops a.tmps) = true := by simp [Region.wanted, hgd]
  rw [if_pos hw]
  exact wp_append_objs s x ho base n c m d A X qs q2 hs hx hnew hn hbase h

/-- one new object in a block of its own -/
theorem obj_cells (w : World) (q : Oq) : ∀ j u, q.cells[j]? = some u → (w.alloc (.cells #[.int .i64 q.id, q.sl] 69)).cell? (Addr.add ⟨w.heap.size, 0, none⟩ j) = some u := by
  intro j u hu
  rw [add_plain', (Blk.new w 69 #[.int .i64 q.id, q.sl]).cell j]
  rcases j with _ | _ | j
  · exact hu
  · exact hu
  · simp [Oq.cells] at hu
theorem News.one {w : World} {base n c : Nat} {A : Option Addr} {qs : List Oq} {q : Oq} {ad : Addr} (hown : OwnO w base A n c qs) (hr : ∀ j u, q.cells[j]? = some u → w.cell? (ad.add j) = some u)
    (hq : Own w base q.addr q.vals.length q.cap q.vals) (hsep : ∀ (k : Nat) (r : Oq), qs[k]? = some r → ∀ g, r.sl.ownBlock = some g → q.sl.ownBlock ≠ some g) : News w base n A c qs (some ad) 1 [q] := by
  have one : ∀ {j : Nat} {r : Oq}, [q][j]? = some r → j = 0 ∧ r = q := by
    intro j r h
    rcases j with _ | j
    · simp at h; exact ⟨rfl, h.symm⟩
    · simp at h
  refine ⟨hown, rfl, fun _ => ⟨ad, rfl, hr⟩, fun k r hk => ?_, fun i j r r' hi hj hij => ?_, fun k j r r' hk hj g hg => ?_⟩
  · obtain ⟨_, rfl⟩ := one hk; exact hq
  · exact absurd ((one hi).1.trans (one hj).1.symm) hij
  · obtain ⟨_, rfl⟩ := one hj; exact hsep k r hk g hg
/-- the objects of a row of the call's own that lies behind the first -/
theorem News.row {w w' : World} {base n c m d : Nat} {A X : Option Addr} {qs q2 : List Oq} (hown : OwnO w base A n c qs) (h2 : OwnO w' w.heap.size X m d q2) (hb : Below w.heap.size w w') (hbase : base ≤ w.heap.size) : News w' base n A c qs X m q2 := by
  refine ⟨hown.below hb, h2.len, fun hm => ?_, fun k q hk => (h2.own k q hk).mono hbase, h2.sep, fun k j r q hk hj g hg e => ?_⟩
  · obtain ⟨g, rfl, _, _⟩ := h2.shape hm
    exact ⟨_, rfl, fun j u hu => h2.row.cells rfl j u hu⟩
  · have h3 := (hown.wblock hk g hg).2
    have h4 := (h2.wblock hj g e).1
    omega
end Go.Proofs.Ytfianpjoifcphaa
