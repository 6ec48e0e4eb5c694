/-
  Frames that were found: a slice of these is read as the list of its frames ('Fnds'); a row of the call's own, each with a body of its own: 'OwnF'. Plain.
-/
import Derived.Test.YtfianpjoifcphaaGreatG1
namespace Go.Proofs.YtfianpjoifcphaaGreat
open Go.RowKit
set_option linter.unusedVariables false
set_option maxRecDepth 100000

/-- A frame that was found: zone, word, kind, number, body; and where its body lies. -/
structure Fq where
  zone : Int
  word : Int
  kind : Int
  seq : Int
  vals : List Int
  addr : Option Addr
  cap : Nat
/-- as the document sees it: zone, word, kind, number, body -/
abbrev Fn := Int × Int × Int × Int × List Int
def Fq.fn (q : Fq) : Fn := (q.zone, q.word, q.kind, q.seq, q.vals)
def Fq.sl (q : Fq) : Value := .slice q.addr q.vals.length q.cap
def Fq.cells (q : Fq) : List Value := [.int .i64 q.zone, .int .i64 q.word, .int .i64 q.kind, .int .i64 q.seq, q.sl]
def flatF : List Fq → List Value
  | [] => []
  | q :: qs => .int .i64 q.zone :: .int .i64 q.word :: .int .i64 q.kind :: .int .i64 q.seq :: q.sl :: flatF qs
def fns (qs : List Fq) : List Fn := qs.map Fq.fn

theorem flatF_length (qs : List Fq) : (flatF qs).length = qs.length * 5 := by
  induction qs with
  | nil => rfl
  | cons q qs ih => simp only [flatF, List.length_cons, ih]; omega
theorem flatF_append (qs rs : List Fq) : flatF (qs ++ rs) = flatF qs ++ flatF rs := by
  induction qs with
  | nil => rfl
  | cons q qs ih => simp only [flatF, List.cons_append, ih]
theorem flatF_get {qs : List Fq} {k : Nat} {q : Fq} (h : qs[k]? = some q) (j : Nat) (hj : j < 5) : (flatF qs)[k * 5 + j]? = q.cells[j]? := by
  induction qs generalizing k with
  | nil => simp at h
  | cons r qs ih =>
    rcases k with _ | k
    · simp at h
      subst h
      rcases j with _ | _ | _ | _ | _ | j
      · rfl
      · rfl
      · rfl
      · rfl
      · rfl
      · omega
    · simp at h
      have := ih h
      rw [show (k + 1) * 5 + j = (k * 5 + j) + 1 + 1 + 1 + 1 + 1 by omega]
      simpa [flatF] using this
theorem flatF_set {qs : List Fq} {k : Nat} {q q' : Fq} (h : qs[k]? = some q) (j : Nat) (v : Value) (hj : j < 5) (hv : q'.cells = q.cells.set j v) : (flatF qs).set (k * 5 + j) v = flatF (qs.set k q') := by
  induction qs generalizing k with
  | nil => simp at h
  | cons r qs ih =>
    rcases k with _ | k
    · simp at h
      subst h
      obtain ⟨h0, h1, h2, h3, h4⟩ : (.int .i64 q'.zone : Value) = (r.cells.set j v).getD 0 (.bool false) ∧ (.int .i64 q'.word : Value) = (r.cells.set j v).getD 1 (.bool false) ∧ (.int .i64 q'.kind : Value) = (r.cells.set j v).getD 2 (.bool false) ∧
          (.int .i64 q'.seq : Value) = (r.cells.set j v).getD 3 (.bool false) ∧ q'.sl = (r.cells.set j v).getD 4 (.bool false) := by
        rw [← hv]
        exact ⟨rfl, rfl, rfl, rfl, rfl⟩
      simp only [List.set_cons_zero, flatF]
      rw [h0, h1, h2, h3, h4]
      rcases j with _ | _ | _ | _ | _ | j
      · rfl
      · rfl
      · rfl
      · rfl
      · rfl
      · omega
    · simp at h
      have := ih h
      rw [show (k + 1) * 5 + j = (k * 5 + j) + 1 + 1 + 1 + 1 + 1 by omega]
      simpa [flatF] using this
theorem flatF_one (qs : List Fq) : ∀ u ∈ flatF qs, u.oneCell' = true := by
  induction qs with
  | nil => simp [flatF]
  | cons q qs ih =>
    intro u hu
    simp only [flatF, List.mem_cons] at hu
    rcases hu with rfl | rfl | rfl | rfl | rfl | hu
    · rfl
    · rfl
    · rfl
    · rfl
    · rfl
    · exact ih u hu
theorem flatF_drop (qs : List Fq) (k j : Nat) : (flatF (qs.drop k))[j]? = (flatF qs)[k * 5 + j]? := by
  induction k generalizing qs with
  | zero => simp
  | succ k ih =>
    rcases qs with _ | ⟨q, qs⟩
    · simp [flatF]
    · rw [List.drop_succ_cons, ih, show (k + 1) * 5 + j = (k * 5 + j) + 1 + 1 + 1 + 1 + 1 by omega]
      simp [flatF]

theorem fns_length (qs : List Fq) : (fns qs).length = qs.length := by unfold fns; rw [List.length_map]
theorem fns_get {qs : List Fq} {k : Nat} {q : Fq} (h : qs[k]? = some q) : (fns qs)[k]? = some q.fn := by unfold fns; rw [List.getElem?_map, h]; rfl
theorem fns_get_inv {qs : List Fq} {k : Nat} {z : Fn} (h : (fns qs)[k]? = some z) : ∃ q, qs[k]? = some q ∧ q.fn = z := by
  unfold fns at h
  rw [List.getElem?_map] at h
  rcases h2 : qs[k]? with _ | q
  · rw [h2] at h; cases h
  · rw [h2] at h; exact ⟨q, rfl, by injection h⟩
theorem fns_append (qs rs : List Fq) : fns (qs ++ rs) = fns qs ++ fns rs := by unfold fns; rw [List.map_append]
theorem fns_take (qs : List Fq) (k : Nat) : fns (qs.take k) = (fns qs).take k := by unfold fns; rw [List.map_take]
theorem fns_drop (qs : List Fq) (k : Nat) : fns (qs.drop k) = (fns qs).drop k := by unfold fns; rw [List.map_drop]

/-! ### A store that can be read -/
def Fnds (w : World) (B : Nat) (A : Option Addr) (n : Nat) (qs : List Fq) : Prop :=
  qs.length = n ∧ (0 < n → ∃ ad, A = some ad ∧ ad.block < B ∧ ∀ j u, (flatF qs)[j]? = some u → w.cell? (ad.add j) = some u) ∧
    ∀ q ∈ qs, Ints w B q.addr q.vals.length q.vals ∧ q.vals.length ≤ q.cap ∧ q.cap ≤ maxLen ∧ (q.addr = none → q.cap = 0)
section
variable {w w' : World} {B B' n : Nat} {A : Option Addr} {qs : List Fq}
theorem Fnds.nil_ (w : World) (B : Nat) (A : Option Addr) : Fnds w B A 0 [] := ⟨rfl, fun h => absurd h (by omega), by simp⟩
theorem Fnds.at_ (h : Fnds w B A n qs) {k : Nat} {q : Fq} (hk : qs[k]? = some q) : ∃ ad p, A = some ad ∧ ad.add (k * 5) = p ∧ p.block < B ∧ w.cell? p = some (.int .i64 q.zone) ∧
    w.cell? ⟨p.block, p.off + 1, none⟩ = some (.int .i64 q.word) ∧ w.cell? ⟨p.block, p.off + 2, none⟩ = some (.int .i64 q.kind) ∧ w.cell? ⟨p.block, p.off + 3, none⟩ = some (.int .i64 q.seq) ∧ w.cell? ⟨p.block, p.off + 4, none⟩ = some q.sl := by
  have hl : k < n := by rw [← h.1]; exact (List.getElem?_eq_some_iff.1 hk).1
  obtain ⟨ad, e, hb, hc⟩ := h.2.1 (by omega)
  have hc0 := hc (k * 5 + 0) _ (by rw [flatF_get hk 0 (by omega)]; rfl)
  have hc1 := hc (k * 5 + 1) _ (by rw [flatF_get hk 1 (by omega)]; rfl)
  have hc2 := hc (k * 5 + 2) _ (by rw [flatF_get hk 2 (by omega)]; rfl)
  have hc3 := hc (k * 5 + 3) _ (by rw [flatF_get hk 3 (by omega)]; rfl)
  have hc4 := hc (k * 5 + 4) _ (by rw [flatF_get hk 4 (by omega)]; rfl)
  have next : ∀ {i : Nat} {v : Value}, i ≠ 0 → w.cell? (ad.add (k * 5 + i)) = some v → w.cell? ⟨(ad.add (k * 5)).block, (ad.add (k * 5)).off + i, none⟩ = some v := by
    intro i v hi h
    rw [← add_of_add] at h
    simpa [Addr.add, hi] using h
  exact ⟨ad, _, e, rfl, by rw [block_of_add]; exact hb, hc0, next (by decide) hc1, next (by decide) hc2, next (by decide) hc3, next (by decide) hc4⟩
theorem Fnds.words (h : Fnds w B A n qs) {k : Nat} {q : Fq} (hk : qs[k]? = some q) : Ints w B q.addr q.vals.length q.vals ∧ q.vals.length ≤ q.cap ∧ q.cap ≤ maxLen ∧ (q.addr = none → q.cap = 0) := h.2.2 q (List.mem_of_getElem? hk)
theorem Fnds.keep (h : Fnds w B A n qs) (hk : ∀ p : Addr, p.block < B → w'.cell? p = w.cell? p) : Fnds w' B A n qs :=
  ⟨h.1, fun hn => by
    obtain ⟨ad, e, hb, hc⟩ := h.2.1 hn
    exact ⟨ad, e, hb, fun j u hu => (hk _ (by rw [block_of_add]; exact hb)).trans (hc j u hu)⟩, fun q hq => ⟨(h.2.2 q hq).1.keep hk, (h.2.2 q hq).2⟩⟩
theorem Fnds.more (h : Fnds w B A n qs) (hB : B ≤ B') : Fnds w B' A n qs :=
  ⟨h.1, fun hn => by
    obtain ⟨ad, e, hb, hc⟩ := h.2.1 hn
    exact ⟨ad, e, by omega, hc⟩, fun q hq => ⟨(h.2.2 q hq).1.more hB, (h.2.2 q hq).2⟩⟩
theorem Fnds.below {B2 : Nat} (h : Fnds w B A n qs) (hb : Below B2 w w') (hB : B ≤ B2) : Fnds w' B A n qs := h.keep fun _ hp => hb.cell (by omega)
theorem Fnds.drewN (h : Fnds w B A n qs) (k : Nat) : Fnds (w.drewN k) B A n qs := h.keep fun _ _ => rfl
theorem Fnds.alloc (h : Fnds w B A n qs) (hB : B ≤ w.heap.size) (o : Obj) : Fnds (w.alloc o) B A n qs := h.keep fun p hp => World.cell?_alloc_lt w o p (by omega)
theorem Fnds.grown (h : Fnds w B A n qs) {row : Option Nat} (hg : w.grownBy w' row) (hB : B ≤ w.heap.size) (hr : ∀ g, row = some g → B ≤ g) : Fnds w' B A n qs :=
  h.keep fun p hp => World.cell?_of_block (hg.block p.block (by omega) (fun e => by have := hr _ e.symm; omega))
theorem Fnds.firsts (h : Fnds w B A n qs) {m : Nat} (hm : m ≤ n) : Fnds w B A m (qs.take m) := by
  refine ⟨by rw [List.length_take, h.1]; omega, fun hn => ?_, fun q hq => h.2.2 q (List.mem_of_mem_take hq)⟩
  obtain ⟨ad, e, hb, hc⟩ := h.2.1 (by omega)
  refine ⟨ad, e, hb, fun j u hu => hc j u ?_⟩
  have e2 : flatF qs = flatF (qs.take m) ++ flatF (qs.drop m) := by rw [← flatF_append, List.take_append_drop]
  rw [e2, List.getElem?_append_left (List.getElem?_eq_some_iff.1 hu).1]
  exact hu
/-- 's[k:]', 's[k:m]' -/
theorem Fnds.cut (h : Fnds w B A n qs) {k m cap : Nat} (hk : k ≤ m) (hm : m ≤ n) (hc : n ≤ cap) :
    Fnds w B (if cap = k then A else A.map (·.add (k * 5))) (m - k) ((qs.take m).drop k) := by
  refine ⟨by rw [List.length_drop, List.length_take, h.1]; omega, fun hn => ?_, fun q hq => h.2.2 q (List.mem_of_mem_take (List.mem_of_mem_drop hq))⟩
  have h' := h.firsts hm
  obtain ⟨ad, rfl, hb, hcell⟩ := h'.2.1 (by omega)
  rw [if_neg (by omega)]
  refine ⟨ad.add (k * 5), rfl, by rw [block_of_add]; exact hb, fun j u hu => ?_⟩
  rw [add_of_add]
  rw [flatF_drop] at hu
  exact hcell _ _ hu
end

/-! ### A store that the call owns -/
structure OwnF (w : World) (base : Nat) (A : Option Addr) (n c : Nat) (qs : List Fq) : Prop where
  len : qs.length = n
  row : w.ownsRow base 156 5 (.slice A n c) n (flatF qs)
  own : ∀ (k : Nat) (q : Fq), qs[k]? = some q → Own w base q.addr q.vals.length q.cap q.vals
  sep : ∀ (i j : Nat) (q r : Fq), qs[i]? = some q → qs[j]? = some r → i ≠ j → ∀ g, q.sl.ownBlock = some g → r.sl.ownBlock ≠ some g

theorem rows_neF {w : World} {b b' t t' s s' n n' : Nat} {v v' : Value} {xs ys : List Value} (h : w.ownsRow b t s v n xs) (h' : w.ownsRow b' t' s' v' n' ys) (ht : t ≠ t') {g : Nat} (hv : v.ownBlock = some g) : v'.ownBlock ≠ some g := by
  intro hv'
  rcases h.2 with ⟨rfl, _⟩ | ⟨g1, cap1, cur1, rfl, _, hh, _⟩
  · simp [Value.ownBlock] at hv
  · rcases h'.2 with ⟨rfl, _⟩ | ⟨g2, cap2, cur2, rfl, _, hh', _⟩
    · simp [Value.ownBlock] at hv'
    · simp [Value.ownBlock] at hv hv'
      subst hv hv'
      rw [hh] at hh'
      simp at hh'
      exact ht hh'.2
theorem Own.nilcapF {w : World} {base n c : Nat} {A : Option Addr} {xs : List Int} (h : Own w base A n c xs) (hA : A = none) : c = 0 := by
  rcases h.2.2 with ⟨hv, h0⟩ | ⟨g, cap, cur, hv, hb, hh, hc, hm, hs, ht⟩
  · injection hv
  · injection hv with h1; rw [hA] at h1; cases h1

section
variable {w w' : World} {base n c : Nat} {A : Option Addr} {qs : List Fq}
theorem OwnF.cap (h : OwnF w base A n c qs) : n ≤ c ∧ c ≤ maxLen := by
  rcases h.row.2 with ⟨hv, h0⟩ | ⟨g, cap, cur, hv, hb, hh, hc, hm, hs, ht⟩
  · injection hv with _ h1 h2; subst h1; subst h2; exact ⟨Nat.le_refl _, Nat.zero_le _⟩
  · injection hv with _ _ h2; subst h2; exact ⟨hc, hm⟩
theorem OwnF.shape (h : OwnF w base A n c qs) (hn : 0 < n) : ∃ g, A = some ⟨g, 0, none⟩ ∧ base ≤ g ∧ g < w.heap.size := by
  rcases h.row.2 with ⟨hv, h0⟩ | ⟨g, cap, cur, hv, hb, hh, hc, hm, hs, ht⟩
  · omega
  · injection hv with h1; exact ⟨g, h1, hb, (Array.getElem?_eq_some_iff.1 hh).1⟩
theorem OwnF.nilcap (h : OwnF w base A n c qs) (hA : A = none) : n = 0 ∧ c = 0 := by
  rcases h.row.2 with ⟨hv, h0⟩ | ⟨g, cap, cur, hv, hb, hh, hc, hm, hs, ht⟩
  · injection hv with _ h1 h2; exact ⟨h1, h2⟩
  · injection hv with h1; rw [hA] at h1; cases h1
theorem OwnF.block (h : OwnF w base A n c qs) : ∀ k, (Value.slice A n c).ownBlock = some k → base ≤ k ∧ k < w.heap.size := h.row.lt
theorem OwnF.wblock (h : OwnF w base A n c qs) {k : Nat} {q : Fq} (hk : qs[k]? = some q) : ∀ g, q.sl.ownBlock = some g → base ≤ g ∧ g < w.heap.size := (h.own k q hk).block
/-- values lie elsewhere than objects -/
theorem OwnF.far (h : OwnF w base A n c qs) {k : Nat} {q : Fq} (hk : qs[k]? = some q) {g : Nat} (hg : (Value.slice A n c).ownBlock = some g) : q.sl.ownBlock ≠ some g :=
  rows_neF h.row (h.own k q hk).2 (by decide) hg
theorem OwnF.fnds (h : OwnF w base A n c qs) : Fnds w w.heap.size A n qs := by
  refine ⟨h.len, fun hn => ?_, fun q hq => ?_⟩
  · obtain ⟨g, rfl, hb, hl⟩ := h.shape hn
    exact ⟨_, rfl, hl, fun j u hu => h.row.cells rfl j u hu⟩
  · obtain ⟨k, hk⟩ := List.getElem?_of_mem hq
    exact ⟨(h.own k q hk).ints, (h.own k q hk).cap.1, (h.own k q hk).cap.2, (h.own k q hk).nilcapF⟩
theorem OwnF.kept {row : Option Nat} (h : OwnF w base A n c qs) (hg : w.grownBy w' row) (hne : ∀ g, row = some g → (Value.slice A n c).ownBlock ≠ some g ∧ ∀ (k : Nat) (q : Fq), qs[k]? = some q → q.sl.ownBlock ≠ some g) : OwnF w' base A n c qs :=
  ⟨h.len, h.row.kept hg (by
    rcases hv : (Value.slice A n c).ownBlock with _ | g
    · exact .inl rfl
    · right; intro e; exact (hne g e.symm).1 hv), fun k q hk => (h.own k q hk).kept hg (fun g hr => (hne g hr).2 k q hk), h.sep⟩
theorem OwnF.below (h : OwnF w base A n c qs) (hg : Below w.heap.size w w') : OwnF w' base A n c qs := h.kept (grown_of_below hg none) (by simp)
theorem OwnF.alloc (h : OwnF w base A n c qs) (o : Obj) : OwnF (w.alloc o) base A n c qs := ⟨h.len, h.row.alloc o, fun k q hk => (h.own k q hk).alloc o, h.sep⟩
theorem OwnF.drewN (h : OwnF w base A n c qs) (k : Nat) : OwnF (w.drewN k) base A n c qs := ⟨h.len, h.row, fun j q hj => (h.own j q hj).drewN k, h.sep⟩
theorem OwnF.nil_ (w : World) (base : Nat) : OwnF w base none 0 0 [] := ⟨rfl, World.ownsRow_nil _ _ _ _, by simp, by simp⟩
theorem OwnF.mono {b' : Nat} (h : OwnF w base A n c qs) (hb : b' ≤ base) : OwnF w b' A n c qs := by
  refine ⟨h.len, ⟨h.row.1, ?_⟩, fun k q hk => (h.own k q hk).mono hb, h.sep⟩
  rcases h.row.2 with h0 | ⟨g, cap, cur, hv, hb', r⟩
  · exact .inl h0
  · exact .inr ⟨g, cap, cur, hv, by omega, r⟩
theorem OwnF.lit0 (w : World) (base : Nat) (hb : base ≤ w.heap.size) : OwnF (w.alloc (.cells #[] 156)) base (some ⟨w.heap.size, 0, none⟩) 0 0 [] := by
  refine ⟨rfl, ?_, by simp, by simp⟩
  have := World.ownsRow_lit (base := base) (e := 156) (size := 5) w #[] 0 hb (Nat.zero_le _) (by simp)
  simpa [flatF] using this
theorem OwnF.free {g j : Nat} (h : OwnF w base (some ⟨g, 0, none⟩) n c qs) : w.frozen? ⟨g, j, none⟩ = false := h.row.frozenAt j
end

/-! ### append of objects -/
theorem run_append_valsF {T t : TypeId} {s bytes : Nat} {z : Value} (hT : RT T t s bytes z) (w : World) (base n c m d : Nat) (A : Option Addr) (ad : Addr) (vs us : List Value) (ty : TypeId) (hown : w.ownsRow base t s (.slice A n c) n vs)
    (hu : us.length = m * s) (hone : ∀ u ∈ us, u.oneCell' = true) (hr : ∀ j u, us[j]? = some u → w.cell? (ad.add j) = some u) (hnm : n + m ≤ 1000000000000) (hbase : base ≤ w.heap.size) :
    ∃ A2 c2 w', (Builtin.append_ #[T, T] ty #[.slice A n c, .slice (some ad) m d]).run Tryz.prog w = .ok (.slice A2 (n + m) c2) w' ∧ w'.ownsRow base t s (.slice A2 (n + m) c2) (n + m) (vs ++ us) ∧
      w.grownBy w' (Value.slice A n c).ownBlock ∧ ((Value.slice A2 (n + m) c2).ownBlock = (Value.slice A n c).ownBlock ∨ (Value.slice A2 (n + m) c2).ownBlock = some w.heap.size) := by
  obtain ⟨i0, hi, hz0, hz1, hz2⟩ := info_parts hT.info
  obtain ⟨v', w', hrun, h2, h3, _, h5⟩ := run_append_own_at (P := Tryz.prog) w base T ty t i0 z s bytes hT.und hi hz0 hz1 hz2 hT.zs hT.pos
    (.slice A n c) n vs hown ad m d us hu hr hone
    (by unfold maxLen; omega) (Nat.le_trans (Nat.mul_le_mul hnm hT.small) (by decide)) hbase
  obtain ⟨A2, c2, rfl⟩ := slice_of_own h2
  exact ⟨A2, c2, w', hrun, h2, h3, h5⟩

theorem fndT : RT 86 156 5 56 (.agg #[.int .i64 0, .int .i64 0, .int .i64 0, .int .i64 0, .slice none 0 0]) := ⟨Tryz.underlying86, by kernel_rfl, by decide, by decide, by decide⟩

/-- 'append(out, qs2...)', each with values of its own -/
theorem run_append_fnds (w : World) (base n c m d : Nat) (A X : Option Addr) (qs q2 : List Fq) (ty : TypeId) (hown : OwnF w base A n c qs)
    (hl : q2.length = m) (hr : 0 < m → ∃ ad, X = some ad ∧ ∀ j u, (flatF q2)[j]? = some u → w.cell? (ad.add j) = some u) (hq : ∀ (k : Nat) (q : Fq), q2[k]? = some q → Own w base q.addr q.vals.length q.cap q.vals)
    (hsep2 : ∀ (i j : Nat) (q r : Fq), q2[i]? = some q → q2[j]? = some r → i ≠ j → ∀ g, q.sl.ownBlock = some g → r.sl.ownBlock ≠ some g)
    (hsep : ∀ (k j : Nat) (r q : Fq), qs[k]? = some r → q2[j]? = some q → ∀ g, r.sl.ownBlock = some g → q.sl.ownBlock ≠ some g)
    (hn : n + m ≤ 100000000000) (hbase : base ≤ w.heap.size) :
    ∃ A2 c2 w', (Builtin.append_ #[86, 86] ty #[.slice A n c, .slice X m d]).run Tryz.prog w = .ok (.slice A2 (n + m) c2) w' ∧ OwnF w' base A2 (n + m) c2 (qs ++ q2) ∧
      w.grownBy w' (Value.slice A n c).ownBlock ∧ ((Value.slice A2 (n + m) c2).ownBlock = (Value.slice A n c).ownBlock ∨ (Value.slice A2 (n + m) c2).ownBlock = some w.heap.size) := by
  have key : ∀ A2 c2 w', w'.ownsRow base 156 5 (.slice A2 (n + m) c2) (n + m) (flatF qs ++ flatF q2) → w.grownBy w' (Value.slice A n c).ownBlock → OwnF w' base A2 (n + m) c2 (qs ++ q2) := by
    intro A2 c2 w' h2 h3
    rw [← flatF_append] at h2
    have get : ∀ {k r}, (qs ++ q2)[k]? = some r → (k < n ∧ qs[k]? = some r) ∨ (n ≤ k ∧ q2[k - n]? = some r) := by
      intro k r hk
      rcases Nat.lt_or_ge k qs.length with h | h
      · exact .inl ⟨by rw [← hown.len]; exact h, by rwa [List.getElem?_append_left h] at hk⟩
      · rw [List.getElem?_append_right h, hown.len] at hk
        exact .inr ⟨by rw [← hown.len]; exact h, hk⟩
    refine ⟨by simp [hown.len, hl], h2, fun k r hk => ?_, fun i j r r' hi hj hij g hg => ?_⟩
    · rcases get hk with ⟨_, hk⟩ | ⟨_, hk⟩
      · exact (hown.own k r hk).kept h3 (fun g hg => hown.far hk hg)
      · exact (hq _ _ hk).kept h3 (fun g hg => rows_neF hown.row (hq _ _ hk).2 (by decide) hg)
    · rcases get hi with ⟨li, hi'⟩ | ⟨li, hi'⟩
      · rcases get hj with ⟨lj, hj'⟩ | ⟨lj, hj'⟩
        · exact hown.sep i j r r' hi' hj' hij g hg
        · exact hsep _ _ _ _ hi' hj' g hg
      · rcases get hj with ⟨lj, hj'⟩ | ⟨lj, hj'⟩
        · intro h
          exact hsep _ _ _ _ hj' hi' g h hg
        · exact hsep2 _ _ _ _ hi' hj' (by omega) g hg
  rcases X with _ | ad
  · have hm : m = 0 := by
      rcases Nat.eq_zero_or_pos m with h | h
      · exact h
      · obtain ⟨ad, h', _⟩ := hr h
        cases h'
    subst hm
    obtain rfl : q2 = [] := List.eq_nil_of_length_eq_zero hl
    obtain ⟨i0, hi, hz0, hz1, hz2⟩ := info_parts fndT.info
    exact ⟨A, c, w, run_append_of_nil w base 86 ty 156 i0 5 fndT.und hi _ n _ hown.row d, by simpa using hown, World.grownBy.refl w _, .inl rfl⟩
  · have hc : ∀ j u, (flatF q2)[j]? = some u → w.cell? (ad.add j) = some u := by
      intro j u hu
      rcases Nat.eq_zero_or_pos m with h | h
      · obtain rfl : q2 = [] := List.eq_nil_of_length_eq_zero (by rw [hl, h])
        simp [flatF] at hu
      · obtain ⟨ad', e, hc⟩ := hr h
        injection e with e
        subst e
        exact hc j u hu
    obtain ⟨A2, c2, w', hrun, h2, h3, h4⟩ := run_append_valsF fndT w base n c m d A ad (flatF qs) (flatF q2) ty hown.row (by rw [flatF_length, hl]) (flatF_one _) hc (by omega) hbase
    exact ⟨A2, c2, w', hrun, key A2 c2 w' h2 h3, h3, h4⟩

/-- what an append of objects asks and gives -/
structure NewF (w : World) (base n : Nat) (A : Option Addr) (c : Nat) (qs : List Fq) (X : Option Addr) (m : Nat) (q2 : List Fq) : Prop where
  own : OwnF w base A n c qs
  len : q2.length = m
  src : 0 < m → ∃ ad, X = some ad ∧ ∀ j u, (flatF q2)[j]? = some u → w.cell? (ad.add j) = some u
  news : ∀ (k : Nat) (q : Fq), q2[k]? = some q → Own w base q.addr q.vals.length q.cap q.vals
  sep2 : ∀ (i j : Nat) (q r : Fq), q2[i]? = some q → q2[j]? = some r → i ≠ j → ∀ g, q.sl.ownBlock = some g → r.sl.ownBlock ≠ some g
  sep : ∀ (k j : Nat) (r q : Fq), qs[k]? = some r → q2[j]? = some q → ∀ g, r.sl.ownBlock = some g → q.sl.ownBlock ≠ some g

theorem wp_append_fnds {w : World} {o : Oper} {a : Act} {K : Act → World → Prop} {Q : Exit → Act → World → Prop} (s x : Operand)
    (ho : o.op = .call { callee := .builtin .append, args := #[s, x], argTypes := #[86, 86] })
    (base n c m d : Nat) (A X : Option Addr) (qs q2 : List Fq) (hs : a.eval s = .slice A n c) (hx : a.eval x = .slice X m d) (hnew : NewF w base n A c qs X m q2)
    (hn : n + m ≤ 100000000000) (hbase : base ≤ w.heap.size)
    (h : ∀ A2 c2 w', OwnF w' base A2 (n + m) c2 (qs ++ q2) → w.grownBy w' (Value.slice A n c).ownBlock →
      ((Value.slice A2 (n + m) c2).ownBlock = (Value.slice A n c).ownBlock ∨ (Value.slice A2 (n + m) c2).ownBlock = some w.heap.size) → K (a.put o.dst (.slice A2 (n + m) c2)) w') : o.wp Tryz.prog a w K Q := by
  obtain ⟨A2, c2, w', hrun, h2, h3, h4⟩ := run_append_fnds w base n c m d A X qs q2 o.type hnew.own hnew.len hnew.src hnew.news hnew.sep2 hnew.sep hn hbase
  unfold Oper.wp execOp
  simp only [ho, resolve, invoke, builtin, Sem.run_bind, Sem.run_pure, Result.andThen_ok, List.map_toArray, List.map_cons, List.map_nil, hs, hx, hrun]
  exact h A2 c2 w' h2 h3 h4

theorem wpList_append_fnds {w : World} {ops : Array Oper} {rest : List Oper} {o : Oper} {a : Act} {Q : Exit → Act → World → Prop} (hgd : o.guard = none) (s x : Operand)
    (ho : o.op = .call { callee := .builtin .append, args := #[s, x], argTypes := #[86, 86] })
    (base n c m d : Nat) (A X : Option Addr) (qs q2 : List Fq) (hs : a.eval s = .slice A n c) (hx : a.eval x = .slice X m d) (hnew : NewF w base n A c qs X m q2)
    (hn : n + m ≤ 100000000000) (hbase : base ≤ w.heap.size)
    (h : ∀ A2 c2 w', OwnF w' base A2 (n + m) c2 (qs ++ q2) → w.grownBy w' (Value.slice A n c).ownBlock →
      ((Value.slice A2 (n + m) c2).ownBlock = (Value.slice A n c).ownBlock ∨ (Value.slice A2 (n + m) c2).ownBlock = some w.heap.size) → wpList Tryz.prog ops Q rest (a.put o.dst (.slice A2 (n + m) c2)) w') :
    wpList Tryz.prog ops Q (o :: rest) a w :=
  wpList_plain hgd fun _ hK => wp_append_fnds s x ho base n c m d A X qs q2 hs hx hnew hn hbase fun A2 c2 w' h2 h3 h4 => hK _ _ (h A2 c2 w' h2 h3 h4)

theorem step_append_fnds {w : World} {ops : Array Oper} {o : Oper} {a : Act} {K : Act → World → Prop} {Q : Exit → Act → World → Prop} {E : Prop} (hgd : o.guard = none) (s x : Operand)
    (ho : o.op = .call { callee := .builtin .append, args := #[s, x], argTypes := #[86, 86] })
    (base n c m d : Nat) (A X : Option Addr) (qs q2 : List Fq) (hs : a.eval s = .slice A n c) (hx : a.eval x = .slice X m d) (hnew : NewF w base n A c qs X m q2)
    (hn : n + m ≤ 100000000000) (hbase : base ≤ w.heap.size)
    (h : ∀ A2 c2 w', OwnF w' base A2 (n + m) c2 (qs ++ q2) → w.grownBy w' (Value.slice A n c).ownBlock →
      ((Value.slice A2 (n + m) c2).ownBlock = (Value.slice A n c).ownBlock ∨ (Value.slice A2 (n + m) c2).ownBlock = some w.heap.size) → K (a.put o.dst (.slice A2 (n + m) c2)) w') :
    if Region.wanted o (yielded ops a.tmps) = true then Oper.wp Tryz.prog o a w K Q else E := by
  have hw : Region.wanted o (yielded ops a.tmps) = true := by simp [Region.wanted, hgd]
  rw [if_pos hw]
  exact wp_append_fnds s x ho base n c m d A X qs q2 hs hx hnew hn hbase h

/-- one new object in a block of its own -/
theorem fnd_cells (w : World) (q : Fq) : ∀ j u, q.cells[j]? = some u → (w.alloc (.cells #[.int .i64 q.zone, .int .i64 q.word, .int .i64 q.kind, .int .i64 q.seq, q.sl] 156)).cell? (Addr.add ⟨w.heap.size, 0, none⟩ j) = some u := by
  intro j u hu
  rw [add_plain', (Blk.new w 156 #[.int .i64 q.zone, .int .i64 q.word, .int .i64 q.kind, .int .i64 q.seq, q.sl]).cell j]
  rcases j with _ | _ | _ | _ | _ | j
  · exact hu
  · exact hu
  · exact hu
  · exact hu
  · exact hu
  · simp [Fq.cells] at hu
theorem NewF.one {w : World} {base n c : Nat} {A : Option Addr} {qs : List Fq} {q : Fq} {ad : Addr} (hown : OwnF w base A n c qs) (hr : ∀ j u, q.cells[j]? = some u → w.cell? (ad.add j) = some u)
    (hq : Own w base q.addr q.vals.length q.cap q.vals) (hsep : ∀ (k : Nat) (r : Fq), qs[k]? = some r → ∀ g, r.sl.ownBlock = some g → q.sl.ownBlock ≠ some g) : NewF w base n A c qs (some ad) 1 [q] := by
  have one : ∀ {j : Nat} {r : Fq}, [q][j]? = some r → j = 0 ∧ r = q := by
    intro j r h
    rcases j with _ | j
    · simp at h; exact ⟨rfl, h.symm⟩
    · simp at h
  refine ⟨hown, rfl, fun _ => ⟨ad, rfl, hr⟩, fun k r hk => ?_, fun i j r r' hi hj hij => ?_, fun k j r r' hk hj g hg => ?_⟩
  · obtain ⟨_, rfl⟩ := one hk; exact hq
  · exact absurd ((one hi).1.trans (one hj).1.symm) hij
  · obtain ⟨_, rfl⟩ := one hj; exact hsep k r hk g hg
/-- the objects of a row of the call's own that lies behind the first -/
theorem NewF.row {w w' : World} {base n c m d : Nat} {A X : Option Addr} {qs q2 : List Fq} (hown : OwnF w base A n c qs) (h2 : OwnF w' w.heap.size X m d q2) (hb : Below w.heap.size w w') (hbase : base ≤ w.heap.size) : NewF w' base n A c qs X m q2 := by
  refine ⟨hown.below hb, h2.len, fun hm => ?_, fun k q hk => (h2.own k q hk).mono hbase, h2.sep, fun k j r q hk hj g hg e => ?_⟩
  · obtain ⟨g, rfl, _, _⟩ := h2.shape hm
    exact ⟨_, rfl, fun j u hu => h2.row.cells rfl j u hu⟩
  · have h3 := (hown.wblock hk g hg).2
    have h4 := (h2.wblock hj g e).1
    omega
end Go.Proofs.YtfianpjoifcphaaGreat
