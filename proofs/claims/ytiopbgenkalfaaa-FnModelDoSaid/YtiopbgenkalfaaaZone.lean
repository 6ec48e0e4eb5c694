/-
  Devices: a slice of zones is read as the list of its zones ('Zns'); a row of zones of the call's own, each with words of its own: 'OwnZ'. Plain.
-/
import Derived.Test.YtiopbgenkalfaaaRec
namespace Go.Proofs.Ytiopbgenkalfaaa
open Go.RowKit
set_option linter.unusedVariables false
set_option maxRecDepth 100000

/-- A zone: its words, how many last, whether it is closed; and where its words lie. -/
structure Zq where
  words : List Int
  synced : Int
  full : Bool
  addr : Option Addr
  cap : Nat
/-- the zone as the document sees it -/
def Zq.zn (q : Zq) : List Int × Int × Bool := (q.words, q.synced, q.full)
def Zq.sl (q : Zq) : Value := .slice q.addr q.words.length q.cap
def Zq.vals (q : Zq) : List Value := [q.sl, .int .i64 q.synced, .bool q.full]
def flat : List Zq → List Value
  | [] => []
  | q :: qs => q.sl :: .int .i64 q.synced :: .bool q.full :: flat qs
/-- a device -/
abbrev Dev := List (List Int × Int × Bool)
def zns (qs : List Zq) : Dev := qs.map Zq.zn

theorem flat_length (qs : List Zq) : (flat qs).length = qs.length * 3 := by
  induction qs with
  | nil => rfl
  | cons q qs ih => simp only [flat, List.length_cons, ih]; omega
theorem flat_append (qs rs : List Zq) : flat (qs ++ rs) = flat qs ++ flat rs := by
  induction qs with
  | nil => rfl
  | cons q qs ih => simp only [flat, List.cons_append, ih]
theorem flat_get {qs : List Zq} {k : Nat} {q : Zq} (h : qs[k]? = some q) (j : Nat) (hj : j < 3) : (flat qs)[k * 3 + j]? = q.vals[j]? := by
  induction qs generalizing k with
  | nil => simp at h
  | cons r qs ih =>
    rcases k with _ | k
    · simp at h
      subst h
      rcases j with _ | _ | _ | j
      · rfl
      · rfl
      · rfl
      · omega
    · simp at h
      have := ih h
      rw [show (k + 1) * 3 + j = (k * 3 + j) + 1 + 1 + 1 by omega]
      simpa [flat] using this
theorem flat_set {qs : List Zq} {k : Nat} {q q' : Zq} (h : qs[k]? = some q) (j : Nat) (v : Value) (hj : j < 3) (hv : q'.vals = q.vals.set j v) : (flat qs).set (k * 3 + j) v = flat (qs.set k q') := by
  induction qs generalizing k with
  | nil => simp at h
  | cons r qs ih =>
    rcases k with _ | k
    · simp at h
      subst h
      obtain ⟨h0, h1, h2⟩ : q'.sl = (r.vals.set j v).getD 0 (.bool false) ∧ (.int .i64 q'.synced : Value) = (r.vals.set j v).getD 1 (.bool false) ∧ (.bool q'.full : Value) = (r.vals.set j v).getD 2 (.bool false) := by
        rw [← hv]
        exact ⟨rfl, rfl, rfl⟩
      simp only [List.set_cons_zero, flat]
      rw [h0, h1, h2]
      rcases j with _ | _ | _ | j
      · rfl
      · rfl
      · rfl
      · omega
    · simp at h
      have := ih h
      rw [show (k + 1) * 3 + j = (k * 3 + j) + 1 + 1 + 1 by omega]
      simpa [flat] using this
theorem flat_one (qs : List Zq) : ∀ u ∈ flat qs, u.oneCell' = true := by
  induction qs with
  | nil => simp [flat]
  | cons q qs ih =>
    intro u hu
    simp only [flat, List.mem_cons] at hu
    rcases hu with rfl | rfl | rfl | hu
    · rfl
    · rfl
    · rfl
    · exact ih u hu

/-! ### A device that can be read -/
def Zns (w : World) (B : Nat) (A : Option Addr) (n : Nat) (qs : List Zq) : Prop :=
  qs.length = n ∧ (0 < n → ∃ ad, A = some ad ∧ ad.block < B ∧ ∀ j u, (flat qs)[j]? = some u → w.cell? (ad.add j) = some u) ∧
    ∀ q ∈ qs, Ints w B q.addr q.words.length q.words ∧ q.words.length ≤ q.cap ∧ q.cap ≤ maxLen
section
variable {w w' : World} {B B' n : Nat} {A : Option Addr} {qs : List Zq}
theorem Zns.nil_ (w : World) (B : Nat) (A : Option Addr) : Zns w B A 0 [] := ⟨rfl, fun h => absurd h (by omega), by simp⟩
theorem Zns.at_ (h : Zns w B A n qs) {k : Nat} {q : Zq} (hk : qs[k]? = some q) : ∃ ad p, A = some ad ∧ ad.add (k * 3) = p ∧ p.block < B ∧ w.cell? p = some q.sl ∧
    w.cell? ⟨p.block, p.off + 1, none⟩ = some (.int .i64 q.synced) ∧ w.cell? ⟨p.block, p.off + 2, none⟩ = some (.bool q.full) := by
  have hl : k < n := by rw [← h.1]; exact (List.getElem?_eq_some_iff.1 hk).1
  obtain ⟨ad, e, hb, hc⟩ := h.2.1 (by omega)
  have hc0 := hc (k * 3 + 0) _ (by rw [flat_get hk 0 (by omega)]; rfl)
  have hc1 := hc (k * 3 + 1) _ (by rw [flat_get hk 1 (by omega)]; rfl)
  have hc2 := hc (k * 3 + 2) _ (by rw [flat_get hk 2 (by omega)]; rfl)
  have next : ∀ {i : Nat} {v : Value}, i ≠ 0 → w.cell? (ad.add (k * 3 + i)) = some v → w.cell? ⟨(ad.add (k * 3)).block, (ad.add (k * 3)).off + i, none⟩ = some v := by
    intro i v hi h
    rw [← add_of_add] at h
    simpa [Addr.add, hi] using h
  exact ⟨ad, _, e, rfl, by rw [block_of_add]; exact hb, hc0, next (by decide) hc1, next (by decide) hc2⟩
theorem Zns.words (h : Zns w B A n qs) {k : Nat} {q : Zq} (hk : qs[k]? = some q) : Ints w B q.addr q.words.length q.words ∧ q.words.length ≤ q.cap ∧ q.cap ≤ maxLen := h.2.2 q (List.mem_of_getElem? hk)
theorem Zns.keep (h : Zns w B A n qs) (hk : ∀ p : Addr, p.block < B → w'.cell? p = w.cell? p) : Zns w' B A n qs :=
  ⟨h.1, fun hn => by
    obtain ⟨ad, e, hb, hc⟩ := h.2.1 hn
    exact ⟨ad, e, hb, fun j u hu => (hk _ (by rw [block_of_add]; exact hb)).trans (hc j u hu)⟩, fun q hq => ⟨(h.2.2 q hq).1.keep hk, (h.2.2 q hq).2⟩⟩
theorem Zns.more (h : Zns w B A n qs) (hB : B ≤ B') : Zns w B' A n qs :=
  ⟨h.1, fun hn => by
    obtain ⟨ad, e, hb, hc⟩ := h.2.1 hn
    exact ⟨ad, e, by omega, hc⟩, fun q hq => ⟨(h.2.2 q hq).1.more hB, (h.2.2 q hq).2⟩⟩
theorem Zns.below {B2 : Nat} (h : Zns w B A n qs) (hb : Below B2 w w') (hB : B ≤ B2) : Zns w' B A n qs := h.keep fun _ hp => hb.cell (by omega)
theorem Zns.drewN (h : Zns w B A n qs) (k : Nat) : Zns (w.drewN k) B A n qs := h.keep fun _ _ => rfl
theorem Zns.alloc (h : Zns w B A n qs) (hB : B ≤ w.heap.size) (o : Obj) : Zns (w.alloc o) B A n qs := h.keep fun p hp => World.cell?_alloc_lt w o p (by omega)
theorem Zns.grown (h : Zns w B A n qs) {row : Option Nat} (hg : w.grownBy w' row) (hB : B ≤ w.heap.size) (hr : ∀ g, row = some g → B ≤ g) : Zns w' B A n qs :=
  h.keep fun p hp => World.cell?_of_block (hg.block p.block (by omega) (fun e => by have := hr _ e.symm; omega))
theorem Zns.firsts (h : Zns w B A n qs) {m : Nat} (hm : m ≤ n) : Zns w B A m (qs.take m) := by
  refine ⟨by rw [List.length_take, h.1]; omega, fun hn => ?_, fun q hq => h.2.2 q (List.mem_of_mem_take hq)⟩
  obtain ⟨ad, e, hb, hc⟩ := h.2.1 (by omega)
  refine ⟨ad, e, hb, fun j u hu => hc j u ?_⟩
  have e2 : flat qs = flat (qs.take m) ++ flat (qs.drop m) := by rw [← flat_append, List.take_append_drop]
  rw [e2, List.getElem?_append_left (List.getElem?_eq_some_iff.1 hu).1]
  exact hu
end

/-! ### A device that the call owns -/
structure OwnZ (w : World) (base : Nat) (A : Option Addr) (n c : Nat) (qs : List Zq) : Prop where
  len : qs.length = n
  row : w.ownsRow base 102 3 (.slice A n c) n (flat qs)
  own : ∀ (k : Nat) (q : Zq), qs[k]? = some q → Own w base q.addr q.words.length q.cap q.words
  sep : ∀ (i j : Nat) (q r : Zq), qs[i]? = some q → qs[j]? = some r → i ≠ j → ∀ g, q.sl.ownBlock = some g → r.sl.ownBlock ≠ some g

theorem rows_ne {w : World} {b b' t t' s s' n n' : Nat} {v v' : Value} {xs ys : List Value} (h : w.ownsRow b t s v n xs) (h' : w.ownsRow b' t' s' v' n' ys) (ht : t ≠ t') {g : Nat} (hv : v.ownBlock = some g) : v'.ownBlock ≠ some g := by
  intro hv'
  rcases h.2 with ⟨rfl, _⟩ | ⟨g1, cap1, cur1, rfl, _, hh, _⟩
  · simp [Value.ownBlock] at hv
  · rcases h'.2 with ⟨rfl, _⟩ | ⟨g2, cap2, cur2, rfl, _, hh', _⟩
    · simp [Value.ownBlock] at hv'
    · simp [Value.ownBlock] at hv hv'
      subst hv hv'
      rw [hh] at hh'
      simp at hh'
      exact ht hh'.2

section
variable {w w' : World} {base n c : Nat} {A : Option Addr} {qs : List Zq}
theorem OwnZ.cap (h : OwnZ w base A n c qs) : n ≤ c ∧ c ≤ maxLen := by
  rcases h.row.2 with ⟨hv, h0⟩ | ⟨g, cap, cur, hv, hb, hh, hc, hm, hs, ht⟩
  · injection hv with _ h1 h2; subst h1; subst h2; exact ⟨Nat.le_refl _, Nat.zero_le _⟩
  · injection hv with _ _ h2; subst h2; exact ⟨hc, hm⟩
theorem OwnZ.shape (h : OwnZ w base A n c qs) (hn : 0 < n) : ∃ g, A = some ⟨g, 0, none⟩ ∧ base ≤ g ∧ g < w.heap.size := by
  rcases h.row.2 with ⟨hv, h0⟩ | ⟨g, cap, cur, hv, hb, hh, hc, hm, hs, ht⟩
  · omega
  · injection hv with h1; exact ⟨g, h1, hb, (Array.getElem?_eq_some_iff.1 hh).1⟩
theorem OwnZ.block (h : OwnZ w base A n c qs) : ∀ k, (Value.slice A n c).ownBlock = some k → base ≤ k ∧ k < w.heap.size := h.row.lt
theorem OwnZ.wblock (h : OwnZ w base A n c qs) {k : Nat} {q : Zq} (hk : qs[k]? = some q) : ∀ g, q.sl.ownBlock = some g → base ≤ g ∧ g < w.heap.size := (h.own k q hk).block
/-- words lie elsewhere than zones -/
theorem OwnZ.far (h : OwnZ w base A n c qs) {k : Nat} {q : Zq} (hk : qs[k]? = some q) {g : Nat} (hg : (Value.slice A n c).ownBlock = some g) : q.sl.ownBlock ≠ some g :=
  rows_ne h.row (h.own k q hk).2 (by decide) hg
theorem OwnZ.zns (h : OwnZ w base A n c qs) : Zns w w.heap.size A n qs := by
  refine ⟨h.len, fun hn => ?_, fun q hq => ?_⟩
  · obtain ⟨g, rfl, hb, hl⟩ := h.shape hn
    exact ⟨_, rfl, hl, fun j u hu => h.row.cells rfl j u hu⟩
  · obtain ⟨k, hk⟩ := List.getElem?_of_mem hq
    exact ⟨(h.own k q hk).ints, (h.own k q hk).cap⟩
theorem OwnZ.kept {row : Option Nat} (h : OwnZ w base A n c qs) (hg : w.grownBy w' row) (hne : ∀ g, row = some g → (Value.slice A n c).ownBlock ≠ some g ∧ ∀ (k : Nat) (q : Zq), qs[k]? = some q → q.sl.ownBlock ≠ some g) : OwnZ w' base A n c qs :=
  ⟨h.len, h.row.kept hg (by
    rcases hv : (Value.slice A n c).ownBlock with _ | g
    · exact .inl rfl
    · right; intro e; exact (hne g e.symm).1 hv), fun k q hk => (h.own k q hk).kept hg (fun g hr => (hne g hr).2 k q hk), h.sep⟩
theorem OwnZ.below (h : OwnZ w base A n c qs) (hg : Below w.heap.size w w') : OwnZ w' base A n c qs := h.kept (grown_of_below hg none) (by simp)
theorem OwnZ.alloc (h : OwnZ w base A n c qs) (o : Obj) : OwnZ (w.alloc o) base A n c qs := ⟨h.len, h.row.alloc o, fun k q hk => (h.own k q hk).alloc o, h.sep⟩
theorem OwnZ.drewN (h : OwnZ w base A n c qs) (k : Nat) : OwnZ (w.drewN k) base A n c qs := ⟨h.len, h.row, fun j q hj => (h.own j q hj).drewN k, h.sep⟩
theorem OwnZ.nil_ (w : World) (base : Nat) : OwnZ w base none 0 0 [] := ⟨rfl, World.ownsRow_nil _ _ _ _, by simp, by simp⟩
theorem OwnZ.mono {b' : Nat} (h : OwnZ w base A n c qs) (hb : b' ≤ base) : OwnZ w b' A n c qs := by
  refine ⟨h.len, ⟨h.row.1, ?_⟩, fun k q hk => (h.own k q hk).mono hb, h.sep⟩
  rcases h.row.2 with h0 | ⟨g, cap, cur, hv, hb', r⟩
  · exact .inl h0
  · exact .inr ⟨g, cap, cur, hv, by omega, r⟩
theorem OwnZ.lit0 (w : World) (base : Nat) (hb : base ≤ w.heap.size) : OwnZ (w.alloc (.cells #[] 102)) base (some ⟨w.heap.size, 0, none⟩) 0 0 [] := by
  refine ⟨rfl, ?_, by simp, by simp⟩
  have := World.ownsRow_lit (base := base) (e := 102) (size := 3) w #[] 0 hb (Nat.zero_le _) (by simp)
  simpa [flat] using this
end

/-- a store into one cell of zone k, behind work that may have moved that zone's words -/
theorem OwnZ.put {w w3 : World} {base g n c k : Nat} {qs : List Zq} {q : Zq} {row : Option Nat} (h : OwnZ w base (some ⟨g, 0, none⟩) n c qs) (hk : qs[k]? = some q) (hg : w.grownBy w3 row)
    (hrow : ∀ b, row = some b → b ≠ g ∧ ∀ (i : Nat) (r : Zq), qs[i]? = some r → i ≠ k → r.sl.ownBlock ≠ some b) (q' : Zq) (j : Nat) (v : Value) (hj : j < 3) (hv : q'.vals = q.vals.set j v)
    (hq' : Own w3 base q'.addr q'.words.length q'.cap q'.words) (hsep : ∀ (i : Nat) (r : Zq), qs[i]? = some r → i ≠ k → ∀ b, r.sl.ownBlock = some b → q'.sl.ownBlock ≠ some b) :
    OwnZ (w3.setCell ⟨g, k * 3 + j, none⟩ v) base (some ⟨g, 0, none⟩) n c (qs.set k q') ∧ w3.grownBy (w3.setCell ⟨g, k * 3 + j, none⟩ v) (some g) := by
  have hob : (Value.slice (some (⟨g, 0, none⟩ : Addr)) n c).ownBlock = some g := rfl
  have hr := h.row.kept hg (by
    rcases row with _ | b
    · exact .inr (by rw [hob]; simp)
    · exact .inr (by rw [hob]; intro e; injection e with e; exact (hrow b rfl).1 e.symm))
  have hst := hr.stored (k * 3 + j) v
  rw [flat_set hk j v hj hv] at hst
  refine ⟨⟨by rw [List.length_set]; exact h.len, hst.1, fun i r hi => ?_, fun i i' r r' hi hi' hii b hb => ?_⟩, hst.2⟩
  · rw [List.getElem?_set] at hi
    split at hi
    · split at hi
      · injection hi with hi
        subst hi
        exact hq'.kept hst.2 (fun b hb => by injection hb with hb; subst hb; exact rows_ne hr hq'.2 (by decide) hob)
      · cases hi
    · next hne =>
      have ho := (h.own i r hi).kept hg (fun b hb => (hrow b hb).2 i r hi (fun e => hne e.symm))
      exact ho.kept hst.2 (fun b hb => by injection hb with hb; subst hb; exact rows_ne hr ho.2 (by decide) hob)
  · rw [List.getElem?_set] at hi hi'
    split at hi
    · next e1 =>
      split at hi
      · injection hi with hi
        subst hi
        split at hi'
        · next e2 => exact absurd (e1.symm.trans e2) hii
        · next e2 => exact fun e => hsep i' r' hi' (fun e3 => e2 e3.symm) b e hb
      · cases hi
    · next e1 =>
      split at hi'
      · split at hi'
        · injection hi' with hi'
          subst hi'
          exact hsep i r hi (fun e3 => e1 e3.symm) b hb
        · cases hi'
      · exact h.sep i i' r r' hi hi' hii b hb

/-- .. where its words stay -/
theorem OwnZ.put_in {w : World} {base g n c k : Nat} {qs : List Zq} {q : Zq} (h : OwnZ w base (some ⟨g, 0, none⟩) n c qs) (hk : qs[k]? = some q) (q' : Zq) (j : Nat) (v : Value) (hj : j < 3) (hv : q'.vals = q.vals.set j v)
    (h1 : q'.words = q.words) (h2 : q'.addr = q.addr) (h3 : q'.cap = q.cap) :
    OwnZ (w.setCell ⟨g, k * 3 + j, none⟩ v) base (some ⟨g, 0, none⟩) n c (qs.set k q') ∧ w.grownBy (w.setCell ⟨g, k * 3 + j, none⟩ v) (some g) := by
  refine h.put hk (World.grownBy.refl w none) (by simp) q' j v hj hv ?_ ?_
  · rw [h1, h2, h3]; exact h.own k q hk
  · intro i r hi hik b hb
    have e : q'.sl = q.sl := by unfold Zq.sl; rw [h1, h2, h3]
    rw [e]
    exact h.sep i k r q hi hk hik b hb
theorem OwnZ.free {w : World} {base g n c j : Nat} {qs : List Zq} (h : OwnZ w base (some ⟨g, 0, none⟩) n c qs) : w.frozen? ⟨g, j, none⟩ = false := h.row.frozenAt j

/-! ### append of a zone -/
theorem run_append_vals {T t : TypeId} {s bytes : Nat} {z : Value} (hT : RT T t s bytes z) (w : World) (base n c m d : Nat) (A : Option Addr) (ad : Addr) (vs us : List Value) (ty : TypeId) (hown : w.ownsRow base t s (.slice A n c) n vs)
    (hu : us.length = m * s) (hone : ∀ u ∈ us, u.oneCell' = true) (hr : ∀ j u, us[j]? = some u → w.cell? (ad.add j) = some u) (hnm : n + m ≤ 1000000000000) (hbase : base ≤ w.heap.size) :
    ∃ A2 c2 w', (Builtin.append_ #[T, T] ty #[.slice A n c, .slice (some ad) m d]).run Try.prog w = .ok (.slice A2 (n + m) c2) w' ∧ w'.ownsRow base t s (.slice A2 (n + m) c2) (n + m) (vs ++ us) ∧
      w.grownBy w' (Value.slice A n c).ownBlock ∧ ((Value.slice A2 (n + m) c2).ownBlock = (Value.slice A n c).ownBlock ∨ (Value.slice A2 (n + m) c2).ownBlock = some w.heap.size) := by
  obtain ⟨i0, hi, hz0, hz1, hz2⟩ := info_parts hT.info
  obtain ⟨v', w', hrun, h2, h3, _, h5⟩ := run_append_own_at (P := Try.prog) w base T ty t i0 z s bytes hT.und hi hz0 hz1 hz2 hT.zs hT.pos
    (.slice A n c) n vs hown ad m d us hu hr hone
    (by unfold maxLen; omega) (Nat.le_trans (Nat.mul_le_mul hnm hT.small) (by decide)) hbase
  obtain ⟨A2, c2, rfl⟩ := slice_of_own h2
  exact ⟨A2, c2, w', hrun, h2, h3, h5⟩

theorem zoneT : RT 66 102 3 40 (.agg #[.slice none 0 0, .int .i64 0, .bool false]) := ⟨Try.underlying66, by kernel_rfl, by decide, by decide, by decide⟩

/-- 'append(out, z)': z one zone that lies in a block of its own -/
theorem run_append_zone (w : World) (base n c d : Nat) (A : Option Addr) (ad : Addr) (qs : List Zq) (q : Zq) (ty : TypeId) (hown : OwnZ w base A n c qs)
    (hr : ∀ j u, q.vals[j]? = some u → w.cell? (ad.add j) = some u) (hq : Own w base q.addr q.words.length q.cap q.words) (hsep : ∀ (k : Nat) (r : Zq), qs[k]? = some r → ∀ g, r.sl.ownBlock = some g → q.sl.ownBlock ≠ some g)
    (hn : n ≤ 100000000000) (hbase : base ≤ w.heap.size) :
    ∃ A2 c2 w', (Builtin.append_ #[66, 66] ty #[.slice A n c, .slice (some ad) 1 d]).run Try.prog w = .ok (.slice A2 (n + 1) c2) w' ∧ OwnZ w' base A2 (n + 1) c2 (qs ++ [q]) ∧
      w.grownBy w' (Value.slice A n c).ownBlock ∧ ((Value.slice A2 (n + 1) c2).ownBlock = (Value.slice A n c).ownBlock ∨ (Value.slice A2 (n + 1) c2).ownBlock = some w.heap.size) := by
  obtain ⟨A2, c2, w', hrun, h2, h3, h4⟩ := run_append_vals zoneT w base n c 1 d A ad (flat qs) (flat [q]) ty hown.row rfl (flat_one _) hr (by omega) hbase
  rw [← flat_append] at h2
  have get : ∀ {k r}, (qs ++ [q])[k]? = some r → qs[k]? = some r ∨ (k = n ∧ r = q) := by
    intro k r hk
    rcases Nat.lt_or_ge k qs.length with h | h
    · exact .inl (by rwa [List.getElem?_append_left h] at hk)
    · rw [List.getElem?_append_right h] at hk
      rcases e : k - qs.length with _ | i
      · rw [e] at hk
        simp at hk
        exact .inr ⟨by have := hown.len; omega, hk.symm⟩
      · rw [e] at hk
        simp at hk
  refine ⟨A2, c2, w', hrun, ⟨by simp [hown.len], h2, fun k r hk => ?_, fun i j r r' hi hj hij g hg => ?_⟩, h3, h4⟩
  · rcases get hk with hk | ⟨_, rfl⟩
    · exact (hown.own k r hk).kept h3 (fun g hg => hown.far hk hg)
    · exact hq.kept h3 (fun g hg => rows_ne hown.row hq.2 (by decide) hg)
  · rcases get hi with hi' | ⟨ei, er⟩
    · rcases get hj with hj' | ⟨ej, er'⟩
      · exact hown.sep i j r r' hi' hj' hij g hg
      · rw [er']
        exact hsep i r hi' g hg
    · rcases get hj with hj' | ⟨ej, er'⟩
      · intro h
        rw [er] at hg
        exact hsep j r' hj' g h hg
      · exact absurd (ei.trans ej.symm) hij

theorem wp_append_zone {w : World} {o : Oper} {a : Act} {K : Act → World → Prop} {Q : Exit → Act → World → Prop} (s x : Operand)
    (ho : o.op = .call { callee := .builtin .append, args := #[s, x], argTypes := #[66, 66] })
    (base n c d : Nat) (A : Option Addr) (ad : Addr) (qs : List Zq) (q : Zq) (hs : a.eval s = .slice A n c) (hx : a.eval x = .slice (some ad) 1 d) (hown : OwnZ w base A n c qs)
    (hr : ∀ j u, q.vals[j]? = some u → w.cell? (ad.add j) = some u) (hq : Own w base q.addr q.words.length q.cap q.words) (hsep : ∀ (k : Nat) (r : Zq), qs[k]? = some r → ∀ g, r.sl.ownBlock = some g → q.sl.ownBlock ≠ some g)
    (hn : n ≤ 100000000000) (hbase : base ≤ w.heap.size)
    (h : ∀ A2 c2 w', OwnZ w' base A2 (n + 1) c2 (qs ++ [q]) → w.grownBy w' (Value.slice A n c).ownBlock →
      ((Value.slice A2 (n + 1) c2).ownBlock = (Value.slice A n c).ownBlock ∨ (Value.slice A2 (n + 1) c2).ownBlock = some w.heap.size) → K (a.put o.dst (.slice A2 (n + 1) c2)) w') : o.wp Try.prog a w K Q := by
  obtain ⟨A2, c2, w', hrun, h2, h3, h4⟩ := run_append_zone w base n c d A ad qs q o.type hown hr hq hsep hn hbase
  unfold Oper.wp execOp
  simp only [ho, resolve, invoke, builtin, Sem.run_bind, Sem.run_pure, Result.andThen_ok, List.map_toArray, List.map_cons, List.map_nil, hs, hx, hrun]
  exact h A2 c2 w' h2 h3 h4

theorem wpList_append_zone {w : World} {ops : Array Oper} {rest : List Oper} {o : Oper} {a : Act} {Q : Exit → Act → World → Prop} (hgd : o.guard = none) (s x : Operand)
    (ho : o.op = .call { callee := .builtin .append, args := #[s, x], argTypes := #[66, 66] })
    (base n c d : Nat) (A : Option Addr) (ad : Addr) (qs : List Zq) (q : Zq) (hs : a.eval s = .slice A n c) (hx : a.eval x = .slice (some ad) 1 d) (hown : OwnZ w base A n c qs)
    (hr : ∀ j u, q.vals[j]? = some u → w.cell? (ad.add j) = some u) (hq : Own w base q.addr q.words.length q.cap q.words) (hsep : ∀ (k : Nat) (r : Zq), qs[k]? = some r → ∀ g, r.sl.ownBlock = some g → q.sl.ownBlock ≠ some g)
    (hn : n ≤ 100000000000) (hbase : base ≤ w.heap.size)
    (h : ∀ A2 c2 w', OwnZ w' base A2 (n + 1) c2 (qs ++ [q]) → w.grownBy w' (Value.slice A n c).ownBlock →
      ((Value.slice A2 (n + 1) c2).ownBlock = (Value.slice A n c).ownBlock ∨ (Value.slice A2 (n + 1) c2).ownBlock = some w.heap.size) → wpList Try.prog ops Q rest (a.put o.dst (.slice A2 (n + 1) c2)) w') :
    wpList Try.prog ops Q (o :: rest) a w :=
  wpList_plain hgd fun _ hK => wp_append_zone s x ho base n c d A ad qs q hs hx hown hr hq hsep hn hbase fun A2 c2 w' h2 h3 h4 => hK _ _ (h A2 c2 w' h2 h3 h4)

theorem step_append_zone {w : World} {ops : Array Oper} {o : Oper} {a : Act} {K : Act → World → Prop} {Q : Exit → Act → World → Prop} {E : Prop} (hgd : o.guard = none) (s x : Operand)
    (ho : o.op = .call { callee := .builtin .append, args := #[s, x], argTypes := #[66, 66] })
    (base n c d : Nat) (A : Option Addr) (ad : Addr) (qs : List Zq) (q : Zq) (hs : a.eval s = .slice A n c) (hx : a.eval x = .slice (some ad) 1 d) (hown : OwnZ w base A n c qs)
    (hr : ∀ j u, q.vals[j]? = some u → w.cell? (ad.add j) = some u) (hq : Own w base q.addr q.words.length q.cap q.words) (hsep : ∀ (k : Nat) (r : Zq), qs[k]? = some r → ∀ g, r.sl.ownBlock = some g → q.sl.ownBlock ≠ some g)
    (hn : n ≤ 100000000000) (hbase : base ≤ w.heap.size)
    (h : ∀ A2 c2 w', OwnZ w' base A2 (n + 1) c2 (qs ++ [q]) → w.grownBy w' (Value.slice A n c).ownBlock →
      ((Value.slice A2 (n + 1) c2).ownBlock = (Value.slice A n c).ownBlock ∨ (Value.slice A2 (n + 1) c2).ownBlock = some w.heap.size) → K (a.put o.dst (.slice A2 (n + 1) c2)) w') :
    if Region.wanted o (yielded ops a.tmps) = true then Oper.wp Try.prog o a w K Q else E := by
  have hw : Region.wanted o (yielded ops a.tmps) = true := by simp [Region.wanted, hgd]
  rw [if_pos hw]
  exact wp_append_zone s x ho base n c d A ad qs q hs hx hown hr hq hsep hn hbase h

/-- a new zone's cells -/
theorem zone_cells (w : World) (q : Zq) : ∀ j u, q.vals[j]? = some u → (w.alloc (.cells #[q.sl, .int .i64 q.synced, .bool q.full] 102)).cell? (Addr.add ⟨w.heap.size, 0, none⟩ j) = some u := by
  intro j u hu
  rw [add_plain', (Blk.new w 102 #[q.sl, .int .i64 q.synced, .bool q.full]).cell j]
  rcases j with _ | _ | _ | j
  · exact hu
  · exact hu
  · exact hu
  · simp [Zq.vals] at hu
end Go.Proofs.Ytiopbgenkalfaaa
