/-
  Texts in one: Rng, Rd, Rec, Zone, Obj, Sum, ExtM, PairM, SameP, FrameV, MapM, MapI, NewM, Vol0, VolI, Ints, StoM, Has. Plain.
-/
import Derived.Test.YtfianpjoifcphaaGreatBase
/- Rng -/
namespace Go.Proofs.YtfianpjoifcphaaGreat
open Go.RowKit
set_option linter.unusedVariables false
set_option maxRecDepth 100000

/-- the words of a list are from lo to hi -/
def Rng (lo hi : Int) (xs : List Int) : Prop := ∀ x ∈ xs, lo ≤ x ∧ x ≤ hi
theorem Rng.snoc {lo hi : Int} {xs : List Int} {x : Int} (h : Rng lo hi xs) (h1 : lo ≤ x) (h2 : x ≤ hi) : Rng lo hi (xs ++ [x]) := by
  intro y hy
  rcases List.mem_append.1 hy with hy | hy
  · exact h y hy
  · simp at hy; subst hy; exact ⟨h1, h2⟩
theorem Rng.set {lo hi : Int} {xs : List Int} {x : Int} (h : Rng lo hi xs) (j : Nat) (h1 : lo ≤ x) (h2 : x ≤ hi) : Rng lo hi (xs.set j x) := by
  intro y hy
  rcases List.mem_or_eq_of_mem_set hy with hy | hy
  · exact h y hy
  · subst hy; exact ⟨h1, h2⟩
theorem Rng.getD {lo hi : Int} {xs : List Int} (h : Rng lo hi xs) {j : Nat} (hj : j < xs.length) : lo ≤ xs.getD j 0 ∧ xs.getD j 0 ≤ hi := by
  have := h xs[j] (List.getElem_mem hj)
  simpa [List.getD, hj] using this

end Go.Proofs.YtfianpjoifcphaaGreat

/- Rd -/
namespace Go.Proofs.YtfianpjoifcphaaGreat
open Go.RowKit
set_option linter.unusedVariables false
set_option maxRecDepth 100000

/-- Bytes that can be read, below block B. -/
def Bytes (w : World) (B : Nat) (A : Option Addr) (n : Nat) (bs : Nat → Int) : Prop :=
  0 < n → ∃ ad, A = some ad ∧ ad.block < B ∧ ∀ j, j < n → 0 ≤ bs j ∧ bs j ≤ 255 ∧ w.cell? (ad.add j) = some (.int .u8 (bs j))

/-- The reader of a code: block R. -/
def Rd (w : World) (R : Nat) (p : Int) : Prop :=
  0 ≤ p ∧ p ≤ 30000 ∧ ∃ A n c bs, n ≤ 2000 ∧ n ≤ c ∧ Blk w R 134 #[.slice A n c, .int .i64 p] ∧ Bytes w R A n bs

theorem xor_nonneg (x y : Int) (hx0 : 0 ≤ x) (hx' : x < 4611686018427387904) (hy : 0 ≤ y) (hy' : y < 4611686018427387904) :
    0 ≤ IntKind.i64.wrap ((BitVec.ofInt 64 x ^^^ BitVec.ofInt 64 y).toNat : Int) := by
  obtain ⟨a, rfl⟩ := Int.eq_ofNat_of_zero_le hx0
  obtain ⟨b, rfl⟩ := Int.eq_ofNat_of_zero_le hy
  have h1 : (BitVec.ofInt 64 (a : Int)).toNat = a := by
    rw [BitVec.ofInt_natCast, BitVec.toNat_ofNat]; exact Nat.mod_eq_of_lt (by omega)
  have h2 : (BitVec.ofInt 64 (b : Int)).toNat = b := by
    rw [BitVec.ofInt_natCast, BitVec.toNat_ofNat]; exact Nat.mod_eq_of_lt (by omega)
  rw [BitVec.toNat_xor, h1, h2]
  have hx : a ^^^ b < 2 ^ 62 := Nat.xor_lt_two_pow (by omega) (by omega)
  rw [IntKind.wrap_i64]
  omega


theorem Bytes.keep {w w' : World} {B : Nat} {A : Option Addr} {n : Nat} {bs : Nat → Int} (h : Bytes w B A n bs) (hk : ∀ p : Addr, p.block < B → w'.cell? p = w.cell? p) : Bytes w' B A n bs := fun hn => by
  obtain ⟨ad, e, hb, hc⟩ := h hn
  exact ⟨ad, e, hb, fun j hj => ⟨(hc j hj).1, (hc j hj).2.1, (hk _ (by rw [block_of_add]; exact hb)).trans (hc j hj).2.2⟩⟩

theorem rd_step {w : World} {R : Nat} {p : Int} (h : Rd w R p) (hp : p < 30000) (k : Nat) :
    Rd ((w.setCell ⟨R, 1, none⟩ (.int .i64 (p + 1))).drewN k) R (p + 1) ∧ w.grownBy ((w.setCell ⟨R, 1, none⟩ (.int .i64 (p + 1))).drewN k) (some R) := by
  obtain ⟨hp0, _, A, m, c, bs, hm, hmc, hb, hbs⟩ := h
  refine ⟨⟨by omega, by omega, A, m, c, bs, hm, hmc, ?_, ?_⟩, ?_⟩
  · exact (hb.set_ 1 (.int .i64 (p + 1))).drewN k
  · refine Bytes.keep hbs fun q hq => ?_
    show (w.setCell ⟨R, 1, none⟩ (.int .i64 (p + 1))).cell? q = _
    exact World.cell?_of_block (Below.heap_setCell w ⟨R, 1, none⟩ _ q.block (by simp; omega))
  · refine ⟨rfl, rfl, rfl, by simp [World.setCell, World.drewN], fun i hi hne => ?_⟩
    exact Below.heap_setCell w ⟨R, 1, none⟩ _ i (by rintro rfl; exact hne rfl)

theorem bits_xor_nonneg (x y : Int) (hx : 0 ≤ x) (hx' : x < 4611686018427387904) (hy : 0 ≤ y) (hy' : y < 4611686018427387904) : 0 ≤ bits .xor .i64 x y := xor_nonneg x y hx hx' hy hy'
theorem tmod_ge (x n : Int) (hx : 0 ≤ x) : 0 ≤ x.tmod n := Int.tmod_nonneg n hx
theorem tmod_lt (x n : Int) (hn : 1 ≤ n) (hx : 0 ≤ x) : x.tmod n < n := Int.tmod_lt_of_pos x (by omega)
theorem mod_lt' (x n : Int) (hn : 1 ≤ n) : x % n < n := Int.emod_lt_of_pos x (by omega)
theorem mod_ge' (x n : Int) (hn : 1 ≤ n) : 0 ≤ x % n := Int.emod_nonneg x (by omega)

set_option maxHeartbeats 800000 in
set_option maxRecDepth 100000 in
theorem pick_any (R : Nat) (p n : Int) (w : World) (hr : Rd w R p) (hp : p < 30000) (hn : 1 ≤ n) :
    Calls Tryz.prog 90 #[.pointer (some ⟨R, 0, none⟩), .int .i64 n] w fun e w' => ∃ v, e = .returned (.int .i64 v) ∧ 0 ≤ v ∧ v < n ∧ Rd w' R (p + 1) ∧ w.grownBy w' (some R) := by
  have hst := hide (rd_step hr hp)
  obtain ⟨hp0, _, A, m, c, bs, hm, hmc, hb, hbs⟩ := hr
  have hc0 := hb.cell 0
  have hc1 := hb.cell 1
  have hf1 := hb.frozen 1
  simp at hc0 hc1
  by_cases hm0 : m = 0
  · subst hm0
    go_enter Tryz.func90, Tryz.ntmps90
    go_wp2
    go_ret
    exact ⟨0, rfl, by omega, by omega, hst.out 0⟩
  · obtain ⟨ad, rfl, hadb, hcb⟩ := hbs (by omega)
    have hne : ad.block ≠ R := by omega
    have hcell : ∀ j, j < m → (w.setCell ⟨R, 1, none⟩ (.int .i64 (p + 1))).cell? (ad.add j) = some (.int .u8 (bs j)) := fun j hj =>
      (World.cell?_of_block (Below.heap_setCell w ⟨R, 1, none⟩ _ (ad.add j).block (by rw [block_of_add]; exact hne))).trans (hcb j hj).2.2
    have hmb : ((m : Int) == 0) = false := by simp; omega
    by_cases hk : p < m
    · have hck := hcell p.toNat (by omega)
      obtain ⟨hk0, hk1, _⟩ := hcb p.toNat (by omega)
      generalize bs p.toNat = u at hck hk0 hk1
      clear hcb hcell hbs hb
      have hn0 : ¬ n = 0 := by omega
      go_enter Tryz.func90, Tryz.ntmps90
      go_wp2
      go_ret
      refine ⟨_, rfl, mod_ge' _ _ hn, mod_lt' _ _ hn, hst.out 0⟩
    · have h1 : 0 ≤ p % m := Int.emod_nonneg p (by omega)
      have h2 : p % m < m := Int.emod_lt_of_pos p (by omega)
      have h3 : 0 ≤ (p * 7 + 3) % m := Int.emod_nonneg _ (by omega)
      have h4 : (p * 7 + 3) % m < m := Int.emod_lt_of_pos _ (by omega)
      have hc3 := hcell (p % m).toNat (by omega)
      have hc4 := hcell ((p * 7 + 3) % m).toNat (by omega)
      obtain ⟨u0, u1, _⟩ := hcb (p % m).toNat (by omega)
      obtain ⟨v0, v1, _⟩ := hcb ((p * 7 + 3) % m).toNat (by omega)
      generalize bs (p % m).toNat = u at hc3 u0 u1
      generalize bs ((p * 7 + 3) % m).toNat = v at hc4 v0 v1
      have hn0 : ¬ n = 0 := by omega
      have h5 : 0 ≤ p / m := Int.ediv_nonneg hp0 (by omega)
      have h6 : p / m ≤ p := Int.ediv_le_self _ hp0
      clear hcb hcell hbs hb
      go_enter Tryz.func90, Tryz.ntmps90
      go_wp2
      go_quiet (fail)
      go_wp2
      go_ret
      exact ⟨_, rfl, tmod_ge _ _ (bits_xor_nonneg _ _ (by omega) (by omega) (by omega) (by omega)), tmod_lt _ _ hn (bits_xor_nonneg _ _ (by omega) (by omega) (by omega) (by omega)), hst.out _⟩
set_option maxHeartbeats 400000 in
theorem open_any (A : Option Addr) (n c : Nat) (bs : Nat → Int) (w : World) (hb : Bytes w w.heap.size A n bs) (hn : n ≤ c) (hc : c ≤ maxLen) :
    Calls Tryz.prog 37 #[.slice A n c] w fun e w' => e = .returned (.pointer (some ⟨w.heap.size, 0, none⟩)) ∧ Rd w' w.heap.size 0 ∧ Below w.heap.size w w' := by
  unfold maxLen at hc
  by_cases h : 2000 < n
  · have h1 : 2000 ≤ c := by omega
    go_enter Tryz.func37, Tryz.ntmps37
    go_wp2
    go_ret
    refine ⟨rfl, ⟨by omega, by omega, A, 2000, c, bs, by omega, by omega, Blk.new w _ _, ?_⟩, (Below.refl _ _).alloc (Nat.le_refl _) _⟩
    intro _
    obtain ⟨ad, e, hl, hcl⟩ := hb (by omega)
    exact ⟨ad, e, hl, fun j hj => ⟨(hcl j (by omega)).1, (hcl j (by omega)).2.1, by rw [World.cell?_alloc_lt w _ _ (by rw [block_of_add]; exact hl)]; exact (hcl j (by omega)).2.2⟩⟩
  · go_enter Tryz.func37, Tryz.ntmps37
    go_wp2
    go_ret
    refine ⟨rfl, ⟨by omega, by omega, A, n, c, bs, by omega, by omega, Blk.new w _ _, ?_⟩, (Below.refl _ _).alloc (Nat.le_refl _) _⟩
    exact Bytes.keep hb fun p hp => World.cell?_alloc_lt w _ p hp
end Go.Proofs.YtfianpjoifcphaaGreat

/- Rec -/
namespace Go.Proofs.YtfianpjoifcphaaGreat
open Go.RowKit
set_option linter.unusedVariables false
set_option maxRecDepth 100000

/-- '.slice A n c' is a row of the call's own (a block from base on) of n records of type t, s numbers each, that hold just xs. -/
def OwnR (w : World) (base : Nat) (t : TypeId) (s : Nat) (A : Option Addr) (n c : Nat) (xs : List Int) : Prop :=
  xs.length = n * s ∧ w.ownsRow base t s (.slice A n c) n (xs.map (Value.int .i64))
section
variable {w w' : World} {base n c s : Nat} {t : TypeId} {A : Option Addr} {xs : List Int}
theorem OwnR.cap (h : OwnR w base t s A n c xs) : n ≤ c ∧ c ≤ maxLen := by
  rcases h.2.2 with ⟨hv, h0⟩ | ⟨g, cap, cur, hv, hb, hh, hc, hm, hs, ht⟩
  · injection hv with _ h1 h2; subst h1; subst h2; exact ⟨Nat.le_refl _, Nat.zero_le _⟩
  · injection hv with _ _ h2; subst h2; exact ⟨hc, hm⟩
theorem OwnR.shape (h : OwnR w base t s A n c xs) (hn : 0 < n) : ∃ g, A = some ⟨g, 0, none⟩ ∧ base ≤ g ∧ g < w.heap.size := by
  rcases h.2.2 with ⟨hv, h0⟩ | ⟨g, cap, cur, hv, hb, hh, hc, hm, hs, ht⟩
  · omega
  · injection hv with h1; exact ⟨g, h1, hb, (Array.getElem?_eq_some_iff.1 hh).1⟩
theorem OwnR.nilc (h : OwnR w base t s A n c xs) : A = none → c = 0 := by
  rcases h.2.2 with ⟨hv, h0⟩ | ⟨g, cap, cur, hv, hb, hh, hc, hm, hs, ht⟩
  · injection hv with _ _ h2; intro _; exact h2
  · injection hv with h1; intro e; rw [h1] at e; cases e
theorem OwnR.block (h : OwnR w base t s A n c xs) : ∀ k, (Value.slice A n c).ownBlock = some k → base ≤ k ∧ k < w.heap.size := h.2.lt
theorem OwnR.ints (h : OwnR w base t s A n c xs) : Ints w w.heap.size A (n * s) xs := by
  refine ⟨h.1, fun hn => ?_⟩
  have hn' : 0 < n := by
    rcases Nat.eq_zero_or_pos n with h0 | h0
    · subst h0; simp at hn
    · exact h0
  obtain ⟨g, rfl, hb, hl⟩ := h.shape hn'
  refine ⟨_, rfl, hl, fun j hj => h.2.cells rfl j _ ?_⟩
  have : j < xs.length := by rw [h.1]; exact hj
  simp [List.getD, this]
theorem OwnR.kept {row : Option Nat} (h : OwnR w base t s A n c xs) (hg : w.grownBy w' row) (hne : ∀ k, row = some k → (Value.slice A n c).ownBlock ≠ some k) : OwnR w' base t s A n c xs :=
  ⟨h.1, h.2.kept hg (by
    rcases hv : (Value.slice A n c).ownBlock with _ | g
    · exact .inl rfl
    · right; intro e; exact hne g e.symm hv)⟩
theorem OwnR.below (h : OwnR w base t s A n c xs) (hg : Below w.heap.size w w') : OwnR w' base t s A n c xs := h.kept (grown_of_below hg none) (by simp)
theorem OwnR.alloc (h : OwnR w base t s A n c xs) (o : Obj) : OwnR (w.alloc o) base t s A n c xs := ⟨h.1, h.2.alloc o⟩
theorem OwnR.drewN (h : OwnR w base t s A n c xs) (k : Nat) : OwnR (w.drewN k) base t s A n c xs := h
theorem OwnR.nil_ (w : World) (base : Nat) (t : TypeId) (s : Nat) : OwnR w base t s none 0 0 [] := ⟨by simp, World.ownsRow_nil _ _ _ _⟩
theorem OwnR.mono {b' : Nat} (h : OwnR w base t s A n c xs) (hb : b' ≤ base) : OwnR w b' t s A n c xs := by
  refine ⟨h.1, h.2.1, ?_⟩
  rcases h.2.2 with h0 | ⟨g, cap, cur, hv, hb', r⟩
  · exact .inl h0
  · exact .inr ⟨g, cap, cur, hv, by omega, r⟩
theorem OwnR.lit (w : World) (base : Nat) (hb : base ≤ w.heap.size) (t : TypeId) (s : Nat) (n : Nat) (xs : List Int) (hl : xs.length = n * s) (hm : n ≤ maxLen) :
    OwnR (w.alloc (.cells (xs.map (Value.int .i64)).toArray t)) base t s (some ⟨w.heap.size, 0, none⟩) n n xs := by
  refine ⟨hl, ?_⟩
  have := World.ownsRow_lit (base := base) (e := t) (size := s) w (xs.map (Value.int .i64)).toArray n hb hm (by simpa using hl)
  simpa using this
theorem OwnR.lit0 (w : World) (base : Nat) (hb : base ≤ w.heap.size) (t : TypeId) (s : Nat) : OwnR (w.alloc (.cells #[] t)) base t s (some ⟨w.heap.size, 0, none⟩) 0 0 [] :=
  OwnR.lit w base hb t s 0 [] (by simp) (Nat.zero_le _)
theorem OwnR.stored {g j : Nat} (h : OwnR w base t s (some ⟨g, 0, none⟩) n c xs) (x : Int) :
    OwnR (w.setCell ⟨g, j, none⟩ (.int .i64 x)) base t s (some ⟨g, 0, none⟩) n c (xs.set j x) ∧ w.grownBy (w.setCell ⟨g, j, none⟩ (.int .i64 x)) (some g) := by
  have := h.2.stored j (.int .i64 x)
  refine ⟨⟨by simpa using h.1, ?_⟩, this.2⟩
  rw [List.map_set]
  exact this.1
theorem OwnR.free {g j : Nat} (h : OwnR w base t s (some ⟨g, 0, none⟩) n c xs) : w.frozen? ⟨g, j, none⟩ = false := h.2.frozenAt j
theorem OwnR.cell {g j : Nat} (h : OwnR w base t s (some ⟨g, 0, none⟩) n c xs) (hj : j < n * s) : w.cell? ⟨g, j, none⟩ = some (.int .i64 (xs.getD j 0)) := by
  rw [h.2.cellAt j hj]
  have : j < xs.length := by rw [h.1]; exact hj
  simp [List.getD, this]
end

theorem below_new (w : World) (o : Obj) : Below w.heap.size w (w.alloc o) := (Below.refl _ _).alloc (Nat.le_refl _) o

theorem grown_undrawn {w w' : World} {row : Option Nat} (h : w.drew.grownBy w' row) : w.grownBy w' row := ⟨h.os, h.tape, h.output, h.size, h.block⟩

theorem below_app_r {B base s n c : Nat} {t : TypeId} {a w w' : World} {A : Option Addr} {xs : List Int} {o : Obj} (h : Below B a w) (hB : B ≤ w.heap.size) (hown : OwnR w base t s A n c xs) (hb : B ≤ base)
    (hg : (w.alloc o).grownBy w' (Value.slice A n c).ownBlock) : Below B a w' :=
  (h.alloc hB o).grown hg (by simp; omega) (fun k hk => by have := (hown.block k hk).1; omega)

/-- what the append of records asks of the types: T a slice of t's, t a struct of s numbers -/
structure RT (T t : TypeId) (s bytes : Nat) (z : Value) : Prop where
  und : Tryz.prog.underlying T = some (.slice t)
  info : (Tryz.prog.info? t).map (fun i => (i.zero, i.size, i.bytes)) = some (some z, s, bytes)
  zs : z.cells.size = s
  pos : 0 < s
  small : bytes ≤ 64

theorem run_append_recs {T t : TypeId} {s bytes : Nat} {z : Value} (hT : RT T t s bytes z) (w : World) (base n c B m d : Nat) (A A' : Option Addr) (xs ys : List Int) (ty : TypeId) (hown : OwnR w base t s A n c xs) (hr : Ints w B A' (m * s) ys)
    (hnm : n + m ≤ 1000000000000) (hbase : base ≤ w.heap.size) :
    ∃ A2 c2 w', (Builtin.append_ #[T, T] ty #[.slice A n c, .slice A' m d]).run Tryz.prog w = .ok (.slice A2 (n + m) c2) w' ∧ OwnR w' base t s A2 (n + m) c2 (xs ++ ys) ∧
      w.grownBy w' (Value.slice A n c).ownBlock ∧ ((Value.slice A2 (n + m) c2).ownBlock = (Value.slice A n c).ownBlock ∨ (Value.slice A2 (n + m) c2).ownBlock = some w.heap.size) := by
  obtain ⟨i0, hi, hz0, hz1, hz2⟩ := info_parts hT.info
  have hpos := hT.pos
  have h0 : m = 0 → ys = [] := fun h => List.eq_nil_of_length_eq_zero (by rw [hr.1, h, Nat.zero_mul])
  have hm0 : 0 < m → 0 < m * s := fun h => Nat.mul_pos h hpos
  rcases A' with _ | ad
  · have hm : m = 0 := by
      rcases Nat.eq_zero_or_pos m with h | h
      · exact h
      · obtain ⟨ad, h', _⟩ := hr.2 (hm0 h)
        cases h'
    subst hm
    rw [h0 rfl]
    exact ⟨A, c, w, run_append_of_nil w base T ty t i0 s hT.und hi _ n _ hown.2 d, by simpa using hown, World.grownBy.refl w _, .inl rfl⟩
  · have hcells : ∀ j u, (ys.map (Value.int .i64))[j]? = some u → w.cell? (ad.add j) = some u := by
      intro j u hu
      rcases Nat.eq_zero_or_pos m with h | h
      · rw [h0 h] at hu; simp at hu
      · obtain ⟨ad', h', _, hc⟩ := hr.2 (hm0 h)
        injection h' with h'
        subst h'
        have hj : j < ys.length := by
          rcases Nat.lt_or_ge j ys.length with hl | hl
          · exact hl
          · rw [List.getElem?_eq_none (by simpa using hl)] at hu; cases hu
        have := hc j (by rw [← hr.1]; exact hj)
        simp [hj] at hu
        rw [this, ← hu]
        simp [List.getD, hj]
    obtain ⟨v', w', hrun, h2, h3, _, h5⟩ := run_append_own_at (P := Tryz.prog) w base T ty t i0 z s bytes hT.und hi hz0 hz1 hz2 hT.zs hT.pos
      (.slice A n c) n (xs.map (Value.int .i64)) hown.2 ad m d (ys.map (Value.int .i64)) (by simp [hr.1]) hcells (by intro u hu; simp at hu; obtain ⟨x, _, rfl⟩ := hu; rfl)
      (by unfold maxLen; omega) (Nat.le_trans (Nat.mul_le_mul hnm hT.small) (by decide)) hbase
    obtain ⟨A2, c2, rfl⟩ := slice_of_own h2
    exact ⟨A2, c2, w', hrun, ⟨by simp [hown.1, hr.1, Nat.add_mul], by simpa using h2⟩, h3, h5⟩

theorem wp_append_recs {T t : TypeId} {s0 bytes : Nat} {z : Value} (hT : RT T t s0 bytes z) {w : World} {o : Oper} {a : Act} {K : Act → World → Prop} {Q : Exit → Act → World → Prop} (s x : Operand)
    (ho : o.op = .call { callee := .builtin .append, args := #[s, x], argTypes := #[T, T] })
    (base n c B m d : Nat) (A A' : Option Addr) (xs ys : List Int) (hs : a.eval s = .slice A n c) (hown : OwnR w base t s0 A n c xs) (hx : a.eval x = .slice A' m d) (hr : Ints w B A' (m * s0) ys)
    (hnm : n + m ≤ 1000000000000) (hbase : base ≤ w.heap.size)
    (h : ∀ A2 c2 w', OwnR w' base t s0 A2 (n + m) c2 (xs ++ ys) → w.grownBy w' (Value.slice A n c).ownBlock →
      ((Value.slice A2 (n + m) c2).ownBlock = (Value.slice A n c).ownBlock ∨ (Value.slice A2 (n + m) c2).ownBlock = some w.heap.size) → K (a.put o.dst (.slice A2 (n + m) c2)) w') : o.wp Tryz.prog a w K Q := by
  obtain ⟨A2, c2, w', hrun, h2, h3, h4⟩ := run_append_recs hT w base n c B m d A A' xs ys o.type hown hr hnm hbase
  unfold Oper.wp execOp
  simp only [ho, resolve, invoke, builtin, Sem.run_bind, Sem.run_pure, Result.andThen_ok, List.map_toArray, List.map_cons, List.map_nil, hs, hx, hrun]
  exact h A2 c2 w' h2 h3 h4

theorem wpList_append_recs {T t : TypeId} {s0 bytes : Nat} {z : Value} (hT : RT T t s0 bytes z) {w : World} {ops : Array Oper} {rest : List Oper} {o : Oper} {a : Act} {Q : Exit → Act → World → Prop} (hgd : o.guard = none) (s x : Operand)
    (ho : o.op = .call { callee := .builtin .append, args := #[s, x], argTypes := #[T, T] })
    (base n c B m d : Nat) (A A' : Option Addr) (xs ys : List Int) (hs : a.eval s = .slice A n c) (hown : OwnR w base t s0 A n c xs) (hx : a.eval x = .slice A' m d) (hr : Ints w B A' (m * s0) ys)
    (hnm : n + m ≤ 1000000000000) (hbase : base ≤ w.heap.size)
    (h : ∀ A2 c2 w', OwnR w' base t s0 A2 (n + m) c2 (xs ++ ys) → w.grownBy w' (Value.slice A n c).ownBlock →
      ((Value.slice A2 (n + m) c2).ownBlock = (Value.slice A n c).ownBlock ∨ (Value.slice A2 (n + m) c2).ownBlock = some w.heap.size) → wpList Tryz.prog ops Q rest (a.put o.dst (.slice A2 (n + m) c2)) w') :
    wpList Tryz.prog ops Q (o :: rest) a w :=
  wpList_plain hgd fun _ hK => wp_append_recs hT s x ho base n c B m d A A' xs ys hs hown hx hr hnm hbase fun A2 c2 w' h2 h3 h4 => hK _ _ (h A2 c2 w' h2 h3 h4)

theorem step_append_recs {T t : TypeId} {s0 bytes : Nat} {z : Value} (hT : RT T t s0 bytes z) {w : World} {ops : Array Oper} {o : Oper} {a : Act} {K : Act → World → Prop} {Q : Exit → Act → World → Prop} {E : Prop} (hgd : o.guard = none) (s x : Operand)
    (ho : o.op = .call { callee := .builtin .append, args := #[s, x], argTypes := #[T, T] })
    (base n c B m d : Nat) (A A' : Option Addr) (xs ys : List Int) (hs : a.eval s = .slice A n c) (hown : OwnR w base t s0 A n c xs) (hx : a.eval x = .slice A' m d) (hr : Ints w B A' (m * s0) ys)
    (hnm : n + m ≤ 1000000000000) (hbase : base ≤ w.heap.size)
    (h : ∀ A2 c2 w', OwnR w' base t s0 A2 (n + m) c2 (xs ++ ys) → w.grownBy w' (Value.slice A n c).ownBlock →
      ((Value.slice A2 (n + m) c2).ownBlock = (Value.slice A n c).ownBlock ∨ (Value.slice A2 (n + m) c2).ownBlock = some w.heap.size) → K (a.put o.dst (.slice A2 (n + m) c2)) w') :
    if Region.wanted o (yielded ops a.tmps) = true then Oper.wp Tryz.prog o a w K Q else E := by
  have hw : Region.wanted o (yielded ops a.tmps) = true := by simp [Region.wanted, hgd]
  rw [if_pos hw]
  exact wp_append_recs hT s x ho base n c B m d A A' xs ys hs hown hx hr hnm hbase h

theorem pairT : RT 115 221 2 16 (.agg #[.int .i64 0, .int .i64 0]) := ⟨Tryz.underlying115, by kernel_rfl, by decide, by decide, by decide⟩
theorem coldT : RT 186 228 3 24 (.agg #[.int .i64 0, .int .i64 0, .int .i64 0]) := ⟨Tryz.underlying186, by kernel_rfl, by decide, by decide, by decide⟩

/-- one new record of two or three numbers reads -/
theorem Ints.rec2 (w : World) (t : TypeId) (x y : Int) : Ints (w.alloc (.cells #[.int .i64 x, .int .i64 y] t)) (w.heap.size + 1) (some ⟨w.heap.size, 0, none⟩) (1 * 2) [x, y] := by
  refine ⟨rfl, fun _ => ⟨_, rfl, by simp, fun j hj => ?_⟩⟩
  rw [add_plain']
  have h := (Blk.new w t #[.int .i64 x, .int .i64 y]).cell j
  rw [h]
  rcases j with _ | _ | j
  · rfl
  · rfl
  · omega
theorem Ints.rec3 (w : World) (t : TypeId) (x y z : Int) : Ints (w.alloc (.cells #[.int .i64 x, .int .i64 y, .int .i64 z] t)) (w.heap.size + 1) (some ⟨w.heap.size, 0, none⟩) (1 * 3) [x, y, z] := by
  refine ⟨rfl, fun _ => ⟨_, rfl, by simp, fun j hj => ?_⟩⟩
  rw [add_plain']
  have h := (Blk.new w t #[.int .i64 x, .int .i64 y, .int .i64 z]).cell j
  rw [h]
  rcases j with _ | _ | _ | j
  · rfl
  · rfl
  · rfl
  · omega
end Go.Proofs.YtfianpjoifcphaaGreat

/- Zone -/
namespace Go.Proofs.YtfianpjoifcphaaGreat
open Go.RowKit
set_option linter.unusedVariables false
set_option maxRecDepth 100000

/-- A zone: its words, how many last, whether it is closed; and where its words lie. -/
structure Zq where
  words : List Int
  synced : Int
  full : Bool
  addr : Option Addr
  cap : Nat
/-- the zone as the document sees it -/
def Zq.zn (q : Zq) : List Int × Int × Bool := (q.words, q.synced, q.full)
def Zq.sl (q : Zq) : Value := .slice q.addr q.words.length q.cap
def Zq.vals (q : Zq) : List Value := [q.sl, .int .i64 q.synced, .bool q.full]
def flat : List Zq → List Value
  | [] => []
  | q :: qs => q.sl :: .int .i64 q.synced :: .bool q.full :: flat qs
/-- a device -/
abbrev Dev := List (List Int × Int × Bool)
def zns (qs : List Zq) : Dev := qs.map Zq.zn

theorem flat_length (qs : List Zq) : (flat qs).length = qs.length * 3 := by
  induction qs with
  | nil => rfl
  | cons q qs ih => simp only [flat, List.length_cons, ih]; omega
theorem flat_append (qs rs : List Zq) : flat (qs ++ rs) = flat qs ++ flat rs := by
  induction qs with
  | nil => rfl
  | cons q qs ih => simp only [flat, List.cons_append, ih]
theorem flat_get {qs : List Zq} {k : Nat} {q : Zq} (h : qs[k]? = some q) (j : Nat) (hj : j < 3) : (flat qs)[k * 3 + j]? = q.vals[j]? := by
  induction qs generalizing k with
  | nil => simp at h
  | cons r qs ih =>
    rcases k with _ | k
    · simp at h
      subst h
      rcases j with _ | _ | _ | j
      · rfl
      · rfl
      · rfl
      · omega
    · simp at h
      have := ih h
      rw [show (k + 1) * 3 + j = (k * 3 + j) + 1 + 1 + 1 by omega]
      simpa [flat] using this
theorem flat_set {qs : List Zq} {k : Nat} {q q' : Zq} (h : qs[k]? = some q) (j : Nat) (v : Value) (hj : j < 3) (hv : q'.vals = q.vals.set j v) : (flat qs).set (k * 3 + j) v = flat (qs.set k q') := by
  induction qs generalizing k with
  | nil => simp at h
  | cons r qs ih =>
    rcases k with _ | k
    · simp at h
      subst h
      obtain ⟨h0, h1, h2⟩ : q'.sl = (r.vals.set j v).getD 0 (.bool false) ∧ (.int .i64 q'.synced : Value) = (r.vals.set j v).getD 1 (.bool false) ∧ (.bool q'.full : Value) = (r.vals.set j v).getD 2 (.bool false) := by
        rw [← hv]
        exact ⟨rfl, rfl, rfl⟩
      simp only [List.set_cons_zero, flat]
      rw [h0, h1, h2]
      rcases j with _ | _ | _ | j
      · rfl
      · rfl
      · rfl
      · omega
    · simp at h
      have := ih h
      rw [show (k + 1) * 3 + j = (k * 3 + j) + 1 + 1 + 1 by omega]
      simpa [flat] using this
theorem flat_one (qs : List Zq) : ∀ u ∈ flat qs, u.oneCell' = true := by
  induction qs with
  | nil => simp [flat]
  | cons q qs ih =>
    intro u hu
    simp only [flat, List.mem_cons] at hu
    rcases hu with rfl | rfl | rfl | hu
    · rfl
    · rfl
    · rfl
    · exact ih u hu

/-! ### A device that can be read -/
def Zns (w : World) (B : Nat) (A : Option Addr) (n : Nat) (qs : List Zq) : Prop :=
  qs.length = n ∧ (0 < n → ∃ ad, A = some ad ∧ ad.block < B ∧ ∀ j u, (flat qs)[j]? = some u → w.cell? (ad.add j) = some u) ∧
    ∀ q ∈ qs, Ints w B q.addr q.words.length q.words ∧ q.words.length ≤ q.cap ∧ q.cap ≤ maxLen
section
variable {w w' : World} {B B' n : Nat} {A : Option Addr} {qs : List Zq}
theorem Zns.nil_ (w : World) (B : Nat) (A : Option Addr) : Zns w B A 0 [] := ⟨rfl, fun h => absurd h (by omega), by simp⟩
theorem Zns.at_ (h : Zns w B A n qs) {k : Nat} {q : Zq} (hk : qs[k]? = some q) : ∃ ad p, A = some ad ∧ ad.add (k * 3) = p ∧ p.block < B ∧ w.cell? p = some q.sl ∧
    w.cell? ⟨p.block, p.off + 1, none⟩ = some (.int .i64 q.synced) ∧ w.cell? ⟨p.block, p.off + 2, none⟩ = some (.bool q.full) := by
  have hl : k < n := by rw [← h.1]; exact (List.getElem?_eq_some_iff.1 hk).1
  obtain ⟨ad, e, hb, hc⟩ := h.2.1 (by omega)
  have hc0 := hc (k * 3 + 0) _ (by rw [flat_get hk 0 (by omega)]; rfl)
  have hc1 := hc (k * 3 + 1) _ (by rw [flat_get hk 1 (by omega)]; rfl)
  have hc2 := hc (k * 3 + 2) _ (by rw [flat_get hk 2 (by omega)]; rfl)
  have next : ∀ {i : Nat} {v : Value}, i ≠ 0 → w.cell? (ad.add (k * 3 + i)) = some v → w.cell? ⟨(ad.add (k * 3)).block, (ad.add (k * 3)).off + i, none⟩ = some v := by
    intro i v hi h
    rw [← add_of_add] at h
    simpa [Addr.add, hi] using h
  exact ⟨ad, _, e, rfl, by rw [block_of_add]; exact hb, hc0, next (by decide) hc1, next (by decide) hc2⟩
theorem Zns.words (h : Zns w B A n qs) {k : Nat} {q : Zq} (hk : qs[k]? = some q) : Ints w B q.addr q.words.length q.words ∧ q.words.length ≤ q.cap ∧ q.cap ≤ maxLen := h.2.2 q (List.mem_of_getElem? hk)
theorem Zns.keep (h : Zns w B A n qs) (hk : ∀ p : Addr, p.block < B → w'.cell? p = w.cell? p) : Zns w' B A n qs :=
  ⟨h.1, fun hn => by
    obtain ⟨ad, e, hb, hc⟩ := h.2.1 hn
    exact ⟨ad, e, hb, fun j u hu => (hk _ (by rw [block_of_add]; exact hb)).trans (hc j u hu)⟩, fun q hq => ⟨(h.2.2 q hq).1.keep hk, (h.2.2 q hq).2⟩⟩
theorem Zns.more (h : Zns w B A n qs) (hB : B ≤ B') : Zns w B' A n qs :=
  ⟨h.1, fun hn => by
    obtain ⟨ad, e, hb, hc⟩ := h.2.1 hn
    exact ⟨ad, e, by omega, hc⟩, fun q hq => ⟨(h.2.2 q hq).1.more hB, (h.2.2 q hq).2⟩⟩
theorem Zns.below {B2 : Nat} (h : Zns w B A n qs) (hb : Below B2 w w') (hB : B ≤ B2) : Zns w' B A n qs := h.keep fun _ hp => hb.cell (by omega)
theorem Zns.drewN (h : Zns w B A n qs) (k : Nat) : Zns (w.drewN k) B A n qs := h.keep fun _ _ => rfl
theorem Zns.alloc (h : Zns w B A n qs) (hB : B ≤ w.heap.size) (o : Obj) : Zns (w.alloc o) B A n qs := h.keep fun p hp => World.cell?_alloc_lt w o p (by omega)
theorem Zns.grown (h : Zns w B A n qs) {row : Option Nat} (hg : w.grownBy w' row) (hB : B ≤ w.heap.size) (hr : ∀ g, row = some g → B ≤ g) : Zns w' B A n qs :=
  h.keep fun p hp => World.cell?_of_block (hg.block p.block (by omega) (fun e => by have := hr _ e.symm; omega))
theorem Zns.firsts (h : Zns w B A n qs) {m : Nat} (hm : m ≤ n) : Zns w B A m (qs.take m) := by
  refine ⟨by rw [List.length_take, h.1]; omega, fun hn => ?_, fun q hq => h.2.2 q (List.mem_of_mem_take hq)⟩
  obtain ⟨ad, e, hb, hc⟩ := h.2.1 (by omega)
  refine ⟨ad, e, hb, fun j u hu => hc j u ?_⟩
  have e2 : flat qs = flat (qs.take m) ++ flat (qs.drop m) := by rw [← flat_append, List.take_append_drop]
  rw [e2, List.getElem?_append_left (List.getElem?_eq_some_iff.1 hu).1]
  exact hu
end

/-! ### A device that the call owns -/
structure OwnZ (w : World) (base : Nat) (A : Option Addr) (n c : Nat) (qs : List Zq) : Prop where
  len : qs.length = n
  row : w.ownsRow base 69 3 (.slice A n c) n (flat qs)
  own : ∀ (k : Nat) (q : Zq), qs[k]? = some q → Own w base q.addr q.words.length q.cap q.words
  sep : ∀ (i j : Nat) (q r : Zq), qs[i]? = some q → qs[j]? = some r → i ≠ j → ∀ g, q.sl.ownBlock = some g → r.sl.ownBlock ≠ some g

theorem rows_ne {w : World} {b b' t t' s s' n n' : Nat} {v v' : Value} {xs ys : List Value} (h : w.ownsRow b t s v n xs) (h' : w.ownsRow b' t' s' v' n' ys) (ht : t ≠ t') {g : Nat} (hv : v.ownBlock = some g) : v'.ownBlock ≠ some g := by
  intro hv'
  rcases h.2 with ⟨rfl, _⟩ | ⟨g1, cap1, cur1, rfl, _, hh, _⟩
  · simp [Value.ownBlock] at hv
  · rcases h'.2 with ⟨rfl, _⟩ | ⟨g2, cap2, cur2, rfl, _, hh', _⟩
    · simp [Value.ownBlock] at hv'
    · simp [Value.ownBlock] at hv hv'
      subst hv hv'
      rw [hh] at hh'
      simp at hh'
      exact ht hh'.2

section
variable {w w' : World} {base n c : Nat} {A : Option Addr} {qs : List Zq}
theorem OwnZ.cap (h : OwnZ w base A n c qs) : n ≤ c ∧ c ≤ maxLen := by
  rcases h.row.2 with ⟨hv, h0⟩ | ⟨g, cap, cur, hv, hb, hh, hc, hm, hs, ht⟩
  · injection hv with _ h1 h2; subst h1; subst h2; exact ⟨Nat.le_refl _, Nat.zero_le _⟩
  · injection hv with _ _ h2; subst h2; exact ⟨hc, hm⟩
theorem OwnZ.shape (h : OwnZ w base A n c qs) (hn : 0 < n) : ∃ g, A = some ⟨g, 0, none⟩ ∧ base ≤ g ∧ g < w.heap.size := by
  rcases h.row.2 with ⟨hv, h0⟩ | ⟨g, cap, cur, hv, hb, hh, hc, hm, hs, ht⟩
  · omega
  · injection hv with h1; exact ⟨g, h1, hb, (Array.getElem?_eq_some_iff.1 hh).1⟩
theorem OwnZ.block (h : OwnZ w base A n c qs) : ∀ k, (Value.slice A n c).ownBlock = some k → base ≤ k ∧ k < w.heap.size := h.row.lt
theorem OwnZ.wblock (h : OwnZ w base A n c qs) {k : Nat} {q : Zq} (hk : qs[k]? = some q) : ∀ g, q.sl.ownBlock = some g → base ≤ g ∧ g < w.heap.size := (h.own k q hk).block
/-- words lie elsewhere than zones -/
theorem OwnZ.far (h : OwnZ w base A n c qs) {k : Nat} {q : Zq} (hk : qs[k]? = some q) {g : Nat} (hg : (Value.slice A n c).ownBlock = some g) : q.sl.ownBlock ≠ some g :=
  rows_ne h.row (h.own k q hk).2 (by decide) hg
theorem OwnZ.zns (h : OwnZ w base A n c qs) : Zns w w.heap.size A n qs := by
  refine ⟨h.len, fun hn => ?_, fun q hq => ?_⟩
  · obtain ⟨g, rfl, hb, hl⟩ := h.shape hn
    exact ⟨_, rfl, hl, fun j u hu => h.row.cells rfl j u hu⟩
  · obtain ⟨k, hk⟩ := List.getElem?_of_mem hq
    exact ⟨(h.own k q hk).ints, (h.own k q hk).cap⟩
theorem OwnZ.kept {row : Option Nat} (h : OwnZ w base A n c qs) (hg : w.grownBy w' row) (hne : ∀ g, row = some g → (Value.slice A n c).ownBlock ≠ some g ∧ ∀ (k : Nat) (q : Zq), qs[k]? = some q → q.sl.ownBlock ≠ some g) : OwnZ w' base A n c qs :=
  ⟨h.len, h.row.kept hg (by
    rcases hv : (Value.slice A n c).ownBlock with _ | g
    · exact .inl rfl
    · right; intro e; exact (hne g e.symm).1 hv), fun k q hk => (h.own k q hk).kept hg (fun g hr => (hne g hr).2 k q hk), h.sep⟩
theorem OwnZ.below (h : OwnZ w base A n c qs) (hg : Below w.heap.size w w') : OwnZ w' base A n c qs := h.kept (grown_of_below hg none) (by simp)
theorem OwnZ.alloc (h : OwnZ w base A n c qs) (o : Obj) : OwnZ (w.alloc o) base A n c qs := ⟨h.len, h.row.alloc o, fun k q hk => (h.own k q hk).alloc o, h.sep⟩
theorem OwnZ.drewN (h : OwnZ w base A n c qs) (k : Nat) : OwnZ (w.drewN k) base A n c qs := ⟨h.len, h.row, fun j q hj => (h.own j q hj).drewN k, h.sep⟩
theorem OwnZ.nil_ (w : World) (base : Nat) : OwnZ w base none 0 0 [] := ⟨rfl, World.ownsRow_nil _ _ _ _, by simp, by simp⟩
theorem OwnZ.mono {b' : Nat} (h : OwnZ w base A n c qs) (hb : b' ≤ base) : OwnZ w b' A n c qs := by
  refine ⟨h.len, ⟨h.row.1, ?_⟩, fun k q hk => (h.own k q hk).mono hb, h.sep⟩
  rcases h.row.2 with h0 | ⟨g, cap, cur, hv, hb', r⟩
  · exact .inl h0
  · exact .inr ⟨g, cap, cur, hv, by omega, r⟩
theorem OwnZ.lit0 (w : World) (base : Nat) (hb : base ≤ w.heap.size) : OwnZ (w.alloc (.cells #[] 69)) base (some ⟨w.heap.size, 0, none⟩) 0 0 [] := by
  refine ⟨rfl, ?_, by simp, by simp⟩
  have := World.ownsRow_lit (base := base) (e := 69) (size := 3) w #[] 0 hb (Nat.zero_le _) (by simp)
  simpa [flat] using this
end

/-- a store into one cell of zone k, behind work that may have moved that zone's words -/
theorem OwnZ.put {w w3 : World} {base g n c k : Nat} {qs : List Zq} {q : Zq} {row : Option Nat} (h : OwnZ w base (some ⟨g, 0, none⟩) n c qs) (hk : qs[k]? = some q) (hg : w.grownBy w3 row)
    (hrow : ∀ b, row = some b → b ≠ g ∧ ∀ (i : Nat) (r : Zq), qs[i]? = some r → i ≠ k → r.sl.ownBlock ≠ some b) (q' : Zq) (j : Nat) (v : Value) (hj : j < 3) (hv : q'.vals = q.vals.set j v)
    (hq' : Own w3 base q'.addr q'.words.length q'.cap q'.words) (hsep : ∀ (i : Nat) (r : Zq), qs[i]? = some r → i ≠ k → ∀ b, r.sl.ownBlock = some b → q'.sl.ownBlock ≠ some b) :
    OwnZ (w3.setCell ⟨g, k * 3 + j, none⟩ v) base (some ⟨g, 0, none⟩) n c (qs.set k q') ∧ w3.grownBy (w3.setCell ⟨g, k * 3 + j, none⟩ v) (some g) := by
  have hob : (Value.slice (some (⟨g, 0, none⟩ : Addr)) n c).ownBlock = some g := rfl
  have hr := h.row.kept hg (by
    rcases row with _ | b
    · exact .inr (by rw [hob]; simp)
    · exact .inr (by rw [hob]; intro e; injection e with e; exact (hrow b rfl).1 e.symm))
  have hst := hr.stored (k * 3 + j) v
  rw [flat_set hk j v hj hv] at hst
  refine ⟨⟨by rw [List.length_set]; exact h.len, hst.1, fun i r hi => ?_, fun i i' r r' hi hi' hii b hb => ?_⟩, hst.2⟩
  · rw [List.getElem?_set] at hi
    split at hi
    · split at hi
      · injection hi with hi
        subst hi
        exact hq'.kept hst.2 (fun b hb => by injection hb with hb; subst hb; exact rows_ne hr hq'.2 (by decide) hob)
      · cases hi
    · next hne =>
      have ho := (h.own i r hi).kept hg (fun b hb => (hrow b hb).2 i r hi (fun e => hne e.symm))
      exact ho.kept hst.2 (fun b hb => by injection hb with hb; subst hb; exact rows_ne hr ho.2 (by decide) hob)
  · rw [List.getElem?_set] at hi hi'
    split at hi
    · next e1 =>
      split at hi
      · injection hi with hi
        subst hi
        split at hi'
        · next e2 => exact absurd (e1.symm.trans e2) hii
        · next e2 => exact fun e => hsep i' r' hi' (fun e3 => e2 e3.symm) b e hb
      · cases hi
    · next e1 =>
      split at hi'
      · split at hi'
        · injection hi' with hi'
          subst hi'
          exact hsep i r hi (fun e3 => e1 e3.symm) b hb
        · cases hi'
      · exact h.sep i i' r r' hi hi' hii b hb

/-- .. where its words stay -/
theorem OwnZ.put_in {w : World} {base g n c k : Nat} {qs : List Zq} {q : Zq} (h : OwnZ w base (some ⟨g, 0, none⟩) n c qs) (hk : qs[k]? = some q) (q' : Zq) (j : Nat) (v : Value) (hj : j < 3) (hv : q'.vals = q.vals.set j v)
    (h1 : q'.words = q.words) (h2 : q'.addr = q.addr) (h3 : q'.cap = q.cap) :
    OwnZ (w.setCell ⟨g, k * 3 + j, none⟩ v) base (some ⟨g, 0, none⟩) n c (qs.set k q') ∧ w.grownBy (w.setCell ⟨g, k * 3 + j, none⟩ v) (some g) := by
  refine h.put hk (World.grownBy.refl w none) (by simp) q' j v hj hv ?_ ?_
  · rw [h1, h2, h3]; exact h.own k q hk
  · intro i r hi hik b hb
    have e : q'.sl = q.sl := by unfold Zq.sl; rw [h1, h2, h3]
    rw [e]
    exact h.sep i k r q hi hk hik b hb
theorem OwnZ.free {w : World} {base g n c j : Nat} {qs : List Zq} (h : OwnZ w base (some ⟨g, 0, none⟩) n c qs) : w.frozen? ⟨g, j, none⟩ = false := h.row.frozenAt j

/-! ### append of a zone -/
theorem run_append_vals {T t : TypeId} {s bytes : Nat} {z : Value} (hT : RT T t s bytes z) (w : World) (base n c m d : Nat) (A : Option Addr) (ad : Addr) (vs us : List Value) (ty : TypeId) (hown : w.ownsRow base t s (.slice A n c) n vs)
    (hu : us.length = m * s) (hone : ∀ u ∈ us, u.oneCell' = true) (hr : ∀ j u, us[j]? = some u → w.cell? (ad.add j) = some u) (hnm : n + m ≤ 1000000000000) (hbase : base ≤ w.heap.size) :
    ∃ A2 c2 w', (Builtin.append_ #[T, T] ty #[.slice A n c, .slice (some ad) m d]).run Tryz.prog w = .ok (.slice A2 (n + m) c2) w' ∧ w'.ownsRow base t s (.slice A2 (n + m) c2) (n + m) (vs ++ us) ∧
      w.grownBy w' (Value.slice A n c).ownBlock ∧ ((Value.slice A2 (n + m) c2).ownBlock = (Value.slice A n c).ownBlock ∨ (Value.slice A2 (n + m) c2).ownBlock = some w.heap.size) := by
  obtain ⟨i0, hi, hz0, hz1, hz2⟩ := info_parts hT.info
  obtain ⟨v', w', hrun, h2, h3, _, h5⟩ := run_append_own_at (P := Tryz.prog) w base T ty t i0 z s bytes hT.und hi hz0 hz1 hz2 hT.zs hT.pos
    (.slice A n c) n vs hown ad m d us hu hr hone
    (by unfold maxLen; omega) (Nat.le_trans (Nat.mul_le_mul hnm hT.small) (by decide)) hbase
  obtain ⟨A2, c2, rfl⟩ := slice_of_own h2
  exact ⟨A2, c2, w', hrun, h2, h3, h5⟩

theorem zoneT : RT 23 69 3 40 (.agg #[.slice none 0 0, .int .i64 0, .bool false]) := ⟨Tryz.underlying23, by kernel_rfl, by decide, by decide, by decide⟩

/-- 'append(out, z)': z one zone that lies in a block of its own -/
theorem run_append_zone (w : World) (base n c d : Nat) (A : Option Addr) (ad : Addr) (qs : List Zq) (q : Zq) (ty : TypeId) (hown : OwnZ w base A n c qs)
    (hr : ∀ j u, q.vals[j]? = some u → w.cell? (ad.add j) = some u) (hq : Own w base q.addr q.words.length q.cap q.words) (hsep : ∀ (k : Nat) (r : Zq), qs[k]? = some r → ∀ g, r.sl.ownBlock = some g → q.sl.ownBlock ≠ some g)
    (hn : n ≤ 100000000000) (hbase : base ≤ w.heap.size) :
    ∃ A2 c2 w', (Builtin.append_ #[23, 23] ty #[.slice A n c, .slice (some ad) 1 d]).run Tryz.prog w = .ok (.slice A2 (n + 1) c2) w' ∧ OwnZ w' base A2 (n + 1) c2 (qs ++ [q]) ∧
      w.grownBy w' (Value.slice A n c).ownBlock ∧ ((Value.slice A2 (n + 1) c2).ownBlock = (Value.slice A n c).ownBlock ∨ (Value.slice A2 (n + 1) c2).ownBlock = some w.heap.size) := by
  obtain ⟨A2, c2, w', hrun, h2, h3, h4⟩ := run_append_vals zoneT w base n c 1 d A ad (flat qs) (flat [q]) ty hown.row rfl (flat_one _) hr (by omega) hbase
  rw [← flat_append] at h2
  have get : ∀ {k r}, (qs ++ [q])[k]? = some r → qs[k]? = some r ∨ (k = n ∧ r = q) := by
    intro k r hk
    rcases Nat.lt_or_ge k qs.length with h | h
    · exact .inl (by rwa [List.getElem?_append_left h] at hk)
    · rw [List.getElem?_append_right h] at hk
      rcases e : k - qs.length with _ | i
      · rw [e] at hk
        simp at hk
        exact .inr ⟨by have := hown.len; omega, hk.symm⟩
      · rw [e] at hk
        simp at hk
  refine ⟨A2, c2, w', hrun, ⟨by simp [hown.len], h2, fun k r hk => ?_, fun i j r r' hi hj hij g hg => ?_⟩, h3, h4⟩
  · rcases get hk with hk | ⟨_, rfl⟩
    · exact (hown.own k r hk).kept h3 (fun g hg => hown.far hk hg)
    · exact hq.kept h3 (fun g hg => rows_ne hown.row hq.2 (by decide) hg)
  · rcases get hi with hi' | ⟨ei, er⟩
    · rcases get hj with hj' | ⟨ej, er'⟩
      · exact hown.sep i j r r' hi' hj' hij g hg
      · rw [er']
        exact hsep i r hi' g hg
    · rcases get hj with hj' | ⟨ej, er'⟩
      · intro h
        rw [er] at hg
        exact hsep j r' hj' g h hg
      · exact absurd (ei.trans ej.symm) hij

theorem wp_append_zone {w : World} {o : Oper} {a : Act} {K : Act → World → Prop} {Q : Exit → Act → World → Prop} (s x : Operand)
    (ho : o.op = .call { callee := .builtin .append, args := #[s, x], argTypes := #[23, 23] })
    (base n c d : Nat) (A : Option Addr) (ad : Addr) (qs : List Zq) (q : Zq) (hs : a.eval s = .slice A n c) (hx : a.eval x = .slice (some ad) 1 d) (hown : OwnZ w base A n c qs)
    (hr : ∀ j u, q.vals[j]? = some u → w.cell? (ad.add j) = some u) (hq : Own w base q.addr q.words.length q.cap q.words) (hsep : ∀ (k : Nat) (r : Zq), qs[k]? = some r → ∀ g, r.sl.ownBlock = some g → q.sl.ownBlock ≠ some g)
    (hn : n ≤ 100000000000) (hbase : base ≤ w.heap.size)
    (h : ∀ A2 c2 w', OwnZ w' base A2 (n + 1) c2 (qs ++ [q]) → w.grownBy w' (Value.slice A n c).ownBlock →
      ((Value.slice A2 (n + 1) c2).ownBlock = (Value.slice A n c).ownBlock ∨ (Value.slice A2 (n + 1) c2).ownBlock = some w.heap.size) → K (a.put o.dst (.slice A2 (n + 1) c2)) w') : o.wp Tryz.prog a w K Q := by
  obtain ⟨A2, c2, w', hrun, h2, h3, h4⟩ := run_append_zone w base n c d A ad qs q o.type hown hr hq hsep hn hbase
  unfold Oper.wp execOp
  simp only [ho, resolve, invoke, builtin, Sem.run_bind, Sem.run_pure, Result.andThen_ok, List.map_toArray, List.map_cons, List.map_nil, hs, hx, hrun]
  exact h A2 c2 w' h2 h3 h4

theorem wpList_append_zone {w : World} {ops : Array Oper} {rest : List Oper} {o : Oper} {a : Act} {Q : Exit → Act → World → Prop} (hgd : o.guard = none) (s x : Operand)
    (ho : o.op = .call { callee := .builtin .append, args := #[s, x], argTypes := #[23, 23] })
    (base n c d : Nat) (A : Option Addr) (ad : Addr) (qs : List Zq) (q : Zq) (hs : a.eval s = .slice A n c) (hx : a.eval x = .slice (some ad) 1 d) (hown : OwnZ w base A n c qs)
    (hr : ∀ j u, q.vals[j]? = some u → w.cell? (ad.add j) = some u) (hq : Own w base q.addr q.words.length q.cap q.words) (hsep : ∀ (k : Nat) (r : Zq), qs[k]? = some r → ∀ g, r.sl.ownBlock = some g → q.sl.ownBlock ≠ some g)
    (hn : n ≤ 100000000000) (hbase : base ≤ w.heap.size)
    (h : ∀ A2 c2 w', OwnZ w' base A2 (n + 1) c2 (qs ++ [q]) → w.grownBy w' (Value.slice A n c).ownBlock →
      ((Value.slice A2 (n + 1) c2).ownBlock = (Value.slice A n c).ownBlock ∨ (Value.slice A2 (n + 1) c2).ownBlock = some w.heap.size) → wpList Tryz.prog ops Q rest (a.put o.dst (.slice A2 (n + 1) c2)) w') :
    wpList Tryz.prog ops Q (o :: rest) a w :=
  wpList_plain hgd fun _ hK => wp_append_zone s x ho base n c d A ad qs q hs hx hown hr hq hsep hn hbase fun A2 c2 w' h2 h3 h4 => hK _ _ (h A2 c2 w' h2 h3 h4)

theorem step_append_zone {w : World} {ops : Array Oper} {o : Oper} {a : Act} {K : Act → World → Prop} {Q : Exit → Act → World → Prop} {E : Prop} (hgd : o.guard = none) (s x : Operand)
    (ho : o.op = .call { callee := .builtin .append, args := #[s, x], argTypes := #[23, 23] })
    (base n c d : Nat) (A : Option Addr) (ad : Addr) (qs : List Zq) (q : Zq) (hs : a.eval s = .slice A n c) (hx : a.eval x = .slice (some ad) 1 d) (hown : OwnZ w base A n c qs)
    (hr : ∀ j u, q.vals[j]? = some u → w.cell? (ad.add j) = some u) (hq : Own w base q.addr q.words.length q.cap q.words) (hsep : ∀ (k : Nat) (r : Zq), qs[k]? = some r → ∀ g, r.sl.ownBlock = some g → q.sl.ownBlock ≠ some g)
    (hn : n ≤ 100000000000) (hbase : base ≤ w.heap.size)
    (h : ∀ A2 c2 w', OwnZ w' base A2 (n + 1) c2 (qs ++ [q]) → w.grownBy w' (Value.slice A n c).ownBlock →
      ((Value.slice A2 (n + 1) c2).ownBlock = (Value.slice A n c).ownBlock ∨ (Value.slice A2 (n + 1) c2).ownBlock = some w.heap.size) → K (a.put o.dst (.slice A2 (n + 1) c2)) w') :
    if Region.wanted o (yielded ops a.tmps) = true then Oper.wp Tryz.prog o a w K Q else E := by
  have hw : Region.wanted o (yielded ops a.tmps) = true := by simp [Region.wanted, hgd]
  rw [if_pos hw]
  exact wp_append_zone s x ho base n c d A ad qs q hs hx hown hr hq hsep hn hbase h

/-- a new zone's cells -/
theorem zone_cells (w : World) (q : Zq) : ∀ j u, q.vals[j]? = some u → (w.alloc (.cells #[q.sl, .int .i64 q.synced, .bool q.full] 69)).cell? (Addr.add ⟨w.heap.size, 0, none⟩ j) = some u := by
  intro j u hu
  rw [add_plain', (Blk.new w 69 #[q.sl, .int .i64 q.synced, .bool q.full]).cell j]
  rcases j with _ | _ | _ | j
  · exact hu
  · exact hu
  · exact hu
  · simp [Zq.vals] at hu
end Go.Proofs.YtfianpjoifcphaaGreat

/- Obj -/
namespace Go.Proofs.YtfianpjoifcphaaGreat
open Go.RowKit
set_option linter.unusedVariables false
set_option maxRecDepth 100000

/-- An object: its number, its values; and where its values lie. -/
structure Oq where
  id : Int
  vals : List Int
  addr : Option Addr
  cap : Nat
/-- the object as the document sees it -/
def Oq.ob (q : Oq) : Int × List Int := (q.id, q.vals)
def Oq.sl (q : Oq) : Value := .slice q.addr q.vals.length q.cap
def Oq.cells (q : Oq) : List Value := [.int .i64 q.id, q.sl]
def flatO : List Oq → List Value
  | [] => []
  | q :: qs => .int .i64 q.id :: q.sl :: flatO qs
/-- a store -/
abbrev Sto := List (Int × List Int)
def obs (qs : List Oq) : Sto := qs.map Oq.ob

theorem flatO_length (qs : List Oq) : (flatO qs).length = qs.length * 2 := by
  induction qs with
  | nil => rfl
  | cons q qs ih => simp only [flatO, List.length_cons, ih]; omega
theorem flatO_append (qs rs : List Oq) : flatO (qs ++ rs) = flatO qs ++ flatO rs := by
  induction qs with
  | nil => rfl
  | cons q qs ih => simp only [flatO, List.cons_append, ih]
theorem flatO_get {qs : List Oq} {k : Nat} {q : Oq} (h : qs[k]? = some q) (j : Nat) (hj : j < 2) : (flatO qs)[k * 2 + j]? = q.cells[j]? := by
  induction qs generalizing k with
  | nil => simp at h
  | cons r qs ih =>
    rcases k with _ | k
    · simp at h
      subst h
      rcases j with _ | _ | j
      · rfl
      · rfl
      · omega
    · simp at h
      have := ih h
      rw [show (k + 1) * 2 + j = (k * 2 + j) + 1 + 1 by omega]
      simpa [flatO] using this
theorem flatO_set {qs : List Oq} {k : Nat} {q q' : Oq} (h : qs[k]? = some q) (j : Nat) (v : Value) (hj : j < 2) (hv : q'.cells = q.cells.set j v) : (flatO qs).set (k * 2 + j) v = flatO (qs.set k q') := by
  induction qs generalizing k with
  | nil => simp at h
  | cons r qs ih =>
    rcases k with _ | k
    · simp at h
      subst h
      obtain ⟨h0, h1⟩ : (.int .i64 q'.id : Value) = (r.cells.set j v).getD 0 (.bool false) ∧ q'.sl = (r.cells.set j v).getD 1 (.bool false) := by
        rw [← hv]
        exact ⟨rfl, rfl⟩
      simp only [List.set_cons_zero, flatO]
      rw [h0, h1]
      rcases j with _ | _ | j
      · rfl
      · rfl
      · omega
    · simp at h
      have := ih h
      rw [show (k + 1) * 2 + j = (k * 2 + j) + 1 + 1 by omega]
      simpa [flatO] using this
theorem flatO_one (qs : List Oq) : ∀ u ∈ flatO qs, u.oneCell' = true := by
  induction qs with
  | nil => simp [flatO]
  | cons q qs ih =>
    intro u hu
    simp only [flatO, List.mem_cons] at hu
    rcases hu with rfl | rfl | hu
    · rfl
    · rfl
    · exact ih u hu
theorem flatO_drop (qs : List Oq) (k j : Nat) : (flatO (qs.drop k))[j]? = (flatO qs)[k * 2 + j]? := by
  induction k generalizing qs with
  | zero => simp
  | succ k ih =>
    rcases qs with _ | ⟨q, qs⟩
    · simp [flatO]
    · rw [List.drop_succ_cons, ih, show (k + 1) * 2 + j = (k * 2 + j) + 1 + 1 by omega]
      simp [flatO]

theorem obs_length (qs : List Oq) : (obs qs).length = qs.length := by unfold obs; rw [List.length_map]
theorem obs_get {qs : List Oq} {k : Nat} {q : Oq} (h : qs[k]? = some q) : (obs qs)[k]? = some q.ob := by unfold obs; rw [List.getElem?_map, h]; rfl
theorem obs_get_inv {qs : List Oq} {k : Nat} {z : Int × List Int} (h : (obs qs)[k]? = some z) : ∃ q, qs[k]? = some q ∧ q.ob = z := by
  unfold obs at h
  rw [List.getElem?_map] at h
  rcases h2 : qs[k]? with _ | q
  · rw [h2] at h; cases h
  · rw [h2] at h; exact ⟨q, rfl, by injection h⟩
theorem obs_append (qs rs : List Oq) : obs (qs ++ rs) = obs qs ++ obs rs := by unfold obs; rw [List.map_append]
theorem obs_take (qs : List Oq) (k : Nat) : obs (qs.take k) = (obs qs).take k := by unfold obs; rw [List.map_take]
theorem obs_drop (qs : List Oq) (k : Nat) : obs (qs.drop k) = (obs qs).drop k := by unfold obs; rw [List.map_drop]

/-! ### A store that can be read -/
def Objs (w : World) (B : Nat) (A : Option Addr) (n : Nat) (qs : List Oq) : Prop :=
  qs.length = n ∧ (0 < n → ∃ ad, A = some ad ∧ ad.block < B ∧ ∀ j u, (flatO qs)[j]? = some u → w.cell? (ad.add j) = some u) ∧
    ∀ q ∈ qs, Ints w B q.addr q.vals.length q.vals ∧ q.vals.length ≤ q.cap ∧ q.cap ≤ maxLen ∧ (q.addr = none → q.cap = 0)
section
variable {w w' : World} {B B' n : Nat} {A : Option Addr} {qs : List Oq}
theorem Objs.nil_ (w : World) (B : Nat) (A : Option Addr) : Objs w B A 0 [] := ⟨rfl, fun h => absurd h (by omega), by simp⟩
theorem Objs.at_ (h : Objs w B A n qs) {k : Nat} {q : Oq} (hk : qs[k]? = some q) : ∃ ad p, A = some ad ∧ ad.add (k * 2) = p ∧ p.block < B ∧ w.cell? p = some (.int .i64 q.id) ∧
    w.cell? ⟨p.block, p.off + 1, none⟩ = some q.sl := by
  have hl : k < n := by rw [← h.1]; exact (List.getElem?_eq_some_iff.1 hk).1
  obtain ⟨ad, e, hb, hc⟩ := h.2.1 (by omega)
  have hc0 := hc (k * 2 + 0) _ (by rw [flatO_get hk 0 (by omega)]; rfl)
  have hc1 := hc (k * 2 + 1) _ (by rw [flatO_get hk 1 (by omega)]; rfl)
  have next : ∀ {i : Nat} {v : Value}, i ≠ 0 → w.cell? (ad.add (k * 2 + i)) = some v → w.cell? ⟨(ad.add (k * 2)).block, (ad.add (k * 2)).off + i, none⟩ = some v := by
    intro i v hi h
    rw [← add_of_add] at h
    simpa [Addr.add, hi] using h
  exact ⟨ad, _, e, rfl, by rw [block_of_add]; exact hb, hc0, next (by decide) hc1⟩
theorem Objs.words (h : Objs w B A n qs) {k : Nat} {q : Oq} (hk : qs[k]? = some q) : Ints w B q.addr q.vals.length q.vals ∧ q.vals.length ≤ q.cap ∧ q.cap ≤ maxLen ∧ (q.addr = none → q.cap = 0) := h.2.2 q (List.mem_of_getElem? hk)
theorem Objs.keep (h : Objs w B A n qs) (hk : ∀ p : Addr, p.block < B → w'.cell? p = w.cell? p) : Objs w' B A n qs :=
  ⟨h.1, fun hn => by
    obtain ⟨ad, e, hb, hc⟩ := h.2.1 hn
    exact ⟨ad, e, hb, fun j u hu => (hk _ (by rw [block_of_add]; exact hb)).trans (hc j u hu)⟩, fun q hq => ⟨(h.2.2 q hq).1.keep hk, (h.2.2 q hq).2⟩⟩
theorem Objs.more (h : Objs w B A n qs) (hB : B ≤ B') : Objs w B' A n qs :=
  ⟨h.1, fun hn => by
    obtain ⟨ad, e, hb, hc⟩ := h.2.1 hn
    exact ⟨ad, e, by omega, hc⟩, fun q hq => ⟨(h.2.2 q hq).1.more hB, (h.2.2 q hq).2⟩⟩
theorem Objs.below {B2 : Nat} (h : Objs w B A n qs) (hb : Below B2 w w') (hB : B ≤ B2) : Objs w' B A n qs := h.keep fun _ hp => hb.cell (by omega)
theorem Objs.drewN (h : Objs w B A n qs) (k : Nat) : Objs (w.drewN k) B A n qs := h.keep fun _ _ => rfl
theorem Objs.alloc (h : Objs w B A n qs) (hB : B ≤ w.heap.size) (o : Obj) : Objs (w.alloc o) B A n qs := h.keep fun p hp => World.cell?_alloc_lt w o p (by omega)
theorem Objs.grown (h : Objs w B A n qs) {row : Option Nat} (hg : w.grownBy w' row) (hB : B ≤ w.heap.size) (hr : ∀ g, row = some g → B ≤ g) : Objs w' B A n qs :=
  h.keep fun p hp => World.cell?_of_block (hg.block p.block (by omega) (fun e => by have := hr _ e.symm; omega))
theorem Objs.firsts (h : Objs w B A n qs) {m : Nat} (hm : m ≤ n) : Objs w B A m (qs.take m) := by
  refine ⟨by rw [List.length_take, h.1]; omega, fun hn => ?_, fun q hq => h.2.2 q (List.mem_of_mem_take hq)⟩
  obtain ⟨ad, e, hb, hc⟩ := h.2.1 (by omega)
  refine ⟨ad, e, hb, fun j u hu => hc j u ?_⟩
  have e2 : flatO qs = flatO (qs.take m) ++ flatO (qs.drop m) := by rw [← flatO_append, List.take_append_drop]
  rw [e2, List.getElem?_append_left (List.getElem?_eq_some_iff.1 hu).1]
  exact hu
/-- 's[k:]', 's[k:m]' -/
theorem Objs.cut (h : Objs w B A n qs) {k m cap : Nat} (hk : k ≤ m) (hm : m ≤ n) (hc : n ≤ cap) :
    Objs w B (if cap = k then A else A.map (·.add (k * 2))) (m - k) ((qs.take m).drop k) := by
  refine ⟨by rw [List.length_drop, List.length_take, h.1]; omega, fun hn => ?_, fun q hq => h.2.2 q (List.mem_of_mem_take (List.mem_of_mem_drop hq))⟩
  have h' := h.firsts hm
  obtain ⟨ad, rfl, hb, hcell⟩ := h'.2.1 (by omega)
  rw [if_neg (by omega)]
  refine ⟨ad.add (k * 2), rfl, by rw [block_of_add]; exact hb, fun j u hu => ?_⟩
  rw [add_of_add]
  rw [flatO_drop] at hu
  exact hcell _ _ hu
end

/-! ### A store that the call owns -/
structure OwnO (w : World) (base : Nat) (A : Option Addr) (n c : Nat) (qs : List Oq) : Prop where
  len : qs.length = n
  row : w.ownsRow base 139 2 (.slice A n c) n (flatO qs)
  own : ∀ (k : Nat) (q : Oq), qs[k]? = some q → Own w base q.addr q.vals.length q.cap q.vals
  sep : ∀ (i j : Nat) (q r : Oq), qs[i]? = some q → qs[j]? = some r → i ≠ j → ∀ g, q.sl.ownBlock = some g → r.sl.ownBlock ≠ some g

theorem rows_neO {w : World} {b b' t t' s s' n n' : Nat} {v v' : Value} {xs ys : List Value} (h : w.ownsRow b t s v n xs) (h' : w.ownsRow b' t' s' v' n' ys) (ht : t ≠ t') {g : Nat} (hv : v.ownBlock = some g) : v'.ownBlock ≠ some g := by
  intro hv'
  rcases h.2 with ⟨rfl, _⟩ | ⟨g1, cap1, cur1, rfl, _, hh, _⟩
  · simp [Value.ownBlock] at hv
  · rcases h'.2 with ⟨rfl, _⟩ | ⟨g2, cap2, cur2, rfl, _, hh', _⟩
    · simp [Value.ownBlock] at hv'
    · simp [Value.ownBlock] at hv hv'
      subst hv hv'
      rw [hh] at hh'
      simp at hh'
      exact ht hh'.2
theorem Own.nilcap {w : World} {base n c : Nat} {A : Option Addr} {xs : List Int} (h : Own w base A n c xs) (hA : A = none) : c = 0 := by
  rcases h.2.2 with ⟨hv, h0⟩ | ⟨g, cap, cur, hv, hb, hh, hc, hm, hs, ht⟩
  · injection hv
  · injection hv with h1; rw [hA] at h1; cases h1

section
variable {w w' : World} {base n c : Nat} {A : Option Addr} {qs : List Oq}
theorem OwnO.cap (h : OwnO w base A n c qs) : n ≤ c ∧ c ≤ maxLen := by
  rcases h.row.2 with ⟨hv, h0⟩ | ⟨g, cap, cur, hv, hb, hh, hc, hm, hs, ht⟩
  · injection hv with _ h1 h2; subst h1; subst h2; exact ⟨Nat.le_refl _, Nat.zero_le _⟩
  · injection hv with _ _ h2; subst h2; exact ⟨hc, hm⟩
theorem OwnO.shape (h : OwnO w base A n c qs) (hn : 0 < n) : ∃ g, A = some ⟨g, 0, none⟩ ∧ base ≤ g ∧ g < w.heap.size := by
  rcases h.row.2 with ⟨hv, h0⟩ | ⟨g, cap, cur, hv, hb, hh, hc, hm, hs, ht⟩
  · omega
  · injection hv with h1; exact ⟨g, h1, hb, (Array.getElem?_eq_some_iff.1 hh).1⟩
theorem OwnO.nilcap (h : OwnO w base A n c qs) (hA : A = none) : n = 0 ∧ c = 0 := by
  rcases h.row.2 with ⟨hv, h0⟩ | ⟨g, cap, cur, hv, hb, hh, hc, hm, hs, ht⟩
  · injection hv with _ h1 h2; exact ⟨h1, h2⟩
  · injection hv with h1; rw [hA] at h1; cases h1
theorem OwnO.block (h : OwnO w base A n c qs) : ∀ k, (Value.slice A n c).ownBlock = some k → base ≤ k ∧ k < w.heap.size := h.row.lt
theorem OwnO.wblock (h : OwnO w base A n c qs) {k : Nat} {q : Oq} (hk : qs[k]? = some q) : ∀ g, q.sl.ownBlock = some g → base ≤ g ∧ g < w.heap.size := (h.own k q hk).block
/-- values lie elsewhere than objects -/
theorem OwnO.far (h : OwnO w base A n c qs) {k : Nat} {q : Oq} (hk : qs[k]? = some q) {g : Nat} (hg : (Value.slice A n c).ownBlock = some g) : q.sl.ownBlock ≠ some g :=
  rows_neO h.row (h.own k q hk).2 (by decide) hg
theorem OwnO.objs (h : OwnO w base A n c qs) : Objs w w.heap.size A n qs := by
  refine ⟨h.len, fun hn => ?_, fun q hq => ?_⟩
  · obtain ⟨g, rfl, hb, hl⟩ := h.shape hn
    exact ⟨_, rfl, hl, fun j u hu => h.row.cells rfl j u hu⟩
  · obtain ⟨k, hk⟩ := List.getElem?_of_mem hq
    exact ⟨(h.own k q hk).ints, (h.own k q hk).cap.1, (h.own k q hk).cap.2, (h.own k q hk).nilcap⟩
theorem OwnO.kept {row : Option Nat} (h : OwnO w base A n c qs) (hg : w.grownBy w' row) (hne : ∀ g, row = some g → (Value.slice A n c).ownBlock ≠ some g ∧ ∀ (k : Nat) (q : Oq), qs[k]? = some q → q.sl.ownBlock ≠ some g) : OwnO w' base A n c qs :=
  ⟨h.len, h.row.kept hg (by
    rcases hv : (Value.slice A n c).ownBlock with _ | g
    · exact .inl rfl
    · right; intro e; exact (hne g e.symm).1 hv), fun k q hk => (h.own k q hk).kept hg (fun g hr => (hne g hr).2 k q hk), h.sep⟩
theorem OwnO.below (h : OwnO w base A n c qs) (hg : Below w.heap.size w w') : OwnO w' base A n c qs := h.kept (grown_of_below hg none) (by simp)
theorem OwnO.alloc (h : OwnO w base A n c qs) (o : Obj) : OwnO (w.alloc o) base A n c qs := ⟨h.len, h.row.alloc o, fun k q hk => (h.own k q hk).alloc o, h.sep⟩
theorem OwnO.drewN (h : OwnO w base A n c qs) (k : Nat) : OwnO (w.drewN k) base A n c qs := ⟨h.len, h.row, fun j q hj => (h.own j q hj).drewN k, h.sep⟩
theorem OwnO.nil_ (w : World) (base : Nat) : OwnO w base none 0 0 [] := ⟨rfl, World.ownsRow_nil _ _ _ _, by simp, by simp⟩
theorem OwnO.mono {b' : Nat} (h : OwnO w base A n c qs) (hb : b' ≤ base) : OwnO w b' A n c qs := by
  refine ⟨h.len, ⟨h.row.1, ?_⟩, fun k q hk => (h.own k q hk).mono hb, h.sep⟩
  rcases h.row.2 with h0 | ⟨g, cap, cur, hv, hb', r⟩
  · exact .inl h0
  · exact .inr ⟨g, cap, cur, hv, by omega, r⟩
theorem OwnO.lit0 (w : World) (base : Nat) (hb : base ≤ w.heap.size) : OwnO (w.alloc (.cells #[] 139)) base (some ⟨w.heap.size, 0, none⟩) 0 0 [] := by
  refine ⟨rfl, ?_, by simp, by simp⟩
  have := World.ownsRow_lit (base := base) (e := 139) (size := 2) w #[] 0 hb (Nat.zero_le _) (by simp)
  simpa [flatO] using this
theorem OwnO.free {g j : Nat} (h : OwnO w base (some ⟨g, 0, none⟩) n c qs) : w.frozen? ⟨g, j, none⟩ = false := h.row.frozenAt j
end

/-! ### append of objects -/
theorem run_append_vals' {T t : TypeId} {s bytes : Nat} {z : Value} (hT : RT T t s bytes z) (w : World) (base n c m d : Nat) (A : Option Addr) (ad : Addr) (vs us : List Value) (ty : TypeId) (hown : w.ownsRow base t s (.slice A n c) n vs)
    (hu : us.length = m * s) (hone : ∀ u ∈ us, u.oneCell' = true) (hr : ∀ j u, us[j]? = some u → w.cell? (ad.add j) = some u) (hnm : n + m ≤ 1000000000000) (hbase : base ≤ w.heap.size) :
    ∃ A2 c2 w', (Builtin.append_ #[T, T] ty #[.slice A n c, .slice (some ad) m d]).run Tryz.prog w = .ok (.slice A2 (n + m) c2) w' ∧ w'.ownsRow base t s (.slice A2 (n + m) c2) (n + m) (vs ++ us) ∧
      w.grownBy w' (Value.slice A n c).ownBlock ∧ ((Value.slice A2 (n + m) c2).ownBlock = (Value.slice A n c).ownBlock ∨ (Value.slice A2 (n + m) c2).ownBlock = some w.heap.size) := by
  obtain ⟨i0, hi, hz0, hz1, hz2⟩ := info_parts hT.info
  obtain ⟨v', w', hrun, h2, h3, _, h5⟩ := run_append_own_at (P := Tryz.prog) w base T ty t i0 z s bytes hT.und hi hz0 hz1 hz2 hT.zs hT.pos
    (.slice A n c) n vs hown ad m d us hu hr hone
    (by unfold maxLen; omega) (Nat.le_trans (Nat.mul_le_mul hnm hT.small) (by decide)) hbase
  obtain ⟨A2, c2, rfl⟩ := slice_of_own h2
  exact ⟨A2, c2, w', hrun, h2, h3, h5⟩

theorem objT : RT 25 139 2 32 (.agg #[.int .i64 0, .slice none 0 0]) := ⟨Tryz.underlying25, by kernel_rfl, by decide, by decide, by decide⟩

/-- 'append(out, qs2...)', each with values of its own -/
theorem run_append_objs (w : World) (base n c m d : Nat) (A X : Option Addr) (qs q2 : List Oq) (ty : TypeId) (hown : OwnO w base A n c qs)
    (hl : q2.length = m) (hr : 0 < m → ∃ ad, X = some ad ∧ ∀ j u, (flatO q2)[j]? = some u → w.cell? (ad.add j) = some u) (hq : ∀ (k : Nat) (q : Oq), q2[k]? = some q → Own w base q.addr q.vals.length q.cap q.vals)
    (hsep2 : ∀ (i j : Nat) (q r : Oq), q2[i]? = some q → q2[j]? = some r → i ≠ j → ∀ g, q.sl.ownBlock = some g → r.sl.ownBlock ≠ some g)
    (hsep : ∀ (k j : Nat) (r q : Oq), qs[k]? = some r → q2[j]? = some q → ∀ g, r.sl.ownBlock = some g → q.sl.ownBlock ≠ some g)
    (hn : n + m ≤ 100000000000) (hbase : base ≤ w.heap.size) :
    ∃ A2 c2 w', (Builtin.append_ #[25, 25] ty #[.slice A n c, .slice X m d]).run Tryz.prog w = .ok (.slice A2 (n + m) c2) w' ∧ OwnO w' base A2 (n + m) c2 (qs ++ q2) ∧
      w.grownBy w' (Value.slice A n c).ownBlock ∧ ((Value.slice A2 (n + m) c2).ownBlock = (Value.slice A n c).ownBlock ∨ (Value.slice A2 (n + m) c2).ownBlock = some w.heap.size) := by
  have key : ∀ A2 c2 w', w'.ownsRow base 139 2 (.slice A2 (n + m) c2) (n + m) (flatO qs ++ flatO q2) → w.grownBy w' (Value.slice A n c).ownBlock → OwnO w' base A2 (n + m) c2 (qs ++ q2) := by
    intro A2 c2 w' h2 h3
    rw [← flatO_append] at h2
    have get : ∀ {k r}, (qs ++ q2)[k]? = some r → (k < n ∧ qs[k]? = some r) ∨ (n ≤ k ∧ q2[k - n]? = some r) := by
      intro k r hk
      rcases Nat.lt_or_ge k qs.length with h | h
      · exact .inl ⟨by rw [← hown.len]; exact h, by rwa [List.getElem?_append_left h] at hk⟩
      · rw [List.getElem?_append_right h, hown.len] at hk
        exact .inr ⟨by rw [← hown.len]; exact h, hk⟩
    refine ⟨by simp [hown.len, hl], h2, fun k r hk => ?_, fun i j r r' hi hj hij g hg => ?_⟩
    · rcases get hk with ⟨_, hk⟩ | ⟨_, hk⟩
      · exact (hown.own k r hk).kept h3 (fun g hg => hown.far hk hg)
      · exact (hq _ _ hk).kept h3 (fun g hg => rows_neO hown.row (hq _ _ hk).2 (by decide) hg)
    · rcases get hi with ⟨li, hi'⟩ | ⟨li, hi'⟩
      · rcases get hj with ⟨lj, hj'⟩ | ⟨lj, hj'⟩
        · exact hown.sep i j r r' hi' hj' hij g hg
        · exact hsep _ _ _ _ hi' hj' g hg
      · rcases get hj with ⟨lj, hj'⟩ | ⟨lj, hj'⟩
        · intro h
          exact hsep _ _ _ _ hj' hi' g h hg
        · exact hsep2 _ _ _ _ hi' hj' (by omega) g hg
  rcases X with _ | ad
  · have hm : m = 0 := by
      rcases Nat.eq_zero_or_pos m with h | h
      · exact h
      · obtain ⟨ad, h', _⟩ := hr h
        cases h'
    subst hm
    obtain rfl : q2 = [] := List.eq_nil_of_length_eq_zero hl
    obtain ⟨i0, hi, hz0, hz1, hz2⟩ := info_parts objT.info
    exact ⟨A, c, w, run_append_of_nil w base 25 ty 139 i0 2 objT.und hi _ n _ hown.row d, by simpa using hown, World.grownBy.refl w _, .inl rfl⟩
  · have hc : ∀ j u, (flatO q2)[j]? = some u → w.cell? (ad.add j) = some u := by
      intro j u hu
      rcases Nat.eq_zero_or_pos m with h | h
      · obtain rfl : q2 = [] := List.eq_nil_of_length_eq_zero (by rw [hl, h])
        simp [flatO] at hu
      · obtain ⟨ad', e, hc⟩ := hr h
        injection e with e
        subst e
        exact hc j u hu
    obtain ⟨A2, c2, w', hrun, h2, h3, h4⟩ := run_append_vals' objT w base n c m d A ad (flatO qs) (flatO q2) ty hown.row (by rw [flatO_length, hl]) (flatO_one _) hc (by omega) hbase
    exact ⟨A2, c2, w', hrun, key A2 c2 w' h2 h3, h3, h4⟩

/-- what an append of objects asks and gives -/
structure News (w : World) (base n : Nat) (A : Option Addr) (c : Nat) (qs : List Oq) (X : Option Addr) (m : Nat) (q2 : List Oq) : Prop where
  own : OwnO w base A n c qs
  len : q2.length = m
  src : 0 < m → ∃ ad, X = some ad ∧ ∀ j u, (flatO q2)[j]? = some u → w.cell? (ad.add j) = some u
  news : ∀ (k : Nat) (q : Oq), q2[k]? = some q → Own w base q.addr q.vals.length q.cap q.vals
  sep2 : ∀ (i j : Nat) (q r : Oq), q2[i]? = some q → q2[j]? = some r → i ≠ j → ∀ g, q.sl.ownBlock = some g → r.sl.ownBlock ≠ some g
  sep : ∀ (k j : Nat) (r q : Oq), qs[k]? = some r → q2[j]? = some q → ∀ g, r.sl.ownBlock = some g → q.sl.ownBlock ≠ some g

theorem wp_append_objs {w : World} {o : Oper} {a : Act} {K : Act → World → Prop} {Q : Exit → Act → World → Prop} (s x : Operand)
    (ho : o.op = .call { callee := .builtin .append, args := #[s, x], argTypes := #[25, 25] })
    (base n c m d : Nat) (A X : Option Addr) (qs q2 : List Oq) (hs : a.eval s = .slice A n c) (hx : a.eval x = .slice X m d) (hnew : News w base n A c qs X m q2)
    (hn : n + m ≤ 100000000000) (hbase : base ≤ w.heap.size)
    (h : ∀ A2 c2 w', OwnO w' base A2 (n + m) c2 (qs ++ q2) → w.grownBy w' (Value.slice A n c).ownBlock →
      ((Value.slice A2 (n + m) c2).ownBlock = (Value.slice A n c).ownBlock ∨ (Value.slice A2 (n + m) c2).ownBlock = some w.heap.size) → K (a.put o.dst (.slice A2 (n + m) c2)) w') : o.wp Tryz.prog a w K Q := by
  obtain ⟨A2, c2, w', hrun, h2, h3, h4⟩ := run_append_objs w base n c m d A X qs q2 o.type hnew.own hnew.len hnew.src hnew.news hnew.sep2 hnew.sep hn hbase
  unfold Oper.wp execOp
  simp only [ho, resolve, invoke, builtin, Sem.run_bind, Sem.run_pure, Result.andThen_ok, List.map_toArray, List.map_cons, List.map_nil, hs, hx, hrun]
  exact h A2 c2 w' h2 h3 h4

theorem wpList_append_objs {w : World} {ops : Array Oper} {rest : List Oper} {o : Oper} {a : Act} {Q : Exit → Act → World → Prop} (hgd : o.guard = none) (s x : Operand)
    (ho : o.op = .call { callee := .builtin .append, args := #[s, x], argTypes := #[25, 25] })
    (base n c m d : Nat) (A X : Option Addr) (qs q2 : List Oq) (hs : a.eval s = .slice A n c) (hx : a.eval x = .slice X m d) (hnew : News w base n A c qs X m q2)
    (hn : n + m ≤ 100000000000) (hbase : base ≤ w.heap.size)
    (h : ∀ A2 c2 w', OwnO w' base A2 (n + m) c2 (qs ++ q2) → w.grownBy w' (Value.slice A n c).ownBlock →
      ((Value.slice A2 (n + m) c2).ownBlock = (Value.slice A n c).ownBlock ∨ (Value.slice A2 (n + m) c2).ownBlock = some w.heap.size) → wpList Tryz.prog ops Q rest (a.put o.dst (.slice A2 (n + m) c2)) w') :
    wpList Tryz.prog ops Q (o :: rest) a w :=
  wpList_plain hgd fun _ hK => wp_append_objs s x ho base n c m d A X qs q2 hs hx hnew hn hbase fun A2 c2 w' h2 h3 h4 => hK _ _ (h A2 c2 w' h2 h3 h4)

theorem step_append_objs {w : World} {ops : Array Oper} {o : Oper} {a : Act} {K : Act → World → Prop} {Q : Exit → Act → World → Prop} {E : Prop} (hgd : o.guard = none) (s x : Operand)
    (ho : o.op = .call { callee := .builtin .append, args := #[s, x], argTypes := #[25, 25] })
    (base n c m d : Nat) (A X : Option Addr) (qs q2 : List Oq) (hs : a.eval s = .slice A n c) (hx : a.eval x = .slice X m d) (hnew : News w base n A c qs X m q2)
    (hn : n + m ≤ 100000000000) (hbase : base ≤ w.heap.size)
    (h : ∀ A2 c2 w', OwnO w' base A2 (n + m) c2 (qs ++ q2) → w.grownBy w' (Value.slice A n c).ownBlock →
      ((Value.slice A2 (n + m) c2).ownBlock = (Value.slice A n c).ownBlock ∨ (Value.slice A2 (n + m) c2).ownBlock = some w.heap.size) → K (a.put o.dst (.slice A2 (n + m) c2)) w') :
    if Region.wanted o (yielded ops a.tmps) = true then Oper.wp Tryz.prog o a w K Q else E := by
  have hw : Region.wanted o (yielded ops a.tmps) = true := by simp [Region.wanted, hgd]
  rw [if_pos hw]
  exact wp_append_objs s x ho base n c m d A X qs q2 hs hx hnew hn hbase h

/-- one new object in a block of its own -/
theorem obj_cells (w : World) (q : Oq) : ∀ j u, q.cells[j]? = some u → (w.alloc (.cells #[.int .i64 q.id, q.sl] 139)).cell? (Addr.add ⟨w.heap.size, 0, none⟩ j) = some u := by
  intro j u hu
  rw [add_plain', (Blk.new w 139 #[.int .i64 q.id, q.sl]).cell j]
  rcases j with _ | _ | j
  · exact hu
  · exact hu
  · simp [Oq.cells] at hu
theorem News.one {w : World} {base n c : Nat} {A : Option Addr} {qs : List Oq} {q : Oq} {ad : Addr} (hown : OwnO w base A n c qs) (hr : ∀ j u, q.cells[j]? = some u → w.cell? (ad.add j) = some u)
    (hq : Own w base q.addr q.vals.length q.cap q.vals) (hsep : ∀ (k : Nat) (r : Oq), qs[k]? = some r → ∀ g, r.sl.ownBlock = some g → q.sl.ownBlock ≠ some g) : News w base n A c qs (some ad) 1 [q] := by
  have one : ∀ {j : Nat} {r : Oq}, [q][j]? = some r → j = 0 ∧ r = q := by
    intro j r h
    rcases j with _ | j
    · simp at h; exact ⟨rfl, h.symm⟩
    · simp at h
  refine ⟨hown, rfl, fun _ => ⟨ad, rfl, hr⟩, fun k r hk => ?_, fun i j r r' hi hj hij => ?_, fun k j r r' hk hj g hg => ?_⟩
  · obtain ⟨_, rfl⟩ := one hk; exact hq
  · exact absurd ((one hi).1.trans (one hj).1.symm) hij
  · obtain ⟨_, rfl⟩ := one hj; exact hsep k r hk g hg
/-- the objects of a row of the call's own that lies behind the first -/
theorem News.row {w w' : World} {base n c m d : Nat} {A X : Option Addr} {qs q2 : List Oq} (hown : OwnO w base A n c qs) (h2 : OwnO w' w.heap.size X m d q2) (hb : Below w.heap.size w w') (hbase : base ≤ w.heap.size) : News w' base n A c qs X m q2 := by
  refine ⟨hown.below hb, h2.len, fun hm => ?_, fun k q hk => (h2.own k q hk).mono hbase, h2.sep, fun k j r q hk hj g hg e => ?_⟩
  · obtain ⟨g, rfl, _, _⟩ := h2.shape hm
    exact ⟨_, rfl, fun j u hu => h2.row.cells rfl j u hu⟩
  · have h3 := (hown.wblock hk g hg).2
    have h4 := (h2.wblock hj g e).1
    omega
end Go.Proofs.YtfianpjoifcphaaGreat

/- Sum -/
namespace Go.Proofs.YtfianpjoifcphaaGreat
open Go.RowKit
set_option linter.unusedVariables false
set_option maxRecDepth 100000

def sumFrom (s : Int) : List Int → Int
  | [] => s
  | x :: xs => if x < 0 ∨ 9999 < x then -1 else sumFrom ((31 * s + x + 1) % 9973) xs

theorem sumFrom_drop (s : Int) (xs : List Int) (k : Nat) (h : k < xs.length) :
    sumFrom s (xs.drop k) = if xs.getD k 0 < 0 ∨ 9999 < xs.getD k 0 then -1 else sumFrom ((31 * s + xs.getD k 0 + 1) % 9973) (xs.drop (k + 1)) := by
  rw [List.drop_eq_getElem_cons h, sumFrom]
  simp [List.getD, h]

def okW (x : Int) : Bool := decide (0 ≤ x ∧ x ≤ 9999)
def allW (xs : List Int) : Bool := xs.all okW

theorem allW_drop (xs : List Int) (k : Nat) (h : k < xs.length) : allW (xs.drop k) = (okW (xs.getD k 0) && allW (xs.drop (k + 1))) := by
  rw [List.drop_eq_getElem_cons h]
  unfold allW
  rw [List.all_cons]
  simp [List.getD, h]

theorem sumFrom_allW (xs : List Int) : ∀ s, allW xs = false → sumFrom s xs = -1 := by
  induction xs with
  | nil => intro s h; simp [allW] at h
  | cons x xs ih =>
    intro s h
    unfold sumFrom
    by_cases hx : x < 0 ∨ 9999 < x
    · rw [if_pos hx]
    · rw [if_neg hx]
      refine ih _ ?_
      have h' : okW x = true := by simp [okW]; omega
      simpa [allW, h'] using h

theorem sumFrom_rng (xs : List Int) : ∀ s, 0 ≤ s → s < 9973 → allW xs = true → 0 ≤ sumFrom s xs ∧ sumFrom s xs < 9973 := by
  induction xs with
  | nil => intro s h0 h1 _; exact ⟨h0, h1⟩
  | cons x xs ih =>
    intro s h0 h1 h
    have h' : okW x = true ∧ allW xs = true := by simpa [allW] using h
    have hx : 0 ≤ x ∧ x ≤ 9999 := by simpa [okW] using h'.1
    unfold sumFrom
    rw [if_neg (by omega)]
    exact ih _ (by omega) (by omega) h'.2

theorem sumFrom_lt (xs : List Int) : -1 ≤ sumFrom 7 xs ∧ sumFrom 7 xs < 9973 := by
  by_cases h : allW xs = true
  · have := sumFrom_rng xs 7 (by omega) (by omega) h
    omega
  · have := sumFrom_allW xs 7 (by simpa using h)
    omega

set_option maxHeartbeats 400000 in
theorem implSum (A : Option Addr) (n c B : Nat) (xs : List Int) (w : World) (hr : Ints w B A n xs) (hn : n ≤ maxLen) :
    Calls Tryz.prog 158 #[.slice A n c] w fun e w' => e = .returned (.int .i64 (sumFrom 7 xs)) ∧ w = w' := by
  unfold maxLen at hn
  have HL := hide hr.1
  go_enter Tryz.func158, Tryz.ntmps158
  go_wp2
  go_loop [3, 8] (fun s i => ∃ (k : Nat) (t : Int), k ≤ n ∧ i = .int .i64 k ∧ 0 ≤ t ∧ t < 9973 ∧ s = .int .i64 t ∧ Hid (sumFrom 7 xs = sumFrom t (xs.drop k))) (fun _ i => n - (intOf i).toNat)
  case atStart => exact ⟨0, 7, Nat.zero_le _, rfl, by omega, by omega, rfl, rfl⟩
  case round =>
    obtain ⟨k, t, hk, rfl, ht0, ht1, rfl, HS⟩ := hrel
    by_cases hlt : k < n
    · have hl := HL.out
      have hd := sumFrom_drop t xs k (by omega)
      obtain ⟨ad, rfl, hb, hc⟩ := hr.at_ hlt
      have HX : Hid (_ = _) := HS.out.trans hd
      clear hd hl hr HS
      generalize xs.getD k 0 = x at hc HX
      by_cases h1 : x < 0
      · go_wp2
        go_ret
        exact ⟨ret_int (by rw [HX.out, if_pos (.inl h1)]), rfl⟩
      · by_cases h2 : 9999 < x
        · go_wp2
          go_ret
          exact ⟨ret_int (by rw [HX.out, if_pos (.inr h2)]), rfl⟩
        · go_wp2
          go_round
          case rel => exact ⟨k + 1, _, by omega, by go_num, by omega, by omega, rfl, by rw [HX.out, if_neg (by omega)]; rfl⟩
          case measure => simp [intOf]; omega
    · go_wp2
      go_ret
      exact ⟨ret_int (by rw [HS.out, List.drop_of_length_le (by have := HL.out; omega)]; rfl), rfl⟩

def inB (n lo hi : Int) : Bool := decide (lo ≤ n) && decide (n ≤ hi)
theorem inB_true {n lo hi : Int} (h1 : lo ≤ n) (h2 : n ≤ hi) : inB n lo hi = true := by simp [inB, h1, h2]
theorem inB_iff {n lo hi : Int} : inB n lo hi = true ↔ lo ≤ n ∧ n ≤ hi := by simp [inB]

set_option maxHeartbeats 400000 in
theorem in_any (n lo hi : Int) (w : World) :
    Calls Tryz.prog 60 #[.int .i64 n, .int .i64 lo, .int .i64 hi] w fun e w' => e = .returned (.bool (inB n lo hi)) ∧ w = w' := by
  by_cases h1 : lo ≤ n
  · by_cases h2 : n ≤ hi
    · go_enter Tryz.func60, Tryz.ntmps60
      go_wp2
      go_ret
      exact ⟨ret_bool (by simp [inB, h1, h2]), rfl⟩
    · have h2' : decide (n ≤ hi) = false := by simpa using h2
      go_enter Tryz.func60, Tryz.ntmps60
      go_wp2
      go_ret
      exact ⟨ret_bool (by simp [inB, h2']), rfl⟩
  · have h1' : decide (lo ≤ n) = false := by simpa using h1
    go_enter Tryz.func60, Tryz.ntmps60
    go_wp2
    go_ret
    exact ⟨ret_bool (by simp [inB, h1']), rfl⟩
theorem in_yes (n lo hi : Int) (w : World) (h : inB n lo hi = true) :
    Calls Tryz.prog 60 #[.int .i64 n, .int .i64 lo, .int .i64 hi] w fun e w' => e = .returned (.bool true) ∧ w = w' := h ▸ in_any n lo hi w
theorem in_no (n lo hi : Int) (w : World) (h : inB n lo hi = false) :
    Calls Tryz.prog 60 #[.int .i64 n, .int .i64 lo, .int .i64 hi] w fun e w' => e = .returned (.bool false) ∧ w = w' := h ▸ in_any n lo hi w

theorem okW_inB (x : Int) : okW x = inB x 0 9999 := by simp [okW, inB]

set_option maxHeartbeats 400000 in
theorem words_any (A : Option Addr) (n c B : Nat) (xs : List Int) (w : World) (hr : Ints w B A n xs) (hn : n ≤ maxLen) :
    Calls Tryz.prog 97 #[.slice A n c] w fun e w' => e = .returned (.bool (allW xs)) ∧ w = w' := by
  unfold maxLen at hn
  have HL := hide hr.1
  go_enter Tryz.func97, Tryz.ntmps97
  go_wp2
  go_loop [3] (fun i => ∃ (k : Nat), k ≤ n ∧ i = .int .i64 k ∧ Hid (allW xs = allW (xs.drop k))) (fun i => n - (intOf i).toNat)
  case atStart => exact ⟨0, Nat.zero_le _, rfl, rfl⟩
  case round =>
    obtain ⟨k, hk, rfl, HS⟩ := hrel
    by_cases hlt : k < n
    · have hl := HL.out
      have hd := allW_drop xs k (by omega)
      obtain ⟨ad, rfl, hb, hc⟩ := hr.at_ hlt
      have HX : Hid (_ = _) := HS.out.trans hd
      clear hd hl hr HS
      generalize xs.getD k 0 = x at hc HX
      by_cases h1 : inB x 0 9999 = true
      · have H1 := hide h1
        clear h1
        go_wp2_with (go_at_call 60; refine (in_yes _ _ _ _ H1.out).mono ?_; rintro e w' ⟨rfl, rfl⟩)
        go_round
        case rel => exact ⟨k + 1, by omega, by go_num, by rw [HX.out, okW_inB, H1.out]; rfl⟩
        case measure => simp [intOf]; omega
      · have H1 := hide (Bool.eq_false_iff.2 h1)
        clear h1
        go_wp2_with (go_at_call 60; refine (in_no _ _ _ _ H1.out).mono ?_; rintro e w' ⟨rfl, rfl⟩)
        go_ret
        exact ⟨ret_bool (by rw [HX.out, okW_inB, H1.out]; rfl), rfl⟩
    · go_wp2
      go_ret
      exact ⟨ret_bool (by rw [HS.out, List.drop_of_length_le (by have := HL.out; omega)]; rfl), rfl⟩

set_option maxHeartbeats 400000 in
theorem specSum0 (A : Option Addr) (n c B : Nat) (xs : List Int) (w : World) (hr : Ints w B A n xs) (hn : n ≤ maxLen) (hall : allW xs = true) :
    Calls Tryz.prog 194 #[.slice A n c] w fun e w' => e = .returned (.int .i64 (sumFrom 7 xs)) ∧ w = w' := by
  unfold maxLen at hn
  have HL := hide hr.1
  have HA := hide hall
  clear hall
  go_enter Tryz.func194, Tryz.ntmps194
  go_wp2
  go_loop [3, 4] (fun s i => ∃ (k : Nat) (t : Int), k ≤ n ∧ i = .int .i64 k ∧ 0 ≤ t ∧ t < 9973 ∧ s = .int .i64 t ∧ Hid (sumFrom 7 xs = sumFrom t (xs.drop k)) ∧ Hid (allW (xs.drop k) = true)) (fun _ i => n - (intOf i).toNat)
  case atStart => exact ⟨0, 7, Nat.zero_le _, rfl, by omega, by omega, rfl, rfl, HA⟩
  case round =>
    obtain ⟨k, t, hk, rfl, ht0, ht1, rfl, HS, HA'⟩ := hrel
    by_cases hlt : k < n
    · have hl := HL.out
      have hd := sumFrom_drop t xs k (by omega)
      have ha := HA'.out
      rw [allW_drop xs k (by omega)] at ha
      obtain ⟨ad, rfl, hb, hc⟩ := hr.at_ hlt
      have HX : Hid (_ = _) := HS.out.trans hd
      clear hd hl hr HS HA'
      generalize xs.getD k 0 = x at hc HX ha
      simp only [Bool.and_eq_true] at ha
      have hx : 0 ≤ x ∧ x ≤ 9999 := by simpa [okW] using ha.1
      obtain ⟨hx0, hx1⟩ := hx
      have HA2 := hide ha.2
      clear ha
      go_wp2
      go_round
      case rel => exact ⟨k + 1, _, by omega, by go_num, by omega, by omega, rfl, by rw [HX.out, if_neg (by omega)]; rfl, HA2⟩
      case measure => simp [intOf]; omega
    · go_wp2
      go_ret
      exact ⟨ret_int (by rw [HS.out, List.drop_of_length_le (by have := HL.out; omega)]; rfl), rfl⟩

end Go.Proofs.YtfianpjoifcphaaGreat

/- ExtM -/
namespace Go.Proofs.YtfianpjoifcphaaGreat
open Go.RowKit
set_option linter.unusedVariables false
set_option maxRecDepth 100000

abbrev Exs := List (Int × Int)
/-- extents as numbers in memory -/
def fl : Exs → List Int
  | [] => []
  | e :: r => e.1 :: e.2 :: fl r
def unfl : List Int → Exs
  | x :: y :: r => (x, y) :: unfl r
  | _ => []
theorem fl_length (es : Exs) : (fl es).length = es.length * 2 := by
  induction es with
  | nil => rfl
  | cons e r ih => simp only [fl, List.length_cons, ih]; omega
theorem fl_append (es fs : Exs) : fl (es ++ fs) = fl es ++ fl fs := by
  induction es with
  | nil => rfl
  | cons e r ih => simp only [fl, List.cons_append, ih]
theorem fl_getD {es : Exs} {k : Nat} {e : Int × Int} (h : es[k]? = some e) : (fl es).getD (k * 2) 0 = e.1 ∧ (fl es).getD (k * 2 + 1) 0 = e.2 := by
  induction es generalizing k with
  | nil => simp at h
  | cons f r ih =>
    rcases k with _ | k
    · simp at h
      subst h
      exact ⟨rfl, rfl⟩
    · simp at h
      have := ih h
      rw [show (k + 1) * 2 = k * 2 + 1 + 1 by omega]
      simpa [fl] using this
theorem fl_set {es : Exs} {k : Nat} {e : Int × Int} (h : es[k]? = some e) (x y : Int) : (fl es).set (k * 2) x = fl (es.set k (x, e.2)) ∧ (fl es).set (k * 2 + 1) y = fl (es.set k (e.1, y)) := by
  induction es generalizing k with
  | nil => simp at h
  | cons f r ih =>
    rcases k with _ | k
    · simp at h
      subst h
      exact ⟨rfl, rfl⟩
    · simp at h
      have := ih h
      rw [show (k + 1) * 2 = k * 2 + 1 + 1 by omega]
      simpa [fl] using this
theorem fl_take (es : Exs) (k : Nat) : fl (es.take k) = (fl es).take (k * 2) := by
  induction es generalizing k with
  | nil => simp [fl]
  | cons e r ih =>
    rcases k with _ | k
    · simp [fl]
    · rw [show (k + 1) * 2 = k * 2 + 1 + 1 by omega]
      simp [fl, ih]
theorem fl_drop (es : Exs) (k : Nat) : fl (es.drop k) = (fl es).drop (k * 2) := by
  induction es generalizing k with
  | nil => simp [fl]
  | cons e r ih =>
    rcases k with _ | k
    · simp [fl]
    · rw [show (k + 1) * 2 = k * 2 + 1 + 1 by omega]
      simp [fl, ih]
theorem fl_unfl (n : Nat) (xs : List Int) (h : xs.length = n * 2) : fl (unfl xs) = xs ∧ (unfl xs).length = n := by
  induction n generalizing xs with
  | zero =>
    obtain rfl := List.eq_nil_of_length_eq_zero (by omega : xs.length = 0)
    exact ⟨rfl, rfl⟩
  | succ n ih =>
    match xs, h with
    | x :: y :: r, h =>
      have := ih r (by simp at h; omega)
      exact ⟨by simp [unfl, fl, this.1], by simp [unfl, this.2]⟩
    | [], h => simp at h
    | [x], h => simp at h; omega
theorem fl_inj {es fs : Exs} (h : fl es = fl fs) : es = fs := by
  induction es generalizing fs with
  | nil =>
    rcases fs with _ | ⟨f, r⟩
    · rfl
    · simp [fl] at h
  | cons e r ih =>
    rcases fs with _ | ⟨f, s⟩
    · simp [fl] at h
    · simp only [fl, List.cons.injEq] at h
      obtain ⟨h1, h2, h3⟩ := h
      rw [ih h3, show e = f from Prod.ext h1 h2]

/-! ### the blocks of extents -/
def inE (es : Exs) (b : Int) : Bool := es.any fun e => decide (e.1 ≤ b) && decide (b < e.1 + e.2)
def vE : Int → Exs → Bool
  | _, [] => true
  | nx, e :: r => inB e.1 nx 11 && inB e.2 1 (12 - e.1) && vE (e.1 + e.2 + 1) r
def exV (es : Exs) : Bool := vE 0 es
def nxt : Int → Exs → Int
  | nx, [] => nx
  | _, e :: r => nxt (e.1 + e.2 + 1) r
theorem inE_cons (e : Int × Int) (r : Exs) (b : Int) : inE (e :: r) b = ((decide (e.1 ≤ b) && decide (b < e.1 + e.2)) || inE r b) := by unfold inE; rw [List.any_cons]
theorem inE_append (es fs : Exs) (b : Int) : inE (es ++ fs) b = (inE es b || inE fs b) := by unfold inE; rw [List.any_append]
theorem vE_cons {nx : Int} {e : Int × Int} {r : Exs} : vE nx (e :: r) = true ↔ (nx ≤ e.1 ∧ e.1 ≤ 11) ∧ (1 ≤ e.2 ∧ e.2 ≤ 12 - e.1) ∧ vE (e.1 + e.2 + 1) r = true := by
  simp only [vE, Bool.and_eq_true, inB_iff, and_assoc]
theorem vE_append (es fs : Exs) : ∀ nx : Int, vE nx (es ++ fs) = (vE nx es && vE (nxt nx es) fs) := by
  induction es with
  | nil => intro nx; simp [vE, nxt]
  | cons e r ih => intro nx; simp only [List.cons_append, vE, nxt, ih, Bool.and_assoc]
theorem nxt_append (es fs : Exs) : ∀ nx : Int, nxt nx (es ++ fs) = nxt (nxt nx es) fs := by
  induction es with
  | nil => intro nx; rfl
  | cons e r ih => intro nx; simp only [List.cons_append, nxt, ih]
theorem vE_in {es : Exs} : ∀ {nx b : Int}, vE nx es = true → inE es b = true → nx ≤ b ∧ b ≤ 11 := by
  induction es with
  | nil => intro nx b _ h; cases h
  | cons e r ih =>
    intro nx b hv h
    obtain ⟨h1, h2, h3⟩ := vE_cons.1 hv
    rw [inE_cons, Bool.or_eq_true, Bool.and_eq_true, decide_eq_true_eq, decide_eq_true_eq] at h
    rcases h with h | h
    · omega
    · have := ih h3 h
      omega
theorem vE_less {es : Exs} {nx ny : Int} (h : vE nx es = true) (hle : ny ≤ nx) : vE ny es = true := by
  rcases es with _ | ⟨e, r⟩
  · rfl
  · obtain ⟨h1, h2, h3⟩ := vE_cons.1 h
    exact vE_cons.2 ⟨by omega, h2, h3⟩
theorem vE_not {es : Exs} {nx b : Int} (h : vE nx es = true) (hb : b < nx) : inE es b = false := by
  rcases he : inE es b with _ | _
  · rfl
  · have := vE_in h he
    omega

/-- a valid list of extents is known by its blocks -/
theorem ext_eq {xs : Exs} : ∀ {ys : Exs} {p q : Int}, vE p xs = true → vE q ys = true → (∀ b, inE xs b = inE ys b) → xs = ys := by
  induction xs with
  | nil =>
    intro ys p q _ hy h
    rcases ys with _ | ⟨e, r⟩
    · rfl
    · obtain ⟨h1, h2, h3⟩ := vE_cons.1 hy
      have := h e.1
      rw [inE_cons, decide_eq_true (by omega : e.1 ≤ e.1), decide_eq_true (by omega : e.1 < e.1 + e.2)] at this
      cases this
  | cons e r ih =>
    intro ys p q hx hy h
    obtain ⟨h1, h2, h3⟩ := vE_cons.1 hx
    rcases ys with _ | ⟨f, s⟩
    · have := h e.1
      rw [inE_cons, decide_eq_true (by omega : e.1 ≤ e.1), decide_eq_true (by omega : e.1 < e.1 + e.2)] at this
      cases this
    · obtain ⟨k1, k2, k3⟩ := vE_cons.1 hy
      have hx' : vE e.1 (e :: r) = true := vE_cons.2 ⟨by omega, h2, h3⟩
      have hy' : vE f.1 (f :: s) = true := vE_cons.2 ⟨by omega, k2, k3⟩
      have ie : inE (e :: r) e.1 = true := by rw [inE_cons, decide_eq_true (by omega : e.1 ≤ e.1), decide_eq_true (by omega : e.1 < e.1 + e.2)]; rfl
      have jf : inE (f :: s) f.1 = true := by rw [inE_cons, decide_eq_true (by omega : f.1 ≤ f.1), decide_eq_true (by omega : f.1 < f.1 + f.2)]; rfl
      have a1 := (vE_in hy' (by rw [← h]; exact ie)).1
      have a2 := (vE_in hx' (by rw [h]; exact jf)).1
      have e1 : e.1 = f.1 := by omega
      have e2 : e.2 = f.2 := by
        rcases Int.lt_trichotomy e.2 f.2 with hlt | heq | hgt
        · exfalso
          have b1 : inE (f :: s) (e.1 + e.2) = true := by rw [inE_cons, decide_eq_true (by omega : f.1 ≤ e.1 + e.2), decide_eq_true (by omega : e.1 + e.2 < f.1 + f.2)]; rfl
          rw [← h, inE_cons, decide_eq_false (p := e.1 + e.2 < e.1 + e.2) (by omega), Bool.and_false, Bool.false_or] at b1
          have := (vE_in h3 b1).1
          omega
        · exact heq
        · exfalso
          have b1 : inE (e :: r) (f.1 + f.2) = true := by rw [inE_cons, decide_eq_true (by omega : e.1 ≤ f.1 + f.2), decide_eq_true (by omega : f.1 + f.2 < e.1 + e.2)]; rfl
          rw [h, inE_cons, decide_eq_false (p := f.1 + f.2 < f.1 + f.2) (by omega), Bool.and_false, Bool.false_or] at b1
          have := (vE_in k3 b1).1
          omega
      obtain rfl : e = f := Prod.ext e1 e2
      rw [ih h3 k3 fun b => ?_]
      have hb := h b
      rw [inE_cons, inE_cons] at hb
      by_cases hbb : b < e.1 + e.2 + 1
      · rw [vE_not h3 hbb, vE_not k3 hbb]
      · rw [decide_eq_false (p := b < e.1 + e.2) (by omega), Bool.and_false, Bool.false_or, Bool.false_or] at hb
        exact hb

/-! ### the runs of a set of blocks -/
def bump : Exs → Exs
  | [] => []
  | [e] => [(e.1, e.2 + 1)]
  | e :: f :: r => e :: bump (f :: r)
theorem bump_snoc (es : Exs) (e : Int × Int) : bump (es ++ [e]) = es ++ [(e.1, e.2 + 1)] := by
  induction es with
  | nil => rfl
  | cons f r ih =>
    rcases r with _ | ⟨g, r⟩
    · rfl
    · simp only [List.cons_append, bump] at ih ⊢
      rw [ih]
theorem bump_length (es : Exs) : (bump es).length = es.length := by
  induction es with
  | nil => rfl
  | cons f r ih =>
    rcases r with _ | ⟨g, r⟩
    · rfl
    · simp only [bump, List.length_cons] at ih ⊢
      rw [ih]
/-- block i goes on with a run -/
def onP (p : Int → Bool) (i : Nat) : Bool := decide (0 < i) && p ((i : Int) - 1)
def runsP (p : Int → Bool) : Nat → Exs
  | 0 => []
  | i + 1 => if p i then (if onP p i then bump (runsP p i) else runsP p i ++ [((i : Int), 1)]) else runsP p i
theorem runsP_succ (p : Int → Bool) (i : Nat) : runsP p (i + 1) = if p i then (if onP p i then bump (runsP p i) else runsP p i ++ [((i : Int), 1)]) else runsP p i := rfl
/-- the extents of the blocks that p tells -/
def R (p : Int → Bool) : Exs := runsP p 12

structure Run (p : Int → Bool) (i : Nat) (es : Exs) : Prop where
  val : vE 0 es = true
  mem : ∀ b : Int, inE es b = (decide (0 ≤ b) && decide (b < i) && p b)
  off : onP p i = false → nxt 0 es ≤ i
  on : onP p i = true → ∃ (init : Exs) (e : Int × Int), es = init ++ [e] ∧ e.1 + e.2 = (i : Int)
theorem onP_succ (p : Int → Bool) (i : Nat) : onP p (i + 1) = p i := by
  unfold onP
  rw [decide_eq_true (by omega), Bool.true_and, show ((i + 1 : Nat) : Int) - 1 = (i : Int) by omega]
theorem inE_one (f n b : Int) : inE [(f, n)] b = (decide (f ≤ b) && decide (b < f + n)) := by unfold inE; simp
theorem run_all (p : Int → Bool) : ∀ i, i ≤ 12 → Run p i (runsP p i) := by
  intro i
  induction i with
  | zero =>
    intro _
    refine ⟨rfl, fun b => ?_, fun _ => Int.le_refl _, fun h => by cases h⟩
    show false = _
    by_cases h : 0 ≤ b
    · rw [decide_eq_false (p := b < ((0 : Nat) : Int)) (by omega)]; simp
    · rw [decide_eq_false (p := 0 ≤ b) h]; rfl
  | succ i ih =>
    intro hi
    have h := ih (by omega)
    have step : ∀ b : Int, (decide (0 ≤ b) && decide (b < ((i + 1 : Nat) : Int)) && p b) = ((decide (0 ≤ b) && decide (b < (i : Int)) && p b) || (decide (b = (i : Int)) && p i)) := by
      intro b
      by_cases hb : b = (i : Int)
      · subst hb
        rw [decide_eq_true (by omega : (0 : Int) ≤ (i : Int)), decide_eq_true (by omega : (i : Int) < ((i + 1 : Nat) : Int)), decide_eq_false (p := (i : Int) < (i : Int)) (by omega)]
        simp
      · rw [decide_eq_false (p := b = (i : Int)) hb, Bool.false_and, Bool.or_false]
        congr 2
        rw [decide_eq_decide]
        omega
    rw [runsP_succ]
    rcases hp : p i with _ | _
    · rw [if_neg (by decide)]
      refine ⟨h.val, fun b => by rw [step, hp, Bool.and_false, Bool.or_false]; exact h.mem b, fun _ => ?_, fun hon => by rw [onP_succ, hp] at hon; cases hon⟩
      rcases ho : onP p i with _ | _
      · have := h.off ho; omega
      · obtain ⟨init, e, he, hs⟩ := h.on ho
        rw [he, nxt_append]
        show e.1 + e.2 + 1 ≤ _
        omega
    · rw [if_pos rfl]
      rcases ho : onP p i with _ | _
      · rw [if_neg (by decide)]
        have hn := h.off ho
        refine ⟨?_, fun b => ?_, fun hon => (by rw [onP_succ, hp] at hon; cases hon), fun _ => ⟨_, _, rfl, by show (i : Int) + 1 = _; omega⟩⟩
        · rw [vE_append, h.val, Bool.true_and]
          exact vE_cons.2 ⟨⟨hn, by show (i : Int) ≤ 11; omega⟩, ⟨Int.le_refl _, by show (1 : Int) ≤ 12 - (i : Int); omega⟩, rfl⟩
        · rw [step, inE_append, h.mem, hp, Bool.and_true, inE_one]
          congr 1
          rw [← Bool.decide_and, decide_eq_decide]
          omega
      · rw [if_pos rfl]
        obtain ⟨init, e, he, hs⟩ := h.on ho
        have hv := h.val
        have hm := h.mem
        rw [he] at hv hm
        rw [he, bump_snoc]
        rw [vE_append, Bool.and_eq_true] at hv
        obtain ⟨e1, e2, _⟩ := vE_cons.1 hv.2
        refine ⟨?_, fun b => ?_, fun hon => (by rw [onP_succ, hp] at hon; cases hon), fun _ => ⟨_, _, rfl, by show e.1 + (e.2 + 1) = _; omega⟩⟩
        · rw [vE_append, hv.1, Bool.true_and]
          exact vE_cons.2 ⟨e1, ⟨by show 1 ≤ e.2 + 1; omega, by show e.2 + 1 ≤ 12 - e.1; omega⟩, rfl⟩
        · rw [step, ← hm, hp, Bool.and_true, inE_append, inE_append, Bool.or_assoc]
          congr 1
          rw [inE_one, show inE [e] b = (decide (e.1 ≤ b) && decide (b < e.1 + e.2)) from inE_one _ _ _, ← Bool.decide_and, ← Bool.decide_and, ← Bool.decide_or, decide_eq_decide]
          omega
theorem R_val (p : Int → Bool) : exV (R p) = true := (run_all p 12 (by omega)).val
theorem R_in (p : Int → Bool) (b : Int) : inE (R p) b = (decide (0 ≤ b) && decide (b < 12) && p b) := (run_all p 12 (by omega)).mem b
theorem R_self {es : Exs} (h : exV es = true) : R (inE es) = es := by
  refine ext_eq (R_val _) h fun b => ?_
  rw [R_in]
  rcases he : inE es b with _ | _
  · simp
  · have := vE_in h he
    rw [decide_eq_true (by omega : 0 ≤ b), decide_eq_true (by omega : b < 12)]
    rfl
theorem runsP_congr {p q : Int → Bool} : ∀ n : Nat, (∀ b : Int, 0 ≤ b → b < n → p b = q b) → runsP p n = runsP q n := by
  intro n
  induction n with
  | zero => intro _; rfl
  | succ n ih =>
    intro h
    have e1 := h n (by omega) (by omega)
    have e2 : onP p n = onP q n := by
      unfold onP
      by_cases h0 : 0 < n
      · rw [h ((n : Int) - 1) (by omega) (by omega)]
      · rw [decide_eq_false h0]; rfl
    rw [runsP_succ, runsP_succ, e1, e2, ih fun b h0 h1 => h b h0 (by omega)]
theorem R_congr {p q : Int → Bool} (h : ∀ b : Int, 0 ≤ b → b < 12 → p b = q b) : R p = R q := runsP_congr 12 h

/-! ### the functions -/
def joinE (a b : Exs) : Exs := if exV a && exV b then R (fun i => inE a i || inE b i) else []
def lessE (a b : Exs) : Exs := if exV a && exV b then R (fun i => inE a i && !inE b i) else []
def bothV (a b : Exs) : Bool := exV a && exV b
/-- the blocks that p tells, ascending -/
def blkP (p : Int → Bool) : Nat → List Int
  | 0 => []
  | i + 1 => if p i then blkP p i ++ [(i : Int)] else blkP p i
def blkE (es : Exs) : List Int := if exV es then blkP (inE es) 12 else []
def aB : Int → List Int → Bool
  | _, [] => true
  | l, b :: r => inB b 0 11 && decide (l < b) && aB b r
def okB (bs : List Int) : Bool := aB (-1) bs
def hasB (bs : List Int) (n : Int) : Bool := bs.contains n
def ofB (bs : List Int) : Exs := if okB bs then R (hasB bs) else []

theorem blkP_succ (p : Int → Bool) (i : Nat) : blkP p (i + 1) = if p i then blkP p i ++ [(i : Int)] else blkP p i := rfl
theorem blkP_congr {p q : Int → Bool} : ∀ n : Nat, (∀ b : Int, 0 ≤ b → b < n → p b = q b) → blkP p n = blkP q n := by
  intro n
  induction n with
  | zero => intro _; rfl
  | succ n ih =>
    intro h
    rw [blkP_succ, blkP_succ, h n (by omega) (by omega), ih fun b h0 h1 => h b h0 (by omega)]
theorem blkP_mem (p : Int → Bool) : ∀ (n : Nat) (b : Int), hasB (blkP p n) b = (decide (0 ≤ b) && decide (b < n) && p b) := by
  intro n
  induction n with
  | zero =>
    intro b
    show false = _
    by_cases h : 0 ≤ b
    · rw [decide_eq_false (p := b < ((0 : Nat) : Int)) (by omega)]; simp
    · rw [decide_eq_false (p := 0 ≤ b) h]; rfl
  | succ n ih =>
    intro b
    have hs : hasB (blkP p (n + 1)) b = (hasB (blkP p n) b || (decide (b = (n : Int)) && p n)) := by
      rw [blkP_succ]
      unfold hasB
      rcases hp : p n with _ | _
      · simp
      · rw [if_pos rfl, Bool.eq_iff_iff]
        simp
    rw [hs, ih]
    by_cases hb : b = (n : Int)
    · subst hb
      rw [decide_eq_true (by omega : (0 : Int) ≤ (n : Int)), decide_eq_true (by omega : (n : Int) < ((n + 1 : Nat) : Int)), decide_eq_false (p := (n : Int) < (n : Int)) (by omega)]
      simp
    · rw [decide_eq_false (p := b = (n : Int)) hb, Bool.false_and, Bool.or_false]
      congr 2
      rw [decide_eq_decide]
      omega
theorem aB_cons {l b : Int} {r : List Int} : aB l (b :: r) = true ↔ (0 ≤ b ∧ b ≤ 11) ∧ l < b ∧ aB b r = true := by
  simp only [aB, Bool.and_eq_true, inB_iff, decide_eq_true_eq, and_assoc]
theorem aB_step {xs : List Int} {k : Nat} (h : k < xs.length) (l : Int) : aB l (xs.drop k) = (inB (xs.getD k 0) 0 11 && decide (l < xs.getD k 0) && aB (xs.getD k 0) (xs.drop (k + 1))) := by
  have e : xs.getD k 0 = xs[k] := by simp [List.getD, h]
  rw [e, List.drop_eq_getElem_cons h]
  rfl
theorem aB_all {bs : List Int} : ∀ {l : Int}, aB l bs = true → ∀ x ∈ bs, l < x ∧ 0 ≤ x ∧ x ≤ 11 := by
  induction bs with
  | nil => intro l _ x hx; cases hx
  | cons b r ih =>
    intro l h x hx
    obtain ⟨h1, h2, h3⟩ := aB_cons.1 h
    rcases List.mem_cons.1 hx with rfl | hx
    · omega
    · have := ih h3 x hx
      omega
theorem blk_filter {bs : List Int} : ∀ {l : Int}, aB l bs = true → ∀ n : Nat, bs.filter (fun x => decide (x < ((n + 1 : Nat) : Int))) = bs.filter (fun x => decide (x < (n : Int))) ++ (if hasB bs n then [(n : Int)] else []) := by
  induction bs with
  | nil => intro l _ n; simp [hasB]
  | cons b r ih =>
    intro l h n
    obtain ⟨h1, h2, h3⟩ := aB_cons.1 h
    have hr := aB_all h3
    have ih' := ih h3 n
    rw [List.filter_cons, List.filter_cons]
    by_cases hb : b < (n : Int)
    · rw [if_pos (by simp; omega), if_pos (by simpa using hb), ih']
      have : hasB (b :: r) n = hasB r n := by unfold hasB; rw [List.contains_cons]; simp; omega
      rw [this]
      rfl
    · rw [if_neg (c := decide (b < (n : Int)) = true) (by simpa using hb)]
      have none1 : r.filter (fun x => decide (x < (n : Int))) = [] := List.filter_eq_nil_iff.2 fun x hx => by have := hr x hx; simp; omega
      by_cases he : b = (n : Int)
      · have none2 : r.filter (fun x => decide (x < ((n + 1 : Nat) : Int))) = [] := List.filter_eq_nil_iff.2 fun x hx => by have := hr x hx; simp; omega
        rw [if_pos (by simp; omega), none1, none2]
        have : hasB (b :: r) n = true := by unfold hasB; rw [List.contains_cons]; simp [he]
        rw [this, he]
        rfl
      · rw [if_neg (by simp; omega), ih']
        have : hasB (b :: r) n = hasB r n := by unfold hasB; rw [List.contains_cons]; simp; omega
        rw [this]
theorem blk_of {bs : List Int} (h : okB bs = true) : blkP (hasB bs) 12 = bs := by
  have key : ∀ n : Nat, blkP (hasB bs) n = bs.filter (fun x => decide (x < (n : Int))) := by
    intro n
    induction n with
    | zero =>
      symm
      exact List.filter_eq_nil_iff.2 fun x hx => by have := aB_all h x hx; simp; omega
    | succ n ih =>
      rw [blk_filter h n, ← ih, blkP_succ]
      rcases hasB bs n with _ | _
      · simp
      · simp
  rw [key]
  exact List.filter_eq_self.2 fun x hx => by have := aB_all h x hx; simp; omega
theorem blkP_ok (p : Int → Bool) : okB (blkP p 12) = true := by
  have key : ∀ n : Nat, n ≤ 12 → aB (-1) (blkP p n) = true ∧ ∀ x ∈ blkP p n, x < n := by
    intro n
    induction n with
    | zero => intro _; exact ⟨rfl, fun x hx => by cases hx⟩
    | succ n ih =>
      intro hn
      obtain ⟨h1, h2⟩ := ih (by omega)
      have snoc : ∀ (xs : List Int) (l : Int), aB l xs = true → l < n → (∀ x ∈ xs, x < n) → aB l (xs ++ [(n : Int)]) = true := by
        intro xs
        induction xs with
        | nil => intro l _ hl _; exact aB_cons.2 ⟨by omega, hl, rfl⟩
        | cons y ys ihy =>
          intro l ha hl hall
          obtain ⟨a1, a2, a3⟩ := aB_cons.1 ha
          exact aB_cons.2 ⟨a1, a2, ihy y a3 (hall y (List.mem_cons_self ..)) fun x hx => hall x (List.mem_cons_of_mem _ hx)⟩
      rw [blkP_succ]
      rcases p n with _ | _
      · rw [if_neg (by decide)]
        exact ⟨h1, fun x hx => by have := h2 x hx; omega⟩
      · rw [if_pos rfl]
        refine ⟨snoc _ _ h1 (by omega) h2, fun x hx => ?_⟩
        rcases List.mem_append.1 hx with hx | hx
        · have := h2 x hx; omega
        · simp at hx; omega
  exact (key 12 (by omega)).1

/-! ### what the laws ask -/
theorem of_valid {bs : List Int} (h : okB bs = true) : exV (ofB bs) = true ∧ blkE (ofB bs) = bs := by
  unfold ofB
  rw [if_pos h]
  refine ⟨R_val _, ?_⟩
  unfold blkE
  rw [if_pos (R_val _)]
  refine Eq.trans (blkP_congr 12 fun b h0 h1 => ?_) (blk_of h)
  rw [R_in, decide_eq_true h0, decide_eq_true (by omega : b < 12)]
  rfl
theorem back {es : Exs} (h : exV es = true) : okB (blkE es) = true ∧ ofB (blkE es) = es := by
  have e : blkE es = blkP (inE es) 12 := by unfold blkE; rw [if_pos h]
  have ho : okB (blkE es) = true := by rw [e]; exact blkP_ok _
  refine ⟨ho, ?_⟩
  unfold ofB
  rw [if_pos ho, e]
  refine Eq.trans (R_congr fun b h0 h1 => ?_) (R_self h)
  rw [blkP_mem, decide_eq_true h0, decide_eq_true (by omega : b < ((12 : Nat) : Int))]
  rfl
theorem join_in {a b : Exs} (h : bothV a b = true) (i : Int) : inE (joinE a b) i = (inE a i || inE b i) := by
  have h' : (exV a && exV b) = true := h
  unfold joinE
  rw [if_pos h', R_in]
  rw [Bool.and_eq_true] at h'
  rcases ha : inE a i with _ | _
  · rcases hb : inE b i with _ | _
    · simp
    · have := vE_in h'.2 hb
      rw [decide_eq_true (by omega : 0 ≤ i), decide_eq_true (by omega : i < 12)]; rfl
  · have := vE_in h'.1 ha
    rw [decide_eq_true (by omega : 0 ≤ i), decide_eq_true (by omega : i < 12)]; rfl
theorem less_in {a b : Exs} (h : bothV a b = true) (i : Int) : inE (lessE a b) i = (inE a i && !inE b i) := by
  have h' : (exV a && exV b) = true := h
  unfold lessE
  rw [if_pos h', R_in]
  rw [Bool.and_eq_true] at h'
  rcases ha : inE a i with _ | _
  · simp
  · have := vE_in h'.1 ha
    rw [decide_eq_true (by omega : 0 ≤ i), decide_eq_true (by omega : i < 12)]; rfl
theorem join_val (a b : Exs) : exV (joinE a b) = true := by unfold joinE; split; exact R_val _; rfl
theorem less_val (a b : Exs) : exV (lessE a b) = true := by unfold lessE; split; exact R_val _; rfl
theorem join_comm {a b : Exs} (h : bothV a b = true) : joinE b a = joinE a b ∧ bothV b a = true := by
  have h2 : bothV b a = true := by unfold bothV at h ⊢; rw [Bool.and_comm]; exact h
  refine ⟨ext_eq (join_val _ _) (join_val _ _) fun i => ?_, h2⟩
  rw [join_in h2, join_in h, Bool.or_comm]
theorem less_parts {a b : Exs} (h : bothV a b = true) : bothV a (lessE a b) = true ∧ bothV (lessE a b) (lessE a (lessE a b)) = true ∧ joinE (lessE a b) (lessE a (lessE a b)) = a := by
  have ha : exV a = true := by unfold bothV at h; rw [Bool.and_eq_true] at h; exact h.1
  have h1 : bothV a (lessE a b) = true := by unfold bothV; rw [ha, less_val]; rfl
  have h2 : bothV (lessE a b) (lessE a (lessE a b)) = true := by unfold bothV; rw [less_val, less_val]; rfl
  refine ⟨h1, h2, ext_eq (join_val _ _) ha fun i => ?_⟩
  rw [join_in h2, less_in h1, less_in h]
  cases inE a i <;> cases inE b i <;> rfl
theorem has_blk {es : Exs} (h : exV es = true) (i : Int) : hasB (blkE es) i = inE es i := by
  unfold blkE
  rw [if_pos h, blkP_mem]
  rcases he : inE es i with _ | _
  · simp
  · have := vE_in h he
    rw [decide_eq_true (by omega : 0 ≤ i), decide_eq_true (by omega : i < ((12 : Nat) : Int))]; rfl
theorem runs_few (p q : Int → Bool) : ∀ n : Nat, (runsP (fun i => p i || q i) n).length ≤ (runsP p n).length + (runsP q n).length := by
  intro n
  induction n with
  | zero => exact Nat.le_refl _
  | succ n ih =>
    have ho : onP (fun i => p i || q i) n = (onP p n || onP q n) := by
      unfold onP
      cases decide (0 < n) <;> rfl
    rw [runsP_succ, runsP_succ, runsP_succ, ho]
    have l1 : ∀ (es : Exs) (x : Int × Int), (es ++ [x]).length = es.length + 1 := fun es x => by simp
    rcases p n with _ | _ <;> rcases q n with _ | _ <;> rcases onP p n with _ | _ <;> rcases onP q n with _ | _ <;> simp [bump_length, l1] <;> omega
theorem join_few {a b : Exs} (h : bothV a b = true) : (joinE a b).length ≤ a.length + b.length := by
  have h' : (exV a && exV b) = true := h
  have h2 := h'
  rw [Bool.and_eq_true] at h2
  unfold joinE
  rw [if_pos h']
  have := runs_few (inE a) (inE b) 12
  have e1 : runsP (inE a) 12 = a := R_self h2.1
  have e2 : runsP (inE b) 12 = b := R_self h2.2
  rw [e1, e2] at this
  exact this
theorem part_yesE {es : Exs} (h : exV es = true) (k : Nat) : exV (es.take k ++ es.drop (k + 1)) = true := by
  have hs : vE 0 (es.take k ++ es.drop k) = true := by rw [List.take_append_drop]; exact h
  rw [vE_append, Bool.and_eq_true] at hs
  show vE 0 _ = true
  rw [vE_append, hs.1, Bool.true_and]
  by_cases hk : k < es.length
  · rw [List.drop_eq_getElem_cons hk] at hs
    obtain ⟨h1, h2, h3⟩ := vE_cons.1 hs.2
    exact vE_less h3 (by omega)
  · rw [List.drop_of_length_le (by omega)]
    rfl
theorem part_zeroE {es : Exs} {k : Nat} (hk : k < es.length) (f : Int) : exV (es.set k (f, 0)) = false := by
  rcases hv : exV (es.set k (f, 0)) with _ | _
  · rfl
  · exfalso
    have hs : vE 0 ((es.set k (f, 0)).take k ++ (es.set k (f, 0)).drop k) = true := by rw [List.take_append_drop]; exact hv
    rw [vE_append, Bool.and_eq_true, List.drop_eq_getElem_cons (by rw [List.length_set]; exact hk), List.getElem_set_self] at hs
    have h2 : (1 : Int) ≤ 0 := (vE_cons.1 hs.2).2.1.1
    omega
theorem part_twiceE {es : Exs} {k : Nat} (hk : k < es.length) : exV (es.take (k + 1) ++ es.drop k) = false := by
  rcases hv : exV (es.take (k + 1) ++ es.drop k) with _ | _
  · rfl
  · exfalso
    have hs : vE 0 (es.take (k + 1) ++ es.drop k) = true := hv
    rw [List.take_succ_eq_append_getElem hk, List.drop_eq_getElem_cons hk, List.append_assoc, vE_append, Bool.and_eq_true] at hs
    obtain ⟨h1, h2, h3⟩ := vE_cons.1 hs.2
    have h4 := (vE_cons.1 h3).1.1
    omega

/-! ### the first blocks are numbers of the language -/
def Rg (es : Exs) : Prop := ∀ e ∈ es, e.1 ≤ 9223372036854775807
theorem vE_small {r : Exs} : ∀ {nx : Int}, vE nx r = true → ∀ y ∈ r, y.1 ≤ 11 := by
  induction r with
  | nil => intro nx _ y hy; cases hy
  | cons x r ih =>
    intro nx h y hy
    obtain ⟨h1, h2, h3⟩ := vE_cons.1 h
    rcases List.mem_cons.1 hy with rfl | hy
    · exact h1.2
    · exact ih h3 y hy
theorem Rg.val {es : Exs} (h : exV es = true) : Rg es := fun e he => by have := vE_small h e he; omega
theorem Rg.app {es fs : Exs} (h : Rg es) (h' : Rg fs) : Rg (es ++ fs) := fun e he => by
  rcases List.mem_append.1 he with he | he
  · exact h e he
  · exact h' e he
theorem Rg.take {es : Exs} (h : Rg es) (k : Nat) : Rg (es.take k) := fun e he => h e (List.mem_of_mem_take he)
theorem Rg.drop {es : Exs} (h : Rg es) (k : Nat) : Rg (es.drop k) := fun e he => h e (List.mem_of_mem_drop he)
theorem Rg.set {es : Exs} (h : Rg es) (k : Nat) (x y : Int) (hx : x ≤ 9223372036854775807) : Rg (es.set k (x, y)) := fun e he => by
  rcases List.mem_or_eq_of_mem_set he with he | rfl
  · exact h e he
  · exact hx
theorem Rg.at {es : Exs} (h : Rg es) {k : Nat} {e : Int × Int} (hk : es[k]? = some e) : e.1 ≤ 9223372036854775807 := h e (List.mem_of_getElem? hk)
theorem ofB_val (bs : List Int) : exV (ofB bs) = true := by unfold ofB; split; exact R_val _; rfl
theorem bothV_and {a b : Exs} (h : bothV a b = true) : exV a = true ∧ exV b = true := by unfold bothV at h; rw [Bool.and_eq_true] at h; exact h
end Go.Proofs.YtfianpjoifcphaaGreat

/- PairM -/
namespace Go.Proofs.YtfianpjoifcphaaGreat
open Go.RowKit
set_option linter.unusedVariables false
set_option maxRecDepth 100000

theorem all_succ (k : Nat) (f : Nat → Bool) : (List.range (k + 1)).all f = ((List.range k).all f && f k) := by simp [List.range_succ]
theorem all_no {n k : Nat} {f : Nat → Bool} (hk : k < n) (h : f k = false) : (List.range n).all f = false := by
  rw [List.all_eq_false]
  exact ⟨k, by simpa using hk, by simp [h]⟩
theorem all_le {n k : Nat} {f : Nat → Bool} (hk : k ≤ n) (h : (List.range k).all f = false) : (List.range n).all f = false := by
  rw [List.all_eq_false] at h ⊢
  obtain ⟨j, hj, hf⟩ := h
  exact ⟨j, by simp at hj ⊢; omega, hf⟩
theorem all_at {n k : Nat} {f : Nat → Bool} (h : (List.range n).all f = true) (hk : k < n) : f k = true := List.all_eq_true.1 h k (by simpa using hk)
theorem all_of {n : Nat} {f : Nat → Bool} (h : ∀ k, k < n → f k = true) : (List.range n).all f = true := List.all_eq_true.2 fun k hk => h k (by simpa using hk)

/-- the block ahead of record j, or -1 -/
def prevR (s : Nat) (xs : List Int) : Nat → Int
  | 0 => -1
  | j + 1 => xs.getD (j * s) 0
/-- record j's block may follow -/
def stepR (s : Nat) (xs : List Int) (j : Nat) : Bool := decide (prevR s xs j < xs.getD (j * s) 0) && decide (xs.getD (j * s) 0 ≤ 11)
def fldP (xs : List Int) (j : Nat) : Bool := decide (0 ≤ xs.getD (j * 2 + 1) 0) && decide (xs.getD (j * 2 + 1) 0 ≤ 99)
def fldC (xs : List Int) (j : Nat) : Bool := (decide (1 ≤ xs.getD (j * 3 + 1) 0) && decide (xs.getD (j * 3 + 1) 0 ≤ 999)) && (decide (0 ≤ xs.getD (j * 3 + 2) 0) && decide (xs.getD (j * 3 + 2) 0 ≤ 5))
def vals (f : List Int → Nat → Bool) (xs : List Int) (k : Nat) : Bool := (List.range k).all (f xs)
def asc (s : Nat) (xs : List Int) (k : Nat) : Bool := (List.range k).all (stepR s xs)
/-- n records, s numbers each, are valid: as many as may be, all fields in range, the blocks ascending -/
def validR (s : Nat) (mx : Int) (f : List Int → Nat → Bool) (xs : List Int) (n : Nat) : Bool := inB n 1 mx && vals f xs n && asc s xs n
abbrev validP (xs : List Int) (n : Nat) : Bool := validR 2 9 fldP xs n
abbrev validC (xs : List Int) (n : Nat) : Bool := validR 3 6 fldC xs n

theorem validR_iff {s : Nat} {mx : Int} {f : List Int → Nat → Bool} {xs : List Int} {n : Nat} : validR s mx f xs n = true ↔ (1 ≤ (n : Int) ∧ (n : Int) ≤ mx) ∧ (∀ j, j < n → f xs j = true) ∧ (∀ j, j < n → stepR s xs j = true) := by
  unfold validR vals asc
  rw [Bool.and_eq_true, Bool.and_eq_true, inB_iff]
  constructor
  · rintro ⟨⟨h1, h2⟩, h3⟩
    exact ⟨h1, fun j hj => all_at h2 hj, fun j hj => all_at h3 hj⟩
  · rintro ⟨h1, h2, h3⟩
    exact ⟨⟨h1, all_of h2⟩, all_of h3⟩
theorem prevR_ge {s : Nat} {xs : List Int} {k : Nat} (h : ∀ j, j < k → stepR s xs j = true) : -1 ≤ prevR s xs k := by
  induction k with
  | zero => exact Int.le_refl _
  | succ k ih =>
    have := h k (by omega)
    have ih' := ih fun j hj => h j (by omega)
    simp [stepR] at this
    show -1 ≤ xs.getD (k * s) 0
    simp only [List.getD_eq_getElem?_getD]
    omega
theorem validR_step {s : Nat} {mx : Int} {f : List Int → Nat → Bool} {xs : List Int} {n k : Nat} (hk : k < n) (h : stepR s xs k = false) : validR s mx f xs n = false := by
  unfold validR asc; rw [all_no hk h]; simp
theorem validR_fld {s : Nat} {mx : Int} {f : List Int → Nat → Bool} {xs : List Int} {n k : Nat} (hk : k < n) (h : f xs k = false) : validR s mx f xs n = false := by
  unfold validR vals; rw [all_no hk h]; simp
theorem validR_eq {s : Nat} {mx : Int} {f : List Int → Nat → Bool} {xs : List Int} {n : Nat} (h1 : vals f xs n = true) (h2 : asc s xs n = true) : validR s mx f xs n = inB n 1 mx := by
  unfold validR; rw [h1, h2]; simp
theorem validR_asc {s : Nat} {mx : Int} {f : List Int → Nat → Bool} {xs : List Int} {n : Nat} (h : inB n 1 mx = true) (h1 : vals f xs n = true) : validR s mx f xs n = asc s xs n := by
  unfold validR; rw [h, h1]; simp
theorem validR_len {s : Nat} {mx : Int} {f : List Int → Nat → Bool} {xs : List Int} {n : Nat} (h : inB n 1 mx = false) : validR s mx f xs n = false := by
  unfold validR; rw [h]; simp
theorem vals_succ {f : List Int → Nat → Bool} {xs : List Int} {k : Nat} (h : vals f xs k = true) (h2 : f xs k = true) : vals f xs (k + 1) = true := by
  unfold vals at h ⊢; rw [all_succ, h, h2]; rfl
theorem asc_succ {s : Nat} {xs : List Int} {k : Nat} (h : asc s xs k = true) (h2 : stepR s xs k = true) : asc s xs (k + 1) = true := by
  unfold asc at h ⊢; rw [all_succ, h, h2]; rfl
theorem stepR_in (s : Nat) (xs : List Int) (k : Nat) : stepR s xs k = inB (xs.getD (k * s) 0) (prevR s xs k + 1) 11 := by
  unfold stepR inB
  congr 1
theorem stepR_prev {s : Nat} {xs : List Int} {k : Nat} (h : stepR s xs k = true) : prevR s xs (k + 1) ≤ 11 ∧ prevR s xs k < prevR s xs (k + 1) := by
  have h1 : stepR s xs k = (decide (prevR s xs k < prevR s xs (k + 1)) && decide (prevR s xs (k + 1) ≤ 11)) := rfl
  rw [h1, Bool.and_eq_true] at h
  exact ⟨by simpa using h.2, by simpa using h.1⟩
theorem fldP_in (xs : List Int) (k : Nat) : fldP xs k = inB (xs.getD (k * 2 + 1) 0) 0 99 := rfl
theorem fldC_in (xs : List Int) (k : Nat) : fldC xs k = (inB (xs.getD (k * 3 + 1) 0) 1 999 && inB (xs.getD (k * 3 + 2) 0) 0 5) := rfl
end Go.Proofs.YtfianpjoifcphaaGreat

/- SameP -/
namespace Go.Proofs.YtfianpjoifcphaaGreat
open Go.RowKit
set_option linter.unusedVariables false
set_option maxRecDepth 100000

theorem take_rec_succ (s : Nat) (xs ys : List Int) (k : Nat) (hx : k * s + s ≤ xs.length) (hy : k * s + s ≤ ys.length) (h : xs.take (k * s) = ys.take (k * s)) :
    ((∀ j, j < s → xs.getD (k * s + j) 0 = ys.getD (k * s + j) 0) → xs.take ((k + 1) * s) = ys.take ((k + 1) * s)) ∧ ((∃ j, xs.getD (k * s + j) 0 ≠ ys.getD (k * s + j) 0) → xs ≠ ys) := by
  refine ⟨fun e => ?_, fun ⟨j, e⟩ h => e (by rw [h])⟩
  have hl : (k + 1) * s = k * s + s := Nat.succ_mul k s
  rw [hl]
  apply List.ext_getElem?
  intro i
  rcases Nat.lt_or_ge i (k * s) with hi | hi
  · have h2 : (xs.take (k * s))[i]? = (ys.take (k * s))[i]? := by rw [h]
    rw [List.getElem?_take_of_lt hi, List.getElem?_take_of_lt hi] at h2
    rw [List.getElem?_take_of_lt (by omega), List.getElem?_take_of_lt (by omega), h2]
  · rcases Nat.lt_or_ge i (k * s + s) with hi2 | hi2
    · obtain ⟨j, rfl⟩ := Nat.exists_eq_add_of_le hi
      have := e j (by omega)
      have h1 : k * s + j < xs.length := by omega
      have h2 : k * s + j < ys.length := by omega
      rw [List.getElem?_take_of_lt hi2, List.getElem?_take_of_lt hi2]
      simpa [List.getD, h1, h2] using this
    · rw [List.getElem?_eq_none (by rw [List.length_take]; omega), List.getElem?_eq_none (by rw [List.length_take]; omega)]

theorem cell_next {w : World} {ad p : Addr} {m i : Nat} {v : Value} (hi : i ≠ 0) (e : ad.add m = p) (h : w.cell? (ad.add (m + i)) = some v) : w.cell? ⟨p.block, p.off + i, none⟩ = some v := by
  rw [← add_of_add, e] at h
  simpa [Addr.add, hi] using h
theorem ints_at2 {w : World} {B n k : Nat} {A : Option Addr} {xs : List Int} (h : Ints w B A (n * 2) xs) (hk : k < n) : ∃ ad p, A = some ad ∧ ad.add (k * 2) = p ∧ p.block < B ∧ w.cell? p = some (.int .i64 (xs.getD (k * 2) 0)) ∧ w.cell? ⟨p.block, p.off + 1, none⟩ = some (.int .i64 (xs.getD (k * 2 + 1) 0)) := by
  obtain ⟨ad, e, hb, hc⟩ := h.2 (by omega)
  exact ⟨ad, _, e, rfl, by rw [block_of_add]; exact hb, hc _ (by omega), cell_next (by decide) rfl (hc (k * 2 + 1) (by omega))⟩
theorem ints_at3 {w : World} {B n k : Nat} {A : Option Addr} {xs : List Int} (h : Ints w B A (n * 3) xs) (hk : k < n) : ∃ ad p, A = some ad ∧ ad.add (k * 3) = p ∧ p.block < B ∧ w.cell? p = some (.int .i64 (xs.getD (k * 3) 0)) ∧ w.cell? ⟨p.block, p.off + 1, none⟩ = some (.int .i64 (xs.getD (k * 3 + 1) 0)) ∧ w.cell? ⟨p.block, p.off + 2, none⟩ = some (.int .i64 (xs.getD (k * 3 + 2) 0)) := by
  obtain ⟨ad, e, hb, hc⟩ := h.2 (by omega)
  exact ⟨ad, _, e, rfl, by rw [block_of_add]; exact hb, hc _ (by omega), cell_next (by decide) rfl (hc (k * 3 + 1) (by omega)), cell_next (by decide) rfl (hc (k * 3 + 2) (by omega))⟩

theorem take_rec2 (xs : List Int) (k : Nat) (h : k * 2 + 2 ≤ xs.length) : xs.take (k * 2) ++ [xs.getD (k * 2) 0, xs.getD (k * 2 + 1) 0] = xs.take ((k + 1) * 2) := by
  have h0 : k * 2 < xs.length := by omega
  have h1 : k * 2 + 1 < xs.length := by omega
  have e0 : xs.getD (k * 2) 0 = xs[k * 2] := by simp [List.getD, h0]
  have e1 : xs.getD (k * 2 + 1) 0 = xs[k * 2 + 1] := by simp [List.getD, h1]
  rw [show (k + 1) * 2 = k * 2 + 1 + 1 by omega, List.take_succ_eq_append_getElem h1, List.take_succ_eq_append_getElem h0, e0, e1, List.append_assoc]
  rfl
theorem take_rec3 (xs : List Int) (k : Nat) (h : k * 3 + 3 ≤ xs.length) : xs.take (k * 3) ++ [xs.getD (k * 3) 0, xs.getD (k * 3 + 1) 0, xs.getD (k * 3 + 2) 0] = xs.take ((k + 1) * 3) := by
  have h0 : k * 3 < xs.length := by omega
  have h1 : k * 3 + 1 < xs.length := by omega
  have h2 : k * 3 + 2 < xs.length := by omega
  have e0 : xs.getD (k * 3) 0 = xs[k * 3] := by simp [List.getD, h0]
  have e1 : xs.getD (k * 3 + 1) 0 = xs[k * 3 + 1] := by simp [List.getD, h1]
  have e2 : xs.getD (k * 3 + 2) 0 = xs[k * 3 + 2] := by simp [List.getD, h2]
  rw [show (k + 1) * 3 = k * 3 + 1 + 1 + 1 by omega, List.take_succ_eq_append_getElem h2, List.take_succ_eq_append_getElem h1, List.take_succ_eq_append_getElem h0, e0, e1, e2, List.append_assoc, List.append_assoc]
  rfl

/-- what PairsPut and ColdPut answer: the numbers themselves, or nothing -/
def PutPost (w : World) (v : Bool) (xs : List Int) (e : Ending) (w' : World) : Prop :=
  ∃ A2 m c2, e = .returned (.tuple #[.slice A2 m c2, .bool v]) ∧ Own w' w.heap.size A2 m c2 (if v then xs else []) ∧ Below w.heap.size w w'
/-- what PairsGet and ColdGet answer -/
def GetPost (w : World) (t : TypeId) (s : Nat) (v : Bool) (xs : List Int) (e : Ending) (w' : World) : Prop :=
  ∃ A2 m c2, e = .returned (.tuple #[.slice A2 m c2, .bool v]) ∧ OwnR w' w.heap.size t s A2 m c2 (if v then xs else []) ∧ Below w.heap.size w w'
/-- n numbers are a valid body -/
def okG (s : Nat) (mx : Int) (f : List Int → Nat → Bool) (xs : List Int) (n : Nat) : Bool := decide (n % s = 0) && validR s mx f xs (n / s)



end Go.Proofs.YtfianpjoifcphaaGreat

/- FrameV -/
namespace Go.Proofs.YtfianpjoifcphaaGreat
open Go.RowKit
set_option linter.unusedVariables false
set_option maxRecDepth 100000

def validF (k s : Int) (body : List Int) : Bool := inB k 1 2 && inB s 1 999 && inB body.length 1 18 && allW body
theorem validF_iff {k s : Int} {body : List Int} : validF k s body = true ↔ (1 ≤ k ∧ k ≤ 2) ∧ (1 ≤ s ∧ s ≤ 999) ∧ (1 ≤ (body.length : Int) ∧ (body.length : Int) ≤ 18) ∧ allW body = true := by
  simp [validF, inB, and_assoc]

theorem below_box (w : World) (o : Obj) : Below w.heap.size w (w.alloc o) := (Below.refl _ _).alloc (Nat.le_refl _) o

theorem sum_ge (xs : List Int) : decide (0 ≤ sumFrom 7 xs) = allW xs := by
  rcases h : allW xs with _ | _
  · rw [sumFrom_allW _ _ h]; rfl
  · have := (sumFrom_rng xs 7 (by omega) (by omega) h).1
    simpa using this

set_option maxHeartbeats 1000000 in
theorem implValid (k s : Int) (A : Option Addr) (n c B : Nat) (xs : List Int) (w : World) (hr : Ints w B A n xs) (hB : B ≤ w.heap.size) (hn : n ≤ maxLen) :
    Calls Tryz.prog 197 #[.agg #[.int .i64 k, .int .i64 s, .slice A n c]] w fun e w' => e = .returned (.bool (validF k s xs)) ∧ Below w.heap.size w w' := by
  have hn' : n ≤ 9223372036854775807 := by unfold maxLen at hn; omega
  have HR := hide hr
  have HL := hide hr.1
  have hrest : ∀ (b : Bool), Hid (b = (inB k 1 2 && inB s 1 999 && inB xs.length 1 18 && allW xs)) → Hid (validF k s xs = b) := fun b h => h.out.symm
  clear hr
  by_cases hk : 1 ≤ k ∧ k ≤ 2
  · have hk1 := inB_true hk.1 hk.2
    by_cases hs0 : s < 1
    · have hX : validF k s xs = false := by rw [Bool.eq_false_iff]; intro h; have := validF_iff.1 h; omega
      have HX := hide hX
      clear hX hrest hk1
      have hk3 : k = 1 ∨ k = 2 := by omega
      clear hk
      rcases hk3 with rfl | rfl
      all_goals
        go_enter Tryz.func197, Tryz.ntmps197
        go_wp2
        go_ret
        exact ⟨ret_bool HX.out.symm, below_box _ _⟩
    · by_cases hs1 : 999 < s
      · have hX : validF k s xs = false := by rw [Bool.eq_false_iff]; intro h; have := validF_iff.1 h; omega
        have HX := hide hX
        clear hX hrest hk1
        have hk3 : k = 1 ∨ k = 2 := by omega
        clear hk
        rcases hk3 with rfl | rfl
        all_goals
          go_enter Tryz.func197, Tryz.ntmps197
          go_wp2
          go_ret
          exact ⟨ret_bool HX.out.symm, below_box _ _⟩
      · by_cases hn0 : n < 1
        · have hX : validF k s xs = false := by rw [Bool.eq_false_iff]; intro h; have := validF_iff.1 h; have := HL.out; omega
          have HX := hide hX
          clear hX hrest hk1
          have hk3 : k = 1 ∨ k = 2 := by omega
          clear hk
          rcases hk3 with rfl | rfl
          all_goals
            go_enter Tryz.func197, Tryz.ntmps197
            go_wp2
            go_ret
            exact ⟨ret_bool HX.out.symm, below_box _ _⟩
        · by_cases hn1 : 18 < n
          · have hX : validF k s xs = false := by rw [Bool.eq_false_iff]; intro h; have := validF_iff.1 h; have := HL.out; omega
            have HX := hide hX
            clear hX hrest hk1
            have hk3 : k = 1 ∨ k = 2 := by omega
            clear hk
            rcases hk3 with rfl | rfl
            all_goals
              go_enter Tryz.func197, Tryz.ntmps197
              go_wp2
              go_ret
              exact ⟨ret_bool HX.out.symm, below_box _ _⟩
          · have hX : validF k s xs = decide (0 ≤ sumFrom 7 xs) := by
              rw [sum_ge]; unfold validF; rw [hk1, inB_true (by omega) (by omega), inB_true (by have := HL.out; omega) (by have := HL.out; omega)]; rfl
            have HX := hide hX
            clear hX hrest hk1
            have hk3 : k = 1 ∨ k = 2 := by omega
            clear hk
            have hI := fun o : Obj => (HR.out.alloc hB o)
            have HI := hide hI
            have HC : Hid (∀ W : World, Ints W B A n xs → Calls Tryz.prog 158 #[.slice A n c] W fun e w' => e = .returned (.int .i64 (sumFrom 7 xs)) ∧ W = w') := fun W h => implSum A n c B xs W h hn
            generalize sumFrom 7 xs = t at HX HC
            clear hI
            rcases hk3 with rfl | rfl
            all_goals
              go_enter Tryz.func197, Tryz.ntmps197
              go_wp2_with (go_at_call 158; refine (HC.out _ (HI.out _)).mono ?_; rintro e w' ⟨rfl, rfl⟩)
              go_ret
              exact ⟨ret_bool HX.out.symm, below_box _ _⟩
  · have hX : validF k s xs = false := by rw [Bool.eq_false_iff]; intro h; have := validF_iff.1 h; omega
    have HX := hide hX
    have h1 : (k != 1) = true := by simp; omega
    have h2 : (k != 2) = true := by simp; omega
    clear hX hrest hk
    go_enter Tryz.func197, Tryz.ntmps197
    go_wp2
    go_ret
    exact ⟨ret_bool HX.out.symm, below_box _ _⟩

set_option maxHeartbeats 1000000 in
theorem specValid (k s : Int) (A : Option Addr) (n c B : Nat) (xs : List Int) (w : World) (hr : Ints w B A n xs) (hB : B ≤ w.heap.size) (hn : n ≤ maxLen) :
    Calls Tryz.prog 154 #[.agg #[.int .i64 k, .int .i64 s, .slice A n c]] w fun e w' => e = .returned (.bool (validF k s xs)) ∧ Below w.heap.size w w' := by
  have hn' : n ≤ 9223372036854775807 := by unfold maxLen at hn; omega
  have HI := hide fun o : Obj => (hr.alloc hB o)
  have hX : validF k s xs = (inB k 1 2 && inB s 1 999 && inB n 1 18 && allW xs) := by rw [← hr.1]; rfl
  have HX := hide hX
  have HC : Hid (∀ W : World, Ints W B A n xs → Calls Tryz.prog 97 #[.slice A n c] W fun e w' => e = .returned (.bool (allW xs)) ∧ W = w') := fun W h => words_any A n c B xs W h hn
  generalize allW xs = t at HX HC
  clear hX hr
  rcases hk : inB k 1 2 with _ | _
  · have H1 := hide hk
    clear hk
    go_enter Tryz.func154, Tryz.ntmps154
    go_wp2_with (go_at_call 60; refine (in_no _ _ _ _ H1.out).mono ?_; rintro e w' ⟨rfl, rfl⟩)
    go_ret
    exact ⟨ret_bool (by rw [HX.out, H1.out]; rfl), below_box _ _⟩
  · have H1 := hide hk
    clear hk
    rcases hs : inB s 1 999 with _ | _
    · have H2 := hide hs
      clear hs
      go_enter Tryz.func154, Tryz.ntmps154
      go_wp2_with fail
      refine (in_yes _ _ _ _ H1.out).mono ?_; rintro e w' ⟨rfl, rfl⟩
      go_wp2_with fail
      refine (in_no _ _ _ _ H2.out).mono ?_; rintro e w' ⟨rfl, rfl⟩
      go_wp2_with fail
      go_ret
      exact ⟨ret_bool (by rw [HX.out, H1.out, H2.out]; rfl), below_box _ _⟩
    · have H2 := hide hs
      clear hs
      rcases hm : inB n 1 18 with _ | _
      · have H3 := hide hm
        clear hm
        go_enter Tryz.func154, Tryz.ntmps154
        go_wp2_with fail
        refine (in_yes _ _ _ _ H1.out).mono ?_; rintro e w' ⟨rfl, rfl⟩
        go_wp2_with fail
        refine (in_yes _ _ _ _ H2.out).mono ?_; rintro e w' ⟨rfl, rfl⟩
        go_wp2_with fail
        refine (in_no _ _ _ _ H3.out).mono ?_; rintro e w' ⟨rfl, rfl⟩
        go_wp2_with fail
        go_ret
        exact ⟨ret_bool (by rw [HX.out, H1.out, H2.out, H3.out]; rfl), below_box _ _⟩
      · have H3 := hide hm
        clear hm
        go_enter Tryz.func154, Tryz.ntmps154
        go_wp2_with fail
        refine (in_yes _ _ _ _ H1.out).mono ?_; rintro e w' ⟨rfl, rfl⟩
        go_wp2_with fail
        refine (in_yes _ _ _ _ H2.out).mono ?_; rintro e w' ⟨rfl, rfl⟩
        go_wp2_with fail
        refine (in_yes _ _ _ _ H3.out).mono ?_; rintro e w' ⟨rfl, rfl⟩
        go_wp2_with fail
        refine (HC.out _ (HI.out _)).mono ?_; rintro e w' ⟨rfl, rfl⟩
        go_wp2_with fail
        go_ret
        exact ⟨ret_bool (by rw [HX.out, H1.out, H2.out, H3.out]; rfl), below_box _ _⟩
end Go.Proofs.YtfianpjoifcphaaGreat

/- MapM -/
namespace Go.Proofs.YtfianpjoifcphaaGreat
open Go.RowKit
set_option linter.unusedVariables false
set_option maxRecDepth 100000

/-- an element: tier, zone, word, object, place -/
abbrev Wh := Int × Int × Int × Int × Int
def wh0 : Wh := (0, 0, 0, 0, 0)
def whV (x : Wh) : Bool :=
  if x.1 = 0 then decide (x = wh0) else if x.1 = 1 then (inB x.2.1 0 3 && (inB x.2.2.1 0 63 && (decide (x.2.2.2.1 = 0) && decide (x.2.2.2.2 = 0)))) else if x.1 = 2 then (inB x.2.1 0 3 && (inB x.2.2.1 0 63 && (inB x.2.2.2.1 1 999 && inB x.2.2.2.2 0 5))) else false
def mpV (ms : List Wh) : Bool := ms.all whV && decide (ms.length = 12)
theorem mpV_iff {ms : List Wh} : mpV ms = true ↔ (∀ x ∈ ms, whV x = true) ∧ ms.length = 12 := by
  unfold mpV
  rw [Bool.and_eq_true, List.all_eq_true, decide_eq_true_eq]

/-! ### as numbers in memory -/
def fl5 : List Wh → List Int
  | [] => []
  | e :: r => e.1 :: e.2.1 :: e.2.2.1 :: e.2.2.2.1 :: e.2.2.2.2 :: fl5 r
def unfl5 : List Int → List Wh
  | a :: b :: c :: d :: e :: r => (a, b, c, d, e) :: unfl5 r
  | _ => []
theorem fl5_length (es : List Wh) : (fl5 es).length = es.length * 5 := by
  induction es with
  | nil => rfl
  | cons e r ih => simp only [fl5, List.length_cons, ih]; omega
theorem fl5_append (es fs : List Wh) : fl5 (es ++ fs) = fl5 es ++ fl5 fs := by
  induction es with
  | nil => rfl
  | cons e r ih => simp only [fl5, List.cons_append, ih]
theorem fl5_getD {es : List Wh} {k : Nat} {e : Wh} (h : es[k]? = some e) : (fl5 es).getD (k * 5) 0 = e.1 ∧ (fl5 es).getD (k * 5 + 1) 0 = e.2.1 ∧ (fl5 es).getD (k * 5 + 2) 0 = e.2.2.1 ∧ (fl5 es).getD (k * 5 + 3) 0 = e.2.2.2.1 ∧ (fl5 es).getD (k * 5 + 4) 0 = e.2.2.2.2 := by
  induction es generalizing k with
  | nil => simp at h
  | cons f r ih =>
    rcases k with _ | k
    · simp at h
      subst h
      exact ⟨rfl, rfl, rfl, rfl, rfl⟩
    · simp at h
      have := ih h
      rw [show (k + 1) * 5 = k * 5 + 1 + 1 + 1 + 1 + 1 by omega]
      simpa [fl5] using this
theorem fl5_set {es : List Wh} {k : Nat} (h : k < es.length) (a b c d e : Int) : (((((fl5 es).set (k * 5) a).set (k * 5 + 1) b).set (k * 5 + 2) c).set (k * 5 + 3) d).set (k * 5 + 4) e = fl5 (es.set k (a, b, c, d, e)) := by
  induction es generalizing k with
  | nil => simp at h
  | cons f r ih =>
    rcases k with _ | k
    · rfl
    · simp at h
      have := ih h
      rw [show (k + 1) * 5 = k * 5 + 1 + 1 + 1 + 1 + 1 by omega]
      simpa [fl5] using this
theorem fl5_set0 {es : List Wh} {k : Nat} {x : Wh} (h : es[k]? = some x) (a : Int) : (fl5 es).set (k * 5) a = fl5 (es.set k (a, x.2)) := by
  induction es generalizing k with
  | nil => simp at h
  | cons f r ih =>
    rcases k with _ | k
    · simp at h
      subst h
      rfl
    · simp at h
      have := ih h
      rw [show (k + 1) * 5 = k * 5 + 1 + 1 + 1 + 1 + 1 by omega]
      simpa [fl5] using this
theorem fl5_set1 {es : List Wh} {k : Nat} {x : Wh} (h : es[k]? = some x) (a : Int) : (fl5 es).set (k * 5 + 1) a = fl5 (es.set k (x.1, a, x.2.2)) := by
  induction es generalizing k with
  | nil => simp at h
  | cons f r ih =>
    rcases k with _ | k
    · simp at h
      subst h
      rfl
    · simp at h
      have := ih h
      rw [show (k + 1) * 5 = k * 5 + 1 + 1 + 1 + 1 + 1 by omega]
      simpa [fl5] using this
theorem fl5_set3 {es : List Wh} {k : Nat} {x : Wh} (h : es[k]? = some x) (a : Int) : (fl5 es).set (k * 5 + 3) a = fl5 (es.set k (x.1, x.2.1, x.2.2.1, a, x.2.2.2.2)) := by
  induction es generalizing k with
  | nil => simp at h
  | cons f r ih =>
    rcases k with _ | k
    · simp at h
      subst h
      rfl
    · simp at h
      have := ih h
      rw [show (k + 1) * 5 = k * 5 + 1 + 1 + 1 + 1 + 1 by omega]
      simpa [fl5] using this
theorem fl5_take (es : List Wh) (k : Nat) : fl5 (es.take k) = (fl5 es).take (k * 5) := by
  induction es generalizing k with
  | nil => simp [fl5]
  | cons e r ih =>
    rcases k with _ | k
    · simp [fl5]
    · rw [show (k + 1) * 5 = k * 5 + 1 + 1 + 1 + 1 + 1 by omega]
      simp [fl5, ih]
theorem fl5_unfl (n : Nat) (xs : List Int) (h : xs.length = n * 5) : fl5 (unfl5 xs) = xs ∧ (unfl5 xs).length = n := by
  induction n generalizing xs with
  | zero =>
    obtain rfl := List.eq_nil_of_length_eq_zero (by omega : xs.length = 0)
    exact ⟨rfl, rfl⟩
  | succ n ih =>
    match xs, h with
    | a :: b :: c :: d :: e :: r, h =>
      have := ih r (by simp at h; omega)
      exact ⟨by simp [unfl5, fl5, this.1], by simp [unfl5, this.2]⟩
    | [], h => simp at h
    | [_], h => simp at h; omega
    | [_, _], h => simp at h; omega
    | [_, _, _], h => simp at h; omega
    | [_, _, _, _], h => simp at h; omega
theorem fl5_inj {es fs : List Wh} (h : fl5 es = fl5 fs) : es = fs := by
  induction es generalizing fs with
  | nil =>
    rcases fs with _ | ⟨f, r⟩
    · rfl
    · simp [fl5] at h
  | cons e r ih =>
    rcases fs with _ | ⟨f, s⟩
    · simp [fl5] at h
    · simp only [fl5, List.cons.injEq] at h
      obtain ⟨h1, h2, h3, h4, h5, h6⟩ := h
      rw [ih h6, show e = f from Prod.ext h1 (Prod.ext h2 (Prod.ext h3 (Prod.ext h4 h5)))]

/-! ### elements that are put, one after the other -/
def puts (f : Nat → Nat) (g : Nat → Wh) : Nat → List Wh → List Wh
  | 0, ms => ms
  | k + 1, ms => (puts f g k ms).set (f k) (g k)
theorem puts_succ (f : Nat → Nat) (g : Nat → Wh) (k : Nat) (ms : List Wh) : puts f g (k + 1) ms = (puts f g k ms).set (f k) (g k) := rfl
theorem puts_length (f : Nat → Nat) (g : Nat → Wh) : ∀ (k : Nat) (ms : List Wh), (puts f g k ms).length = ms.length
  | 0, _ => rfl
  | k + 1, ms => by rw [puts_succ, List.length_set, puts_length f g k ms]
theorem puts_not {f : Nat → Nat} {g : Nat → Wh} {b : Nat} : ∀ {k : Nat} {ms : List Wh}, (∀ j, j < k → f j ≠ b) → (puts f g k ms)[b]? = ms[b]?
  | 0, _, _ => rfl
  | k + 1, ms, h => by
    rw [puts_succ, List.getElem?_set_ne (h k (Nat.lt_succ_self k)), puts_not fun j hj => h j (Nat.lt_succ_of_lt hj)]
theorem puts_at {f : Nat → Nat} {g : Nat → Wh} {j : Nat} : ∀ {k : Nat} {ms : List Wh}, j < k → (∀ i j, i < j → j < k → f i ≠ f j) → f j < ms.length → (puts f g k ms)[f j]? = some (g j)
  | 0, _, h, _, _ => by omega
  | k + 1, ms, h, hi, hl => by
    rw [puts_succ]
    by_cases e : j = k
    · subst e
      rw [List.getElem?_set_self (by rw [puts_length]; exact hl)]
    · rw [List.getElem?_set_ne (fun e2 => hi j k (by omega) (Nat.lt_succ_self k) e2.symm)]
      exact puts_at (by omega) (fun i j hij hj => hi i j hij (by omega)) hl
theorem puts_valid {f : Nat → Nat} {g : Nat → Wh} : ∀ {k : Nat} {ms : List Wh}, (∀ j, j < k → whV (g j) = true) → (∀ x ∈ ms, whV x = true) → ∀ x ∈ puts f g k ms, whV x = true
  | 0, _, _, h, x, hx => h x hx
  | k + 1, ms, hg, h, x, hx => by
    rcases List.mem_or_eq_of_mem_set (show x ∈ (puts f g k ms).set (f k) (g k) from hx) with hx | rfl
    · exact puts_valid (fun j hj => hg j (Nat.lt_succ_of_lt hj)) h x hx
    · exact hg k (Nat.lt_succ_self k)
theorem puts_twice {f : Nat → Nat} {g : Nat → Wh} {k : Nat} {ms : List Wh} (hi : ∀ i j, i < j → j < k → f i ≠ f j) (hl : ∀ j, j < k → f j < ms.length) : puts f g k (puts f g k ms) = puts f g k ms := by
  apply List.ext_getElem?
  intro b
  by_cases h : ∃ j, j < k ∧ f j = b
  · obtain ⟨j, hj, rfl⟩ := h
    rw [puts_at hj hi (by rw [puts_length]; exact hl j hj), puts_at hj hi (hl j hj)]
  · rw [puts_not fun j hj e => h ⟨j, hj, e⟩]

/-! ### a frame that is applied -/
/-- block of record k -/
def blkAt (s : Nat) (xs : List Int) (k : Nat) : Nat := (xs.getD (k * s) 0).toNat
def hotE (z a : Int) (xs : List Int) (k : Nat) : Wh := if 0 < xs.getD (k * 2 + 1) 0 then (1, z, a + 4 + 2 * k, 0, 0) else wh0
def coldE (z a : Int) (xs : List Int) (k : Nat) : Wh := (2, z, a + 3 + 3 * k, xs.getD (k * 3 + 1) 0, xs.getD (k * 3 + 2) 0)
def apK (kd z a : Int) (xs : List Int) (k : Nat) (ms : List Wh) : List Wh := if kd = 1 then puts (blkAt 2 xs) (hotE z a xs) k ms else puts (blkAt 3 xs) (coldE z a xs) k ms
def recN (kd : Int) (xs : List Int) : Nat := if kd = 1 then xs.length / 2 else xs.length / 3
def bodyOk (kd : Int) (xs : List Int) : Bool := if kd = 1 then okG 2 9 fldP xs xs.length else okG 3 6 fldC xs xs.length
def apOk (ms : List Wh) (kd sq : Int) (xs : List Int) (z a : Int) : Bool := mpV ms && (validF kd sq xs && (inB z 0 3 && (inB a 0 (60 - xs.length) && bodyOk kd xs)))
def apM (ms : List Wh) (kd sq : Int) (xs : List Int) (z a : Int) : List Wh := if apOk ms kd sq xs z a then apK kd z a xs (recN kd xs) ms else []

structure ApI (ms : List Wh) (kd sq : Int) (xs : List Int) (z a : Int) : Prop where
  mp : mpV ms = true
  fr : validF kd sq xs = true
  z0 : 0 ≤ z ∧ z ≤ 3
  a0 : 0 ≤ a ∧ a ≤ 60 - xs.length
  bo : bodyOk kd xs = true
theorem apOk_iff {ms : List Wh} {kd sq : Int} {xs : List Int} {z a : Int} : apOk ms kd sq xs z a = true ↔ ApI ms kd sq xs z a := by
  unfold apOk
  simp only [Bool.and_eq_true, inB_iff]
  exact ⟨fun ⟨h1, h2, h3, h4, h5⟩ => ⟨h1, h2, h3, h4, h5⟩, fun h => ⟨h.mp, h.fr, h.z0, h.a0, h.bo⟩⟩

theorem step_in {s : Nat} {xs : List Int} {n : Nat} (h : ∀ j, j < n → stepR s xs j = true) : ∀ j, j < n → 0 ≤ xs.getD (j * s) 0 ∧ xs.getD (j * s) 0 ≤ 11 := by
  intro j
  induction j with
  | zero =>
    intro hj
    have := h 0 hj
    unfold stepR at this
    rw [Bool.and_eq_true, decide_eq_true_eq, decide_eq_true_eq] at this
    have h1 : prevR s xs 0 = -1 := rfl
    omega
  | succ j ih =>
    intro hj
    have h1 := ih (by omega)
    have := h (j + 1) hj
    unfold stepR at this
    rw [Bool.and_eq_true, decide_eq_true_eq, decide_eq_true_eq] at this
    have h2 : prevR s xs (j + 1) = xs.getD (j * s) 0 := rfl
    omega
theorem step_lt {s : Nat} {xs : List Int} {n : Nat} (h : ∀ j, j < n → stepR s xs j = true) : ∀ j i, i < j → j < n → xs.getD (i * s) 0 < xs.getD (j * s) 0 := by
  intro j
  induction j with
  | zero => intro i hi _; omega
  | succ j ih =>
    intro i hi hj
    have := h (j + 1) hj
    unfold stepR at this
    rw [Bool.and_eq_true, decide_eq_true_eq, decide_eq_true_eq] at this
    have h2 : prevR s xs (j + 1) = xs.getD (j * s) 0 := rfl
    by_cases e : i = j
    · subst e; omega
    · have := ih i (by omega) (by omega)
      omega
/-- what is known of the records of a valid body -/
structure RecsI (s : Nat) (mx : Int) (f : List Int → Nat → Bool) (xs : List Int) (n : Nat) : Prop where
  len : xs.length = n * s
  one : 1 ≤ n
  most : (n : Int) ≤ mx
  fld : ∀ j, j < n → f xs j = true
  blk : ∀ j, j < n → 0 ≤ xs.getD (j * s) 0 ∧ xs.getD (j * s) 0 ≤ 11
  inj : ∀ i j, i < j → j < n → blkAt s xs i ≠ blkAt s xs j
  low : ∀ j, j < n → blkAt s xs j < 12
theorem recs_of {s : Nat} {mx : Int} {f : List Int → Nat → Bool} {xs : List Int} (h : okG s mx f xs xs.length = true) : RecsI s mx f xs (xs.length / s) := by
  unfold okG at h
  rw [Bool.and_eq_true, decide_eq_true_eq, validR_iff] at h
  obtain ⟨h1, h2, h3, h4⟩ := h
  have hb := step_in h4
  refine ⟨?_, by omega, h2.2, h3, hb, fun i j hij hj => ?_, fun j hj => ?_⟩
  · have := Nat.div_add_mod xs.length s
    rw [h1, Nat.add_zero, Nat.mul_comm] at this
    exact this.symm
  · have h5 := step_lt h4 j i hij hj
    have h6 := hb i (by omega)
    have h7 := hb j hj
    unfold blkAt
    omega
  · have h7 := hb j hj
    unfold blkAt
    omega

theorem hotE_ok {z a : Int} {xs : List Int} {n : Nat} (hz : 0 ≤ z ∧ z ≤ 3) (ha : 0 ≤ a ∧ a ≤ 60 - xs.length) (hr : RecsI 2 9 fldP xs n) : ∀ j, j < n → whV (hotE z a xs j) = true := by
  intro j hj
  have hl := hr.len
  unfold hotE
  split
  · show (inB z 0 3 && (inB (a + 4 + 2 * j) 0 63 && (decide ((0 : Int) = 0) && decide ((0 : Int) = 0)))) = true
    rw [inB_iff.2 ⟨hz.1, hz.2⟩, inB_iff.2 ⟨by omega, by omega⟩]
    rfl
  · rfl
theorem fldC_iff {xs : List Int} {j : Nat} (h : fldC xs j = true) : (1 ≤ xs.getD (j * 3 + 1) 0 ∧ xs.getD (j * 3 + 1) 0 ≤ 999) ∧ 0 ≤ xs.getD (j * 3 + 2) 0 ∧ xs.getD (j * 3 + 2) 0 ≤ 5 := by
  unfold fldC at h
  simp only [Bool.and_eq_true, decide_eq_true_eq] at h
  exact h
theorem fldP_iff {xs : List Int} {j : Nat} (h : fldP xs j = true) : 0 ≤ xs.getD (j * 2 + 1) 0 ∧ xs.getD (j * 2 + 1) 0 ≤ 99 := by
  unfold fldP at h
  simp only [Bool.and_eq_true, decide_eq_true_eq] at h
  exact h
theorem coldE_ok {z a : Int} {xs : List Int} {n : Nat} (hz : 0 ≤ z ∧ z ≤ 3) (ha : 0 ≤ a ∧ a ≤ 60 - xs.length) (hr : RecsI 3 6 fldC xs n) : ∀ j, j < n → whV (coldE z a xs j) = true := by
  intro j hj
  have hl := hr.len
  obtain ⟨h1, h2⟩ := fldC_iff (hr.fld j hj)
  show (inB z 0 3 && (inB (a + 3 + 3 * j) 0 63 && (inB (xs.getD (j * 3 + 1) 0) 1 999 && inB (xs.getD (j * 3 + 2) 0) 0 5))) = true
  rw [inB_iff.2 ⟨hz.1, hz.2⟩, inB_iff.2 ⟨by omega, by omega⟩, inB_iff.2 h1, inB_iff.2 h2]
  rfl

/-- the blocks and the elements of a frame -/
def apF (kd : Int) (xs : List Int) : Nat → Nat := if kd = 1 then blkAt 2 xs else blkAt 3 xs
def apG (kd z a : Int) (xs : List Int) : Nat → Wh := if kd = 1 then hotE z a xs else coldE z a xs
theorem apK_eq (kd z a : Int) (xs : List Int) (k : Nat) (ms : List Wh) : apK kd z a xs k ms = puts (apF kd xs) (apG kd z a xs) k ms := by
  unfold apK apF apG
  split <;> rfl
structure ApR (kd z a : Int) (xs : List Int) : Prop where
  inj : ∀ i j, i < j → j < recN kd xs → apF kd xs i ≠ apF kd xs j
  low : ∀ j, j < recN kd xs → apF kd xs j < 12
  val : ∀ j, j < recN kd xs → whV (apG kd z a xs j) = true
  one : 1 ≤ recN kd xs
theorem ApI.recs {ms : List Wh} {kd sq : Int} {xs : List Int} {z a : Int} (h : ApI ms kd sq xs z a) : ApR kd z a xs := by
  have hb := h.bo
  unfold bodyOk at hb
  by_cases hk : kd = 1
  · rw [if_pos hk] at hb
    have hr := recs_of hb
    have e1 : apF kd xs = blkAt 2 xs := by unfold apF; rw [if_pos hk]
    have e2 : apG kd z a xs = hotE z a xs := by unfold apG; rw [if_pos hk]
    have e3 : recN kd xs = xs.length / 2 := by unfold recN; rw [if_pos hk]
    exact ⟨by rw [e1, e3]; exact hr.inj, by rw [e1, e3]; exact hr.low, by rw [e2, e3]; exact hotE_ok h.z0 h.a0 hr, by rw [e3]; exact hr.one⟩
  · rw [if_neg hk] at hb
    have hr := recs_of hb
    have e1 : apF kd xs = blkAt 3 xs := by unfold apF; rw [if_neg hk]
    have e2 : apG kd z a xs = coldE z a xs := by unfold apG; rw [if_neg hk]
    have e3 : recN kd xs = xs.length / 3 := by unfold recN; rw [if_neg hk]
    exact ⟨by rw [e1, e3]; exact hr.inj, by rw [e1, e3]; exact hr.low, by rw [e2, e3]; exact coldE_ok h.z0 h.a0 hr, by rw [e3]; exact hr.one⟩
theorem apM_eq {ms : List Wh} {kd sq : Int} {xs : List Int} {z a : Int} (h : apOk ms kd sq xs z a = true) : apM ms kd sq xs z a = puts (apF kd xs) (apG kd z a xs) (recN kd xs) ms := by
  unfold apM
  rw [if_pos h, apK_eq]
theorem apM_valid {ms : List Wh} {kd sq : Int} {xs : List Int} {z a : Int} (h : apOk ms kd sq xs z a = true) : mpV (apM ms kd sq xs z a) = true := by
  have hi := apOk_iff.1 h
  have hr := hi.recs
  have hm := mpV_iff.1 hi.mp
  rw [apM_eq h]
  exact mpV_iff.2 ⟨puts_valid hr.val hm.1, by rw [puts_length]; exact hm.2⟩
theorem apM_twice {ms : List Wh} {kd sq : Int} {xs : List Int} {z a : Int} (h : apOk ms kd sq xs z a = true) : apOk (apM ms kd sq xs z a) kd sq xs z a = true ∧ apM (apM ms kd sq xs z a) kd sq xs z a = apM ms kd sq xs z a := by
  have hi := apOk_iff.1 h
  have hr := hi.recs
  have hm := mpV_iff.1 hi.mp
  have h2 : apOk (apM ms kd sq xs z a) kd sq xs z a = true := apOk_iff.2 ⟨apM_valid h, hi.fr, hi.z0, hi.a0, hi.bo⟩
  refine ⟨h2, ?_⟩
  rw [apM_eq h2, apM_eq h]
  exact puts_twice hr.inj fun j hj => by rw [hm.2]; exact hr.low j hj
theorem apM_at {ms : List Wh} {kd sq : Int} {xs : List Int} {z a : Int} (h : apOk ms kd sq xs z a = true) {j : Nat} (hj : j < recN kd xs) : (apM ms kd sq xs z a)[apF kd xs j]? = some (apG kd z a xs j) := by
  have hi := apOk_iff.1 h
  have hr := hi.recs
  rw [apM_eq h]
  exact puts_at hj hr.inj (by rw [(mpV_iff.1 hi.mp).2]; exact hr.low j hj)
theorem apM_not {ms : List Wh} {kd sq : Int} {xs : List Int} {z a : Int} (h : apOk ms kd sq xs z a = true) {b : Nat} (hb : ∀ j, j < recN kd xs → apF kd xs j ≠ b) : (apM ms kd sq xs z a)[b]? = ms[b]? := by
  rw [apM_eq h]
  exact puts_not hb
theorem apM_len {ms : List Wh} {kd sq : Int} {xs : List Int} {z a : Int} (h : apOk ms kd sq xs z a = true) : (apM ms kd sq xs z a).length = 12 := (mpV_iff.1 (apM_valid h)).2

/-! ### lists of blocks and of objects -/
def inZ (ms : List Wh) (z : Int) (b : Int) : Bool := match ms[b.toNat]? with
  | some x => decide (x.1 ≠ 0) && decide (x.2.1 = z)
  | none => false
def inT (ms : List Wh) (t : Int) (b : Int) : Bool := match ms[b.toNat]? with
  | some x => decide (x.1 = t)
  | none => false
def inM (ms : List Wh) (z : Int) : List Int := if mpV ms then blkP (inZ ms z) 12 else []
def tierM (ms : List Wh) (t : Int) : List Int := if mpV ms then blkP (inT ms t) 12 else []
/-- the numbers from 1 on that p tells -/
def upP (p : Int → Bool) : Nat → List Int
  | 0 => []
  | i + 1 => if p ((i : Int) + 1) then upP p i ++ [(i : Int) + 1] else upP p i
def hasId (ms : List Wh) (d : Int) : Bool := ms.any fun x => decide (x.2.2.2.1 = d)
def idsM (ms : List Wh) : List Int := if mpV ms then upP (hasId ms) 999 else []
theorem upP_succ (p : Int → Bool) (i : Nat) : upP p (i + 1) = if p ((i : Int) + 1) then upP p i ++ [(i : Int) + 1] else upP p i := rfl
theorem blkP_three {p q r : Int → Bool} : ∀ n : Nat, (∀ i : Nat, i < n → (p i = true ∧ q i = false ∧ r i = false) ∨ (p i = false ∧ q i = true ∧ r i = false) ∨ (p i = false ∧ q i = false ∧ r i = true)) → (blkP p n).length + (blkP q n).length + (blkP r n).length = n
  | 0, _ => rfl
  | n + 1, h => by
    have ih := blkP_three n fun i hi => h i (by omega)
    rw [blkP_succ, blkP_succ, blkP_succ]
    rcases h n (by omega) with ⟨h1, h2, h3⟩ | ⟨h1, h2, h3⟩ | ⟨h1, h2, h3⟩ <;> rw [h1, h2, h3] <;> simp <;> omega
theorem whV_tier {x : Wh} (h : whV x = true) : x.1 = 0 ∨ x.1 = 1 ∨ x.1 = 2 := by
  unfold whV at h
  split at h
  · exact .inl ‹_›
  split at h
  · exact .inr (.inl ‹_›)
  split at h
  · exact .inr (.inr ‹_›)
  · cases h
theorem tier_all {ms : List Wh} (h : mpV ms = true) : (tierM ms 0).length + (tierM ms 1).length + (tierM ms 2).length = 12 := by
  obtain ⟨h1, h2⟩ := mpV_iff.1 h
  unfold tierM
  rw [if_pos h, if_pos h, if_pos h]
  refine blkP_three 12 fun i hi => ?_
  obtain ⟨x, hx⟩ : ∃ x, ms[i]? = some x := ⟨_, List.getElem?_eq_getElem (by rw [h2]; exact hi)⟩
  have ht := whV_tier (h1 x (List.mem_of_getElem? hx))
  have e : ∀ t, inT ms t (i : Int) = decide (x.1 = t) := fun t => by
    unfold inT
    rw [Int.toNat_natCast, hx]
  rw [e, e, e]
  rcases ht with h | h | h <;> rw [h] <;> decide
theorem hasB_snoc (xs : List Int) (y n : Int) : hasB (xs ++ [y]) n = (hasB xs n || decide (n = y)) := by
  unfold hasB
  rw [Bool.eq_iff_iff, Bool.or_eq_true, decide_eq_true_eq]
  simp
theorem upP_mem (p : Int → Bool) : ∀ (n : Nat) (d : Int), hasB (upP p n) d = (decide (1 ≤ d) && decide (d ≤ n) && p d)
  | 0, d => by
    show false = _
    by_cases h : 1 ≤ d
    · rw [decide_eq_false (p := d ≤ ((0 : Nat) : Int)) (by omega)]; simp
    · rw [decide_eq_false (p := 1 ≤ d) h]; rfl
  | n + 1, d => by
    have hs : hasB (upP p (n + 1)) d = (hasB (upP p n) d || (decide (d = (n : Int) + 1) && p ((n : Int) + 1))) := by
      rw [upP_succ]
      rcases hp : p ((n : Int) + 1) with _ | _
      · simp
      · rw [if_pos rfl, hasB_snoc, Bool.and_true]
    rw [hs, upP_mem p n]
    by_cases hd : d = (n : Int) + 1
    · subst hd
      rw [decide_eq_true (by omega : (1 : Int) ≤ (n : Int) + 1), decide_eq_true (by omega : (n : Int) + 1 ≤ ((n + 1 : Nat) : Int)), decide_eq_false (p := (n : Int) + 1 ≤ (n : Int)) (by omega)]
      simp
    · rw [decide_eq_false (p := d = (n : Int) + 1) hd, Bool.false_and, Bool.or_false]
      congr 2
      rw [decide_eq_decide]
      omega
theorem ids_has {ms : List Wh} (h : mpV ms = true) {x : Wh} (hx : x ∈ ms) (ht : x.1 = 2) : hasB (idsM ms) x.2.2.2.1 = true := by
  have hv := (mpV_iff.1 h).1 x hx
  unfold whV at hv
  rw [if_neg (by omega), if_neg (by omega), if_pos ht] at hv
  simp only [Bool.and_eq_true, inB_iff] at hv
  obtain ⟨_, _, h3, _⟩ := hv
  unfold idsM
  rw [if_pos h, upP_mem, decide_eq_true h3.1, decide_eq_true (by have := h3.2; omega)]
  unfold hasId
  rw [Bool.true_and, Bool.true_and, List.any_eq_true]
  exact ⟨x, hx, by simp⟩
/-- an object of a list is that of a cold element -/
theorem ids_some {ms : List Wh} (h : mpV ms = true) {d : Int} (hd : hasB (idsM ms) d = true) : (ms.any fun x => decide (x.1 = 2) && decide (x.2.2.2.1 = d)) = true := by
  unfold idsM at hd
  rw [if_pos h, upP_mem] at hd
  simp only [Bool.and_eq_true, decide_eq_true_eq] at hd
  obtain ⟨⟨h1, h2⟩, h3⟩ := hd
  unfold hasId at h3
  rw [List.any_eq_true] at h3 ⊢
  obtain ⟨x, hx, he⟩ := h3
  refine ⟨x, hx, ?_⟩
  rw [decide_eq_true_eq] at he
  rw [Bool.and_eq_true, decide_eq_true_eq, decide_eq_true_eq]
  refine ⟨?_, he⟩
  have hv := (mpV_iff.1 h).1 x hx
  unfold whV at hv
  by_cases t0 : x.1 = 0
  · rw [if_pos t0, decide_eq_true_eq] at hv
    rw [hv] at he
    have : (0 : Int) = d := he
    omega
  rw [if_neg t0] at hv
  by_cases t1 : x.1 = 1
  · rw [if_pos t1] at hv
    simp only [Bool.and_eq_true, decide_eq_true_eq] at hv
    omega
  rw [if_neg t1] at hv
  by_cases t2 : x.1 = 2
  · exact t2
  · rw [if_neg t2] at hv; cases hv
theorem upP_asc (p : Int → Bool) : ∀ n : Nat, (upP p n).Pairwise (· < ·) ∧ ∀ x ∈ upP p n, x ≤ n
  | 0 => ⟨List.Pairwise.nil, fun x hx => by cases hx⟩
  | n + 1 => by
    obtain ⟨h1, h2⟩ := upP_asc p n
    rw [upP_succ]
    split
    · refine ⟨List.pairwise_append.2 ⟨h1, List.pairwise_singleton _ _, fun x hx y hy => ?_⟩, fun x hx => ?_⟩
      · have := h2 x hx
        rw [List.mem_singleton.1 hy]
        omega
      · rcases List.mem_append.1 hx with hx | hx
        · have := h2 x hx; omega
        · rw [List.mem_singleton.1 hx]; omega
    · exact ⟨h1, fun x hx => by have := h2 x hx; omega⟩
theorem ids_asc (ms : List Wh) : (idsM ms).Pairwise (· < ·) := by
  unfold idsM
  split
  · exact (upP_asc _ _).1
  · exact List.Pairwise.nil

/-! ### a map without a block, and with a wrong one -/
theorem set_valid {ms : List Wh} (h : mpV ms = true) (k : Nat) : mpV (ms.set k wh0) = true := by
  obtain ⟨h1, h2⟩ := mpV_iff.1 h
  refine mpV_iff.2 ⟨fun x hx => ?_, by rw [List.length_set]; exact h2⟩
  rcases List.mem_or_eq_of_mem_set hx with hx | rfl
  · exact h1 x hx
  · rfl
theorem set_wrong {ms : List Wh} {k : Nat} (hk : k < ms.length) (r : Int × Int × Int × Int) : mpV (ms.set k (3, r)) = false := by
  rcases hv : mpV (ms.set k (3, r)) with _ | _
  · rfl
  · have h1 := (mpV_iff.1 hv).1 (3, r) (List.mem_of_getElem? (List.getElem?_set_self hk))
    have : whV (3, r) = false := rfl
    rw [this] at h1
    cases h1
end Go.Proofs.YtfianpjoifcphaaGreat

/- MapI -/
namespace Go.Proofs.YtfianpjoifcphaaGreat
open Go.RowKit
set_option linter.unusedVariables false
set_option maxRecDepth 100000

theorem whT : RT 26 141 5 40 (.agg #[.int .i64 0, .int .i64 0, .int .i64 0, .int .i64 0, .int .i64 0]) := ⟨Tryz.underlying26, by kernel_rfl, by decide, by decide, by decide⟩
/-- the slice reads as the elements ms -/
def MpI (w : World) (B : Nat) (A : Option Addr) (n : Nat) (ms : List Wh) : Prop := ms.length = n ∧ Ints w B A (n * 5) (fl5 ms)
/-- a row of the call's own -/
def MpR (w : World) (base : Nat) (A : Option Addr) (n c : Nat) (ms : List Wh) : Prop := ms.length = n ∧ OwnR w base 141 5 A n c (fl5 ms)
/-- five cells of an element -/
def Cells5 (w : World) (p : Addr) (x : Wh) : Prop := w.cell? p = some (.int .i64 x.1) ∧ w.cell? ⟨p.block, p.off + 1, none⟩ = some (.int .i64 x.2.1) ∧ w.cell? ⟨p.block, p.off + 2, none⟩ = some (.int .i64 x.2.2.1) ∧
  w.cell? ⟨p.block, p.off + 3, none⟩ = some (.int .i64 x.2.2.2.1) ∧ w.cell? ⟨p.block, p.off + 4, none⟩ = some (.int .i64 x.2.2.2.2)
theorem cell_next' {w : World} {ad p : Addr} {m i : Nat} {v : Value} (hi : i ≠ 0) (e : ad.add m = p) (h : w.cell? (ad.add (m + i)) = some v) : w.cell? ⟨p.block, p.off + i, none⟩ = some v := by
  rw [← add_of_add, e] at h
  simpa [Addr.add, hi] using h
section
variable {w w' : World} {base B n c : Nat} {A : Option Addr} {ms : List Wh}
theorem MpI.at_ (h : MpI w B A n ms) {k : Nat} {x : Wh} (hk : ms[k]? = some x) : ∃ ad p, A = some ad ∧ ad.add (k * 5) = p ∧ p.block < B ∧ Cells5 w p x := by
  have hl : k < n := by rw [← h.1]; exact (List.getElem?_eq_some_iff.1 hk).1
  obtain ⟨ad, rfl, hb, hc⟩ := h.2.2 (by omega)
  obtain ⟨e0, e1, e2, e3, e4⟩ := fl5_getD hk
  refine ⟨ad, _, rfl, rfl, by rw [block_of_add]; exact hb, ?_, ?_, ?_, ?_, ?_⟩
  · rw [← e0]; exact hc _ (by omega)
  · rw [← e1]; exact cell_next' (by decide) rfl (hc (k * 5 + 1) (by omega))
  · rw [← e2]; exact cell_next' (by decide) rfl (hc (k * 5 + 2) (by omega))
  · rw [← e3]; exact cell_next' (by decide) rfl (hc (k * 5 + 3) (by omega))
  · rw [← e4]; exact cell_next' (by decide) rfl (hc (k * 5 + 4) (by omega))
theorem MpI.below {B2 : Nat} (h : MpI w B A n ms) (hb : Below B2 w w') (hB : B ≤ B2) : MpI w' B A n ms := ⟨h.1, h.2.below hb hB⟩
theorem MpI.more {B' : Nat} (h : MpI w B A n ms) (hB : B ≤ B') : MpI w B' A n ms := ⟨h.1, h.2.more hB⟩
theorem MpI.drewN (h : MpI w B A n ms) (k : Nat) : MpI (w.drewN k) B A n ms := h
theorem MpI.alloc (h : MpI w B A n ms) (hB : B ≤ w.heap.size) (o : Obj) : MpI (w.alloc o) B A n ms := ⟨h.1, h.2.alloc hB o⟩
theorem MpI.grown {row : Option Nat} (h : MpI w B A n ms) (hg : w.grownBy w' row) (hB : B ≤ w.heap.size) (hr : ∀ g, row = some g → B ≤ g) : MpI w' B A n ms := ⟨h.1, h.2.grown hg hB hr⟩
theorem MpR.mpi (h : MpR w base A n c ms) : MpI w w.heap.size A n ms := ⟨h.1, h.2.ints⟩
theorem MpR.below (h : MpR w base A n c ms) (hg : Below w.heap.size w w') : MpR w' base A n c ms := ⟨h.1, h.2.below hg⟩
theorem MpR.alloc (h : MpR w base A n c ms) (o : Obj) : MpR (w.alloc o) base A n c ms := ⟨h.1, h.2.alloc o⟩
theorem MpR.kept {row : Option Nat} (h : MpR w base A n c ms) (hg : w.grownBy w' row) (hne : ∀ k, row = some k → (Value.slice A n c).ownBlock ≠ some k) : MpR w' base A n c ms := ⟨h.1, h.2.kept hg hne⟩
theorem MpR.mono {b' : Nat} (h : MpR w base A n c ms) (hb : b' ≤ base) : MpR w b' A n c ms := ⟨h.1, h.2.mono hb⟩
theorem MpR.drewN (h : MpR w base A n c ms) (k : Nat) : MpR (w.drewN k) base A n c ms := h
theorem MpR.lit0 (w : World) (base : Nat) (hb : base ≤ w.heap.size) : MpR (w.alloc (.cells #[] 141)) base (some ⟨w.heap.size, 0, none⟩) 0 0 [] := ⟨rfl, OwnR.lit0 w base hb _ _⟩
theorem MpR.nil_ (w : World) (base : Nat) : MpR w base none 0 0 [] := ⟨rfl, OwnR.nil_ w base _ _⟩
theorem MpR.cap (h : MpR w base A n c ms) : n ≤ c ∧ c ≤ maxLen := h.2.cap
theorem MpI.firsts (h : MpI w B A n ms) {m : Nat} (hm : m ≤ n) : MpI w B A m (ms.take m) := by
  refine ⟨by rw [List.length_take, h.1]; omega, ?_⟩
  rw [fl5_take]
  exact h.2.firsts (by omega)
/-- the cells of one's own row -/
theorem MpR.at_ {g k : Nat} {x : Wh} (h : MpR w base (some ⟨g, 0, none⟩) n c ms) (hk : ms[k]? = some x) :
    w.cell? ⟨g, k * 5, none⟩ = some (.int .i64 x.1) ∧ w.cell? ⟨g, k * 5 + 1, none⟩ = some (.int .i64 x.2.1) ∧ w.cell? ⟨g, k * 5 + 2, none⟩ = some (.int .i64 x.2.2.1) ∧
    w.cell? ⟨g, k * 5 + 3, none⟩ = some (.int .i64 x.2.2.2.1) ∧ w.cell? ⟨g, k * 5 + 4, none⟩ = some (.int .i64 x.2.2.2.2) := by
  have hl : k < n := by rw [← h.1]; exact (List.getElem?_eq_some_iff.1 hk).1
  obtain ⟨e0, e1, e2, e3, e4⟩ := fl5_getD hk
  exact ⟨by rw [h.2.cell (j := k * 5) (by omega), e0], by rw [h.2.cell (j := k * 5 + 1) (by omega), e1], by rw [h.2.cell (j := k * 5 + 2) (by omega), e2], by rw [h.2.cell (j := k * 5 + 3) (by omega), e3],
    by rw [h.2.cell (j := k * 5 + 4) (by omega), e4]⟩
/-- five stores: an element is another one -/
def set5 (w : World) (g k : Nat) (x0 x1 x2 x3 x4 : Int) : World :=
  ((((w.setCell ⟨g, k * 5, none⟩ (.int .i64 x0)).setCell ⟨g, k * 5 + 1, none⟩ (.int .i64 x1)).setCell ⟨g, k * 5 + 2, none⟩ (.int .i64 x2)).setCell ⟨g, k * 5 + 3, none⟩ (.int .i64 x3)).setCell ⟨g, k * 5 + 4, none⟩ (.int .i64 x4)
/-- what five stores ask, one after the other -/
def Five (w : World) (g k : Nat) (x0 x1 x2 x3 x4 : Int) : Prop :=
  ∃ y0 y1 y2 y3 y4 : Int, w.cell? ⟨g, k * 5, none⟩ = some (.int .i64 y0) ∧ w.frozen? ⟨g, k * 5, none⟩ = false ∧
    (w.setCell ⟨g, k * 5, none⟩ (.int .i64 x0)).cell? ⟨g, k * 5 + 1, none⟩ = some (.int .i64 y1) ∧ (w.setCell ⟨g, k * 5, none⟩ (.int .i64 x0)).frozen? ⟨g, k * 5 + 1, none⟩ = false ∧
    ((w.setCell ⟨g, k * 5, none⟩ (.int .i64 x0)).setCell ⟨g, k * 5 + 1, none⟩ (.int .i64 x1)).cell? ⟨g, k * 5 + 2, none⟩ = some (.int .i64 y2) ∧
    ((w.setCell ⟨g, k * 5, none⟩ (.int .i64 x0)).setCell ⟨g, k * 5 + 1, none⟩ (.int .i64 x1)).frozen? ⟨g, k * 5 + 2, none⟩ = false ∧
    (((w.setCell ⟨g, k * 5, none⟩ (.int .i64 x0)).setCell ⟨g, k * 5 + 1, none⟩ (.int .i64 x1)).setCell ⟨g, k * 5 + 2, none⟩ (.int .i64 x2)).cell? ⟨g, k * 5 + 3, none⟩ = some (.int .i64 y3) ∧
    (((w.setCell ⟨g, k * 5, none⟩ (.int .i64 x0)).setCell ⟨g, k * 5 + 1, none⟩ (.int .i64 x1)).setCell ⟨g, k * 5 + 2, none⟩ (.int .i64 x2)).frozen? ⟨g, k * 5 + 3, none⟩ = false ∧
    ((((w.setCell ⟨g, k * 5, none⟩ (.int .i64 x0)).setCell ⟨g, k * 5 + 1, none⟩ (.int .i64 x1)).setCell ⟨g, k * 5 + 2, none⟩ (.int .i64 x2)).setCell ⟨g, k * 5 + 3, none⟩ (.int .i64 x3)).cell? ⟨g, k * 5 + 4, none⟩ = some (.int .i64 y4) ∧
    ((((w.setCell ⟨g, k * 5, none⟩ (.int .i64 x0)).setCell ⟨g, k * 5 + 1, none⟩ (.int .i64 x1)).setCell ⟨g, k * 5 + 2, none⟩ (.int .i64 x2)).setCell ⟨g, k * 5 + 3, none⟩ (.int .i64 x3)).frozen? ⟨g, k * 5 + 4, none⟩ = false
theorem MpR.put {g k : Nat} (h : MpR w base (some ⟨g, 0, none⟩) n c ms) (hk : k < n) (x0 x1 x2 x3 x4 : Int) :
    MpR (set5 w g k x0 x1 x2 x3 x4) base (some ⟨g, 0, none⟩) n c (ms.set k (x0, x1, x2, x3, x4)) ∧ w.grownBy (set5 w g k x0 x1 x2 x3 x4) (some g) ∧ Five w g k x0 x1 x2 x3 x4 := by
  have h0 := h.2.stored (j := k * 5) x0
  have h1 := h0.1.stored (j := k * 5 + 1) x1
  have h2 := h1.1.stored (j := k * 5 + 2) x2
  have h3 := h2.1.stored (j := k * 5 + 3) x3
  have h4 := h3.1.stored (j := k * 5 + 4) x4
  refine ⟨⟨by rw [List.length_set]; exact h.1, ?_⟩, grown_trans' (grown_trans' (grown_trans' (grown_trans' h0.2 h1.2) h2.2) h3.2) h4.2, ?_⟩
  · have := h4.1
    rw [fl5_set (by rw [h.1]; exact hk)] at this
    exact this
  · exact ⟨_, _, _, _, _, h.2.cell (by omega), h.2.free, h0.1.cell (by omega), h0.1.free, h1.1.cell (by omega), h1.1.free, h2.1.cell (by omega), h2.1.free, h3.1.cell (by omega), h3.1.free⟩
theorem MpR.five {g k : Nat} (h : MpR w base (some ⟨g, 0, none⟩) n c ms) (hk : k < n) : ∃ y0 y1 y2 y3 y4 : Int,
    (w.cell? ⟨g, k * 5, none⟩ = some (.int .i64 y0) ∧ w.cell? ⟨g, k * 5 + 1, none⟩ = some (.int .i64 y1) ∧ w.cell? ⟨g, k * 5 + 2, none⟩ = some (.int .i64 y2) ∧ w.cell? ⟨g, k * 5 + 3, none⟩ = some (.int .i64 y3) ∧ w.cell? ⟨g, k * 5 + 4, none⟩ = some (.int .i64 y4)) ∧
    (w.frozen? ⟨g, k * 5, none⟩ = false ∧ w.frozen? ⟨g, k * 5 + 1, none⟩ = false ∧ w.frozen? ⟨g, k * 5 + 2, none⟩ = false ∧ w.frozen? ⟨g, k * 5 + 3, none⟩ = false ∧ w.frozen? ⟨g, k * 5 + 4, none⟩ = false) :=
  ⟨_, _, _, _, _, ⟨h.2.cell (by omega), h.2.cell (by omega), h.2.cell (by omega), h.2.cell (by omega), h.2.cell (by omega)⟩, h.2.free, h.2.free, h.2.free, h.2.free, h.2.free⟩
theorem MpR.free {g j : Nat} (h : MpR w base (some ⟨g, 0, none⟩) n c ms) : w.frozen? ⟨g, j, none⟩ = false := h.2.free
/-- one store into an element -/
theorem MpR.put0 {g k : Nat} {y : Wh} (h : MpR w base (some ⟨g, 0, none⟩) n c ms) (hk : ms[k]? = some y) (x : Int) :
    MpR (w.setCell ⟨g, k * 5, none⟩ (.int .i64 x)) base (some ⟨g, 0, none⟩) n c (ms.set k (x, y.2)) ∧ w.grownBy (w.setCell ⟨g, k * 5, none⟩ (.int .i64 x)) (some g) := by
  have h0 := h.2.stored (j := k * 5) x
  rw [fl5_set0 hk] at h0
  exact ⟨⟨by rw [List.length_set]; exact h.1, h0.1⟩, h0.2⟩
theorem MpR.put1 {g k : Nat} {y : Wh} (h : MpR w base (some ⟨g, 0, none⟩) n c ms) (hk : ms[k]? = some y) (x : Int) :
    MpR (w.setCell ⟨g, k * 5 + 1, none⟩ (.int .i64 x)) base (some ⟨g, 0, none⟩) n c (ms.set k (y.1, x, y.2.2)) ∧ w.grownBy (w.setCell ⟨g, k * 5 + 1, none⟩ (.int .i64 x)) (some g) := by
  have h0 := h.2.stored (j := k * 5 + 1) x
  rw [fl5_set1 hk] at h0
  exact ⟨⟨by rw [List.length_set]; exact h.1, h0.1⟩, h0.2⟩
theorem MpR.put3 {g k : Nat} {y : Wh} (h : MpR w base (some ⟨g, 0, none⟩) n c ms) (hk : ms[k]? = some y) (x : Int) :
    MpR (w.setCell ⟨g, k * 5 + 3, none⟩ (.int .i64 x)) base (some ⟨g, 0, none⟩) n c (ms.set k (y.1, y.2.1, y.2.2.1, x, y.2.2.2.2)) ∧ w.grownBy (w.setCell ⟨g, k * 5 + 3, none⟩ (.int .i64 x)) (some g) := by
  have h0 := h.2.stored (j := k * 5 + 3) x
  rw [fl5_set3 hk] at h0
  exact ⟨⟨by rw [List.length_set]; exact h.1, h0.1⟩, h0.2⟩
end
end Go.Proofs.YtfianpjoifcphaaGreat

/- NewM -/
namespace Go.Proofs.YtfianpjoifcphaaGreat
open Go.RowKit
set_option linter.unusedVariables false
set_option maxRecDepth 100000

theorem made_sameM (z : Array Value) (v : Value) (hz : 0 < z.size) (h : ∀ i, i < z.size → z[i]! = v) (n : Nat) : (madeCells z n).toList = List.replicate n v := by
  apply List.ext_getElem
  · simp [madeCells]
  · intro i h1 h2
    simp only [madeCells, Array.toList_map, List.getElem_map, List.getElem_replicate]
    exact h _ (Nat.mod_lt _ hz)
def new12 : List Wh := List.replicate 12 wh0
theorem new12_valid : mpV new12 = true := by decide

set_option maxHeartbeats 1600000 in
theorem l11New_any (w : World) :
    Calls Tryz.prog 98 #[] w fun e w' => e = .returned (.slice (some ⟨w.heap.size, 0, none⟩) 12 12) ∧ MpR w' w.heap.size (some ⟨w.heap.size, 0, none⟩) 12 12 new12 ∧ Below w.heap.size w w' := by
  obtain ⟨i0, hi, hz0, hz1, hz2⟩ := info_parts whT.info
  go_enter Tryz.func98, Tryz.ntmps98
  go_wp2_with (at_make; refine wpList_make_full _ rfl _ _ 26 rfl w.heap.size 141 i0 (Value.agg #[.int .i64 0, .int .i64 0, .int .i64 0, .int .i64 0, .int .i64 0]) 5 Tryz.underlying26 hi hz0 hz1 .i64 .i64 _ _ 12 rfl rfl rfl rfl (by rw [hz2]; omega) (by unfold maxLen; omega) (Nat.le_refl _) ?_; intro w1 hown hgrow)
  have ho : OwnR w1 w.heap.size 141 5 (some ⟨w.heap.size, 0, none⟩) 12 12 (fl5 new12) := by
    refine ⟨by simp [fl5_length, new12], ?_⟩
    have e : (madeCells (Value.agg #[.int .i64 0, .int .i64 0, .int .i64 0, .int .i64 0, .int .i64 0]).cells (12 * 5)).toList = (fl5 new12).map (Value.int .i64) := by
      rw [made_sameM _ (.int .i64 0) (by decide) (fun i hi => by have h2 : i < 5 := hi; rcases i with _ | _ | _ | _ | _ | i <;> first | rfl | omega) _]
      rfl
    rw [← e]
    exact hown
  have hB1 : Below w.heap.size w w1 := below_of_grown hgrow
  clear hown hgrow hi hz0 hz1 hz2
  go_ret
  exact ⟨rfl, ⟨rfl, ho⟩, hB1⟩

end Go.Proofs.YtfianpjoifcphaaGreat

/- Vol0 -/
namespace Go.Proofs.YtfianpjoifcphaaGreat
open Go.RowKit
set_option linter.unusedVariables false
set_option maxRecDepth 100000

structure Vol where
  dev : Dev
  sto : Sto
  map : List Wh
  heat : List Int
  seq : Int
  zone : Int
def newV : Vol := { dev := List.replicate 4 ([], 0, false), sto := [], map := new12, heat := List.replicate 12 0, seq := 1, zone := 0 }
end Go.Proofs.YtfianpjoifcphaaGreat

/- VolI -/
namespace Go.Proofs.YtfianpjoifcphaaGreat
open Go.RowKit
set_option linter.unusedVariables false
set_option maxRecDepth 100000

/-- a volume's parts, and where they lie -/
structure Vq where
  dev : List Zq
  dA : Option Addr
  dn : Nat
  dc : Nat
  sto : List Oq
  sA : Option Addr
  sn : Nat
  sc : Nat
  map : List Wh
  mA : Option Addr
  mn : Nat
  mc : Nat
  heat : List Int
  hA : Option Addr
  hn : Nat
  hc : Nat
  seq : Int
  zone : Int
def Vq.vol (q : Vq) : Vol := ⟨zns q.dev, obs q.sto, q.map, q.heat, q.seq, q.zone⟩
def Vq.val (q : Vq) : Value := .agg #[.slice q.dA q.dn q.dc, .slice q.sA q.sn q.sc, .slice q.mA q.mn q.mc, .slice q.hA q.hn q.hc, .int .i64 q.seq, .int .i64 q.zone]
/-- the volume that a failing function returns -/
def vq0 : Vq := ⟨[], none, 0, 0, [], none, 0, 0, [], none, 0, 0, [], none, 0, 0, 0, 0⟩
def vol0 : Vol := ⟨[], [], [], [], 0, 0⟩
theorem vq0_vol : vq0.vol = vol0 := rfl
theorem vq0_val : vq0.val = .agg #[.slice none 0 0, .slice none 0 0, .slice none 0 0, .slice none 0 0, .int .i64 0, .int .i64 0] := rfl

/-- the parts read -/
structure VolI (w : World) (B : Nat) (q : Vq) : Prop where
  dev : Zns w B q.dA q.dn q.dev
  sto : Objs w B q.sA q.sn q.sto
  map : MpI w B q.mA q.mn q.map
  heat : Ints w B q.hA q.hn q.heat
  dc : q.dn ≤ q.dc ∧ q.dc ≤ maxLen
  sc : q.sn ≤ q.sc ∧ q.sc ≤ maxLen
  mc : q.mn ≤ q.mc ∧ q.mc ≤ maxLen
  hc : q.hn ≤ q.hc ∧ q.hc ≤ maxLen
section
variable {w w' : World} {B B' : Nat} {q : Vq}
theorem VolI.below {B2 : Nat} (h : VolI w B q) (hb : Below B2 w w') (hB : B ≤ B2) : VolI w' B q := ⟨h.dev.below hb hB, h.sto.below hb hB, h.map.below hb hB, h.heat.below hb hB, h.dc, h.sc, h.mc, h.hc⟩
theorem VolI.more (h : VolI w B q) (hB : B ≤ B') : VolI w B' q := ⟨h.dev.more hB, h.sto.more hB, h.map.more hB, h.heat.more hB, h.dc, h.sc, h.mc, h.hc⟩
theorem VolI.drewN (h : VolI w B q) (k : Nat) : VolI (w.drewN k) B q := ⟨h.dev.drewN k, h.sto.drewN k, h.map.drewN k, h.heat, h.dc, h.sc, h.mc, h.hc⟩
theorem VolI.alloc (h : VolI w B q) (hB : B ≤ w.heap.size) (o : Obj) : VolI (w.alloc o) B q := ⟨h.dev.alloc hB o, h.sto.alloc hB o, h.map.alloc hB o, h.heat.alloc hB o, h.dc, h.sc, h.mc, h.hc⟩
theorem VolI.grown (h : VolI w B q) {row : Option Nat} (hg : w.grownBy w' row) (hB : B ≤ w.heap.size) (hr : ∀ g, row = some g → B ≤ g) : VolI w' B q :=
  ⟨h.dev.grown hg hB hr, h.sto.grown hg hB hr, h.map.grown hg hB hr, h.heat.grown hg hB hr, h.dc, h.sc, h.mc, h.hc⟩
end

/-- the parts are rows of the call's own -/
structure OwnV (w : World) (base : Nat) (q : Vq) : Prop where
  dev : OwnZ w base q.dA q.dn q.dc q.dev
  sto : OwnO w base q.sA q.sn q.sc q.sto
  map : MpR w base q.mA q.mn q.mc q.map
  heat : Own w base q.hA q.hn q.hc q.heat
section
variable {w w' : World} {base : Nat} {q : Vq}
theorem OwnV.voli (h : OwnV w base q) : VolI w w.heap.size q := ⟨h.dev.zns, h.sto.objs, h.map.mpi, h.heat.ints, h.dev.cap, h.sto.cap, h.map.cap, h.heat.cap⟩
theorem OwnV.below (h : OwnV w base q) (hg : Below w.heap.size w w') : OwnV w' base q := ⟨h.dev.below hg, h.sto.below hg, h.map.below hg, h.heat.below hg⟩
theorem OwnV.alloc (h : OwnV w base q) (o : Obj) : OwnV (w.alloc o) base q := ⟨h.dev.alloc o, h.sto.alloc o, h.map.alloc o, h.heat.alloc o⟩
theorem OwnV.drewN (h : OwnV w base q) (k : Nat) : OwnV (w.drewN k) base q := ⟨h.dev.drewN k, h.sto.drewN k, h.map.drewN k, h.heat.drewN k⟩
theorem OwnV.mono {b' : Nat} (h : OwnV w base q) (hb : b' ≤ base) : OwnV w b' q := ⟨h.dev.mono hb, h.sto.mono hb, h.map.mono hb, h.heat.mono hb⟩
theorem OwnV.nil_ (w : World) (base : Nat) : OwnV w base vq0 := ⟨OwnZ.nil_ w base, OwnO.nil_ w base, MpR.nil_ w base, Own.nil_ w base⟩
end

/-- what a function with a volume and a code returns -/
def VPost (w : World) (V : Vol) (code : Int) (e : Ending) (w' : World) : Prop :=
  ∃ q, e = .returned (.tuple #[q.val, .int .i64 code]) ∧ OwnV w' w.heap.size q ∧ q.vol = V ∧ Below w.heap.size w w'
/-- .. a volume and whether it was done -/
def VPostB (w : World) (V : Vol) (ok : Bool) (e : Ending) (w' : World) : Prop :=
  ∃ q, e = .returned (.tuple #[q.val, .bool ok]) ∧ OwnV w' w.heap.size q ∧ q.vol = V ∧ Below w.heap.size w w'
/-- .. a volume -/
def VPost1 (w : World) (V : Vol) (e : Ending) (w' : World) : Prop :=
  ∃ q, e = .returned q.val ∧ OwnV w' w.heap.size q ∧ q.vol = V ∧ Below w.heap.size w w'
theorem VPost.none {w w0 : World} (h : Below w0.heap.size w0 w) (hs : w0.heap.size ≤ w.heap.size) (code : Int) : VPost w0 vol0 code (.returned (.tuple #[vq0.val, .int .i64 code])) w :=
  ⟨vq0, rfl, OwnV.nil_ _ _, vq0_vol, h⟩
end Go.Proofs.YtfianpjoifcphaaGreat

/- Ints -/
namespace Go.Proofs.YtfianpjoifcphaaGreat
open Go.RowKit
set_option linter.unusedVariables false
set_option maxRecDepth 100000

theorem replicate_set_succ (n k : Nat) (xs : List Int) (h : k < xs.length) (hn : xs.length = n) :
    (xs.take k ++ List.replicate (n - k) 0).set k (xs.getD k 0) = xs.take (k + 1) ++ List.replicate (n - (k + 1)) 0 := by
  have hl : (xs.take k).length = k := by rw [List.length_take]; omega
  rw [List.set_append_right _ _ (by omega), hl, Nat.sub_self]
  have : n - k = (n - (k + 1)) + 1 := by omega
  have e : xs.getD k 0 = xs[k] := by simp [List.getD, h]
  rw [this, List.replicate_succ, List.set_cons_zero, List.take_succ_eq_append_getElem h, e, List.append_assoc]
  rfl

set_option maxHeartbeats 800000 in
theorem toInts_any (A : Option Addr) (n c B : Nat) (xs : List Int) (w : World) (hr : Ints w B A n xs) (hB : B ≤ w.heap.size) (hn : n ≤ 17592186044416) :
    Calls Tryz.prog 66 #[.slice A n c] w fun e w' => ∃ A2 c2, e = .returned (.slice A2 n c2) ∧ Own w' w.heap.size A2 n c2 xs ∧ Below w.heap.size w w' := by
  obtain ⟨i0, hi, hz0, hz1, hz2⟩ := info_parts info_int
  have HR := hide hr
  clear hr
  go_enter Tryz.func66, Tryz.ntmps66
  go_wp2_with (at_make; refine wpList_make_full _ rfl _ _ 27 rfl w.heap.size 3 i0 (.int .i64 0) 1 Tryz.underlying27 hi hz0 hz1 .i64 .i64 _ _ n rfl rfl rfl rfl (by rw [hz2]; omega) (by unfold maxLen; omega) (Nat.le_refl _) ?_; intro w1 hown hgrow)
  have ho : Own w1 w.heap.size (some ⟨w.heap.size, 0, none⟩) n n (List.replicate n 0) := by
    refine ⟨by simp, ?_⟩
    have e : (madeCells (Value.int .i64 0).cells (n * 1)).toList = (List.replicate n (0 : Int)).map (Value.int .i64) := by
      rw [Nat.mul_one]
      show (madeCells #[Value.int .i64 0] n).toList = _
      rw [toList_madeCells_one, List.map_replicate]
    rw [← e]
    exact hown
  have hB1 : Below w.heap.size w w1 := below_of_grown hgrow
  clear hown hgrow hi hz0 hz1 hz2
  go_loopw [4] (fun i wr => ∃ k : Nat, k ≤ n ∧ i = .int .i64 k ∧ Own wr w.heap.size (some ⟨w.heap.size, 0, none⟩) n n (xs.take k ++ List.replicate (n - k) 0) ∧ Below w.heap.size w wr)
    (fun i _ => n - (intOf i).toNat)
  case atStart => exact ⟨0, Nat.zero_le _, rfl, by simpa using ho, hB1⟩
  case round =>
    clear ho hB1
    obtain ⟨k, hk, rfl, hown, hbel⟩ := hrel
    have HL := hide HR.out.1
    by_cases hlt : k < n
    · have hI := HR.out.below hbel hB
      obtain ⟨ad, rfl, hb, hc⟩ := hI.at_ hlt
      have hfree := hown.free (g := w.heap.size) (j := k)
      have hcell := hown.cell (g := w.heap.size) (j := k) hlt
      have hst := hown.stored (g := w.heap.size) (j := k) (xs.getD k 0)
      have hset := replicate_set_succ n k xs (by rw [HL.out]; exact hlt) HL.out
      rw [hset] at hst
      have HS := hide hst
      have HB := hide (hbel.grown hst.2 hbel.size (by intro g hg; injection hg with hg; omega))
      clear hst hset hown hbel hI HR
      generalize xs.getD k 0 = x at hc HS HB
      generalize (List.take k xs ++ List.replicate (n - k) 0).getD k 0 = y at hcell
      go_wp2
      go_roundw
      case rel => exact ⟨k + 1, by omega, by go_num, HS.out.1, HB.out⟩
      case measure => simp [intOf]; omega
    · obtain rfl : k = n := by omega
      go_wp2
      go_ret
      refine ⟨_, _, rfl, ?_, hbel⟩
      rw [List.take_of_length_le (by rw [HL.out]; exact Nat.le_refl _)] at hown
      simpa using hown

theorem take_eq_succ (xs ys : List Int) (k : Nat) (hx : k < xs.length) (hy : k < ys.length) (h : xs.take k = ys.take k) :
    (xs.getD k 0 = ys.getD k 0 → xs.take (k + 1) = ys.take (k + 1)) ∧ (xs.getD k 0 ≠ ys.getD k 0 → xs ≠ ys) := by
  refine ⟨fun e => ?_, fun e h => e (by rw [h])⟩
  rw [List.take_succ_eq_append_getElem hx, List.take_succ_eq_append_getElem hy, h]
  have : xs[k] = ys[k] := by simpa [List.getD, hx, hy] using e
  rw [this]

set_option maxHeartbeats 800000 in
theorem eqIntS_any (A A' : Option Addr) (n c m d B B' : Nat) (xs ys : List Int) (w : World) (hx : Ints w B A n xs) (hy : Ints w B' A' m ys) (hn : n ≤ maxLen) (hm : m ≤ maxLen) :
    Calls Tryz.prog 27 #[.slice A n c, .slice A' m d] w fun e w' => e = .returned (.bool (decide (xs = ys))) ∧ ∃ q, w' = w.drewN q := by
  unfold maxLen at hn hm
  have HX := hide hx
  have HY := hide hy
  clear hx hy
  by_cases hnm : n = m
  · subst hnm
    go_enter Tryz.func27, Tryz.ntmps27
    go_wp2
    go_loopw [5] (fun i wr => ∃ k q : Nat, k ≤ n ∧ i = .int .i64 k ∧ wr = w.drewN q ∧ Hid (xs.take k = ys.take k)) (fun i _ => n - (intOf i).toNat)
    case atStart => exact ⟨0, 0, Nat.zero_le _, rfl, rfl, rfl⟩
    case round =>
      obtain ⟨k, q, hk, rfl, rfl, HT⟩ := hrel
      by_cases hlt : k < n
      · obtain ⟨ad, rfl, hb, hc⟩ := HX.out.at_ hlt
        obtain ⟨ad', rfl, hb', hc'⟩ := HY.out.at_ hlt
        have HE := hide (take_eq_succ xs ys k (by rw [HX.out.1]; exact hlt) (by rw [HY.out.1]; exact hlt) HT.out)
        have k0 : (0 : Int) ≤ (k : Int) := by omega
        have k1 : (k : Int) < (n : Int) := by omega
        generalize xs.getD k 0 = x at hc HE
        generalize ys.getD k 0 = y at hc' HE
        by_cases hxy : x = y
        · subst hxy
          go_wp2_with fail
          go_quiet (fail)
          go_wp2
          go_roundw
          case rel => exact ⟨k + 1, _, by omega, by go_num, rfl, HE.out.1 (by trivial)⟩
          case measure => simp [intOf]; omega
        · have hxy' : (x != y) = true := by simpa using hxy
          go_wp2_with fail
          go_quiet (fail)
          go_wp2
          go_ret
          exact ⟨ret_bool (by simpa using HE.out.2 hxy), _, World.drewN_drewN _ _ _⟩
      · obtain rfl : k = n := by omega
        go_wp2
        go_ret
        refine ⟨ret_bool ?_, q, rfl⟩
        have h := HT.out
        rw [List.take_of_length_le (by rw [HX.out.1]; exact Nat.le_refl _), List.take_of_length_le (by rw [HY.out.1]; exact Nat.le_refl _)] at h
        simpa using h
  · have h' : ((n : Int) != (m : Int)) = true := by simp; omega
    have hne : xs ≠ ys := fun e => hnm (by rw [← HX.out.1, ← HY.out.1, e])
    have HN := hide hne
    clear hne
    go_enter Tryz.func27, Tryz.ntmps27
    go_wp2
    go_ret
    exact ⟨ret_bool (by simpa using HN.out), 0, rfl⟩
theorem eqIntS_yes (A A' : Option Addr) (n c m d B B' : Nat) (xs ys : List Int) (w : World) (hx : Ints w B A n xs) (hy : Ints w B' A' m ys) (hn : n ≤ maxLen) (hm : m ≤ maxLen) (h : xs = ys) :
    Calls Tryz.prog 27 #[.slice A n c, .slice A' m d] w fun e w' => e = .returned (.bool true) ∧ ∃ q, w' = w.drewN q :=
  (eqIntS_any A A' n c m d B B' xs ys w hx hy hn hm).mono fun e w' ⟨he, hw⟩ => ⟨by rw [he, decide_eq_true h], hw⟩
theorem eqIntS_no (A A' : Option Addr) (n c m d B B' : Nat) (xs ys : List Int) (w : World) (hx : Ints w B A n xs) (hy : Ints w B' A' m ys) (hn : n ≤ maxLen) (hm : m ≤ maxLen) (h : xs ≠ ys) :
    Calls Tryz.prog 27 #[.slice A n c, .slice A' m d] w fun e w' => e = .returned (.bool false) ∧ ∃ q, w' = w.drewN q :=
  (eqIntS_any A A' n c m d B B' xs ys w hx hy hn hm).mono fun e w' ⟨he, hw⟩ => ⟨by rw [he, decide_eq_false h], hw⟩

set_option maxHeartbeats 800000 in
theorem sameInts_any (A A' : Option Addr) (n c m d B B' : Nat) (xs ys : List Int) (w : World) (hx : Ints w B A n xs) (hy : Ints w B' A' m ys) (hn : n ≤ maxLen) (hm : m ≤ maxLen) :
    Calls Tryz.prog 44 #[.slice A n c, .slice A' m d] w fun e w' => e = .returned (.bool (decide (xs = ys))) ∧ ∃ q, w' = w.drewN q := by
  unfold maxLen at hn hm
  have HX := hide hx
  have HY := hide hy
  clear hx hy
  by_cases hnm : n = m
  · subst hnm
    go_enter Tryz.func44, Tryz.ntmps44
    go_wp2
    go_loopw [5] (fun i wr => ∃ k q : Nat, k ≤ n ∧ i = .int .i64 k ∧ wr = w.drewN q ∧ Hid (xs.take k = ys.take k)) (fun i _ => n - (intOf i).toNat)
    case atStart => exact ⟨0, 0, Nat.zero_le _, rfl, rfl, rfl⟩
    case round =>
      obtain ⟨k, q, hk, rfl, rfl, HT⟩ := hrel
      by_cases hlt : k < n
      · obtain ⟨ad, rfl, hb, hc⟩ := HX.out.at_ hlt
        obtain ⟨ad', rfl, hb', hc'⟩ := HY.out.at_ hlt
        have HE := hide (take_eq_succ xs ys k (by rw [HX.out.1]; exact hlt) (by rw [HY.out.1]; exact hlt) HT.out)
        have k0 : (0 : Int) ≤ (k : Int) := by omega
        have k1 : (k : Int) < (n : Int) := by omega
        generalize xs.getD k 0 = x at hc HE
        generalize ys.getD k 0 = y at hc' HE
        by_cases hxy : x = y
        · subst hxy
          go_wp2_with fail
          go_quiet (fail)
          go_wp2
          go_roundw
          case rel => exact ⟨k + 1, _, by omega, by go_num, rfl, HE.out.1 (by trivial)⟩
          case measure => simp [intOf]; omega
        · have hxy' : (x != y) = true := by simpa using hxy
          go_wp2_with fail
          go_quiet (fail)
          go_wp2
          go_ret
          exact ⟨ret_bool (by simpa using HE.out.2 hxy), _, World.drewN_drewN _ _ _⟩
      · obtain rfl : k = n := by omega
        go_wp2
        go_ret
        refine ⟨ret_bool ?_, q, rfl⟩
        have h := HT.out
        rw [List.take_of_length_le (by rw [HX.out.1]; exact Nat.le_refl _), List.take_of_length_le (by rw [HY.out.1]; exact Nat.le_refl _)] at h
        simpa using h
  · have h' : ((n : Int) != (m : Int)) = true := by simp; omega
    have hne : xs ≠ ys := fun e => hnm (by rw [← HX.out.1, ← HY.out.1, e])
    have HN := hide hne
    clear hne
    go_enter Tryz.func44, Tryz.ntmps44
    go_wp2
    go_ret
    exact ⟨ret_bool (by simpa using HN.out), 0, rfl⟩
theorem sameInts_yes (A A' : Option Addr) (n c m d B B' : Nat) (xs ys : List Int) (w : World) (hx : Ints w B A n xs) (hy : Ints w B' A' m ys) (hn : n ≤ maxLen) (hm : m ≤ maxLen) (h : xs = ys) :
    Calls Tryz.prog 44 #[.slice A n c, .slice A' m d] w fun e w' => e = .returned (.bool true) ∧ ∃ q, w' = w.drewN q :=
  (sameInts_any A A' n c m d B B' xs ys w hx hy hn hm).mono fun e w' ⟨he, hw⟩ => ⟨by rw [he, decide_eq_true h], hw⟩
theorem sameInts_no (A A' : Option Addr) (n c m d B B' : Nat) (xs ys : List Int) (w : World) (hx : Ints w B A n xs) (hy : Ints w B' A' m ys) (hn : n ≤ maxLen) (hm : m ≤ maxLen) (h : xs ≠ ys) :
    Calls Tryz.prog 44 #[.slice A n c, .slice A' m d] w fun e w' => e = .returned (.bool false) ∧ ∃ q, w' = w.drewN q :=
  (sameInts_any A A' n c m d B B' xs ys w hx hy hn hm).mono fun e w' ⟨he, hw⟩ => ⟨by rw [he, decide_eq_false h], hw⟩

end Go.Proofs.YtfianpjoifcphaaGreat

/- StoM -/
namespace Go.Proofs.YtfianpjoifcphaaGreat
open Go.RowKit
set_option linter.unusedVariables false
set_option maxRecDepth 100000

def valOk (v : Int) : Bool := inB v 1 99
def valsOk (vs : List Int) : Bool := vs.all valOk && inB vs.length 1 6
def obOk (o : Int × List Int) : Bool := inB o.1 1 999 && valsOk o.2
def ascF_StoM : Int → Sto → Bool
  | _, [] => true
  | last, o :: r => inB o.1 (last + 1) 999 && valsOk o.2 && ascF_StoM o.1 r
/-- a store is valid -/
def stV (s : Sto) : Bool := ascF_StoM 0 s && decide (s.length ≤ 6)
def Asc (s : Sto) : Prop := s.Pairwise (fun a b => a.1 < b.1)

theorem obOk_iff {o : Int × List Int} : obOk o = true ↔ 1 ≤ o.1 ∧ o.1 ≤ 999 ∧ valsOk o.2 = true := by
  unfold obOk
  rw [Bool.and_eq_true, inB_iff, and_assoc]
theorem valsOk_len {vs : List Int} (h : valsOk vs = true) : 1 ≤ vs.length ∧ vs.length ≤ 6 := by
  unfold valsOk at h
  rw [Bool.and_eq_true, inB_iff] at h
  omega
theorem ascF_iff (s : Sto) : ∀ last : Int, 0 ≤ last → (ascF_StoM last s = true ↔ (∀ o ∈ s, last < o.1 ∧ obOk o = true) ∧ Asc s) := by
  induction s with
  | nil => intro last h; simp [ascF_StoM, Asc]
  | cons o r ih =>
    intro last h
    unfold ascF_StoM
    rw [Bool.and_eq_true, Bool.and_eq_true, inB_iff]
    constructor
    · rintro ⟨⟨⟨h1, h2⟩, h3⟩, h4⟩
      obtain ⟨h5, h6⟩ := (ih o.1 (by omega)).1 h4
      refine ⟨fun p hp => ?_, List.pairwise_cons.2 ⟨fun p hp => (h5 p hp).1, h6⟩⟩
      rcases List.mem_cons.1 hp with rfl | hp
      · exact ⟨by omega, obOk_iff.2 ⟨by omega, h2, h3⟩⟩
      · exact ⟨by have := (h5 p hp).1; omega, (h5 p hp).2⟩
    · rintro ⟨h1, h2⟩
      obtain ⟨h3, h4⟩ := List.pairwise_cons.1 h2
      have ho := h1 o (List.mem_cons_self ..)
      obtain ⟨a, b, c⟩ := obOk_iff.1 ho.2
      exact ⟨⟨⟨by omega, b⟩, c⟩, (ih o.1 (by omega)).2 ⟨fun p hp => ⟨h3 p hp, (h1 p (List.mem_cons_of_mem _ hp)).2⟩, h4⟩⟩
theorem stV_iff {s : Sto} : stV s = true ↔ (∀ o ∈ s, obOk o = true) ∧ Asc s ∧ s.length ≤ 6 := by
  unfold stV
  rw [Bool.and_eq_true, ascF_iff s 0 (by omega), decide_eq_true_eq, and_assoc]
  constructor
  · rintro ⟨h1, h2, h3⟩; exact ⟨fun o ho => (h1 o ho).2, h2, h3⟩
  · rintro ⟨h1, h2, h3⟩; exact ⟨fun o ho => ⟨by have := (obOk_iff.1 (h1 o ho)).1; omega, h1 o ho⟩, h2, h3⟩
theorem stV_nil : stV [] = true := rfl
theorem stV_sub {s t : Sto} (h : stV s = true) (hs : t.Sublist s) : stV t = true := by
  obtain ⟨h1, h2, h3⟩ := stV_iff.1 h
  exact stV_iff.2 ⟨fun o ho => h1 o (hs.subset ho), h2.sublist hs, Nat.le_trans hs.length_le h3⟩

/-! ### looking an object up -/
def hasS (s : Sto) (id : Int) : Bool := s.any (fun o => o.1 == id)
def valsAt (s : Sto) (id : Int) : List Int := ((s.find? (fun o => o.1 == id)).map (·.2)).getD []
/-- the index of an object, from k on, or -1 -/
def findF : Nat → Sto → Int → Int
  | _, [], _ => -1
  | k, o :: r, id => if o.1 = id then k else findF (k + 1) r id

theorem hasS_iff {s : Sto} {id : Int} : hasS s id = true ↔ ∃ o ∈ s, o.1 = id := by unfold hasS; simp
theorem hasS_no {s : Sto} {id : Int} : hasS s id = false ↔ ∀ o ∈ s, o.1 ≠ id := by unfold hasS; simp
theorem findF_step {s : Sto} {k : Nat} {o : Int × List Int} (h : s[k]? = some o) (id : Int) : findF k (s.drop k) id = if o.1 = id then (k : Int) else findF (k + 1) (s.drop (k + 1)) id := by
  have hl : k < s.length := (List.getElem?_eq_some_iff.1 h).1
  have e : s[k] = o := (List.getElem?_eq_some_iff.1 h).2
  rw [List.drop_eq_getElem_cons hl, e]
  rfl
theorem findF_no (s : Sto) (id : Int) : ∀ k : Nat, hasS s id = false → findF k s id = -1 := by
  induction s with
  | nil => intro k h; rfl
  | cons o r ih =>
    intro k h
    unfold hasS at h
    simp only [List.any_cons, Bool.or_eq_false_iff] at h
    unfold findF
    rw [if_neg (by simpa using h.1)]
    exact ih _ h.2
theorem findF_yes (s : Sto) (id : Int) : ∀ k : Nat, hasS s id = true → ∃ (i : Nat) (o : Int × List Int), findF k s id = ((k + i : Nat) : Int) ∧ s[i]? = some o ∧ o.1 = id ∧ valsAt s id = o.2 := by
  induction s with
  | nil => intro k h; cases h
  | cons o r ih =>
    intro k h
    by_cases ho : o.1 = id
    · exact ⟨0, o, by unfold findF; rw [if_pos ho]; rfl, rfl, ho, by unfold valsAt; rw [List.find?_cons_of_pos (by simpa using ho)]; rfl⟩
    · have h' : hasS r id = true := by
        unfold hasS at h ⊢
        simp only [List.any_cons, Bool.or_eq_true] at h
        rcases h with h | h
        · exact absurd (by simpa using h) ho
        · exact h
      obtain ⟨i, p, e1, e2, e3, e4⟩ := ih (k + 1) h'
      refine ⟨i + 1, p, ?_, by simpa using e2, e3, ?_⟩
      · unfold findF
        rw [if_neg ho, e1]
        congr 1
        omega
      · unfold valsAt at e4 ⊢
        rw [List.find?_cons_of_neg (by simpa using ho)]
        exact e4
theorem valsAt_mem {s : Sto} (ha : Asc s) {o : Int × List Int} (h : o ∈ s) : valsAt s o.1 = o.2 := by
  induction s with
  | nil => cases h
  | cons p r ih =>
    obtain ⟨h1, h2⟩ := List.pairwise_cons.1 ha
    unfold valsAt
    rcases List.mem_cons.1 h with rfl | h
    · rw [List.find?_cons_of_pos (by simp)]; rfl
    · have : p.1 ≠ o.1 := by have := h1 o h; omega
      rw [List.find?_cons_of_neg (by simpa using this)]
      exact ih h2 h
theorem valsAt_no {s : Sto} {id : Int} (h : hasS s id = false) : valsAt s id = [] := by
  unfold valsAt
  rw [List.find?_eq_none.2 (fun o ho => by simpa using (hasS_no.1 h) o ho)]
  rfl

/-! ### a further object -/
def insS : Sto → Int → List Int → Sto
  | [], id, vs => [(id, vs)]
  | o :: r, id, vs => if o.1 < id then o :: insS r id vs else (id, vs) :: o :: r
def cntS : Sto → Int → Nat
  | [], _ => 0
  | o :: r, id => if o.1 < id then cntS r id + 1 else 0
theorem cntS_le (s : Sto) (id : Int) : cntS s id ≤ s.length := by
  induction s with
  | nil => exact Nat.le_refl _
  | cons o r ih => unfold cntS; split <;> simp <;> omega
theorem insS_cut (s : Sto) (id : Int) (vs : List Int) : insS s id vs = s.take (cntS s id) ++ [(id, vs)] ++ s.drop (cntS s id) := by
  induction s with
  | nil => rfl
  | cons o r ih =>
    unfold insS cntS
    split
    · rw [ih]; simp
    · simp
theorem cntS_at {s : Sto} {id : Int} {k : Nat} {o : Int × List Int} (h : s[k]? = some o) (hk : k < cntS s id) : o.1 < id := by
  induction s generalizing k with
  | nil => simp at h
  | cons p r ih =>
    unfold cntS at hk
    split at hk
    · rcases k with _ | k
      · simp at h; subst h; assumption
      · exact ih (k := k) (by simpa using h) (by omega)
    · omega
theorem cntS_end {s : Sto} {id : Int} {o : Int × List Int} (h : s[cntS s id]? = some o) : ¬ o.1 < id := by
  induction s with
  | nil => simp at h
  | cons p r ih =>
    unfold cntS at h
    split at h
    · exact ih (by simpa using h)
    · simp at h; subst h; assumption
theorem insS_length (s : Sto) (id : Int) (vs : List Int) : (insS s id vs).length = s.length + 1 := by
  induction s with
  | nil => rfl
  | cons o r ih => unfold insS; split <;> simp [ih]
theorem insS_mem {s : Sto} {id : Int} {vs : List Int} {o : Int × List Int} : o ∈ insS s id vs ↔ o = (id, vs) ∨ o ∈ s := by
  induction s with
  | nil => simp [insS]
  | cons p r ih =>
    unfold insS
    split
    · simp only [List.mem_cons, ih]
      constructor
      · rintro (h | h | h)
        · exact .inr (.inl h)
        · exact .inl h
        · exact .inr (.inr h)
      · rintro (h | h | h)
        · exact .inr (.inl h)
        · exact .inl h
        · exact .inr (.inr h)
    · simp only [List.mem_cons]
theorem insS_asc {s : Sto} {id : Int} {vs : List Int} (h : Asc s) (hn : hasS s id = false) : Asc (insS s id vs) := by
  induction s with
  | nil => simp [insS, Asc]
  | cons p r ih =>
    obtain ⟨h1, h2⟩ := List.pairwise_cons.1 h
    have hn' := hasS_no.1 hn
    have hp := hn' p (List.mem_cons_self ..)
    unfold insS
    split
    · next hlt =>
      refine List.pairwise_cons.2 ⟨fun q hq => ?_, ih h2 (hasS_no.2 fun o ho => hn' o (List.mem_cons_of_mem _ ho))⟩
      rcases insS_mem.1 hq with rfl | hq
      · exact hlt
      · exact h1 q hq
    · next hge =>
      refine List.pairwise_cons.2 ⟨fun q hq => ?_, h⟩
      rcases List.mem_cons.1 hq with rfl | hq
      · show id < q.1; omega
      · have := h1 q hq
        show id < q.1
        omega
theorem insS_last {s : Sto} {id : Int} {vs : List Int} (h : ∀ o ∈ s, o.1 < id) : insS s id vs = s ++ [(id, vs)] := by
  induction s with
  | nil => rfl
  | cons p r ih =>
    unfold insS
    rw [if_pos (h p (List.mem_cons_self ..)), ih (fun o ho => h o (List.mem_cons_of_mem _ ho))]
    rfl
theorem insS_valid {s : Sto} {id : Int} {vs : List Int} (h : stV s = true) (h1 : inB id 1 999 = true) (h2 : valsOk vs = true) (hn : hasS s id = false) (hl : s.length < 6) : stV (insS s id vs) = true := by
  obtain ⟨a, b, c⟩ := stV_iff.1 h
  obtain ⟨i1, i2⟩ := inB_iff.1 h1
  refine stV_iff.2 ⟨fun o ho => ?_, insS_asc b hn, by rw [insS_length]; omega⟩
  rcases insS_mem.1 ho with rfl | ho
  · exact obOk_iff.2 ⟨i1, i2, h2⟩
  · exact a o ho
theorem insS_has (s : Sto) (id : Int) (vs : List Int) : hasS (insS s id vs) id = true := hasS_iff.2 ⟨(id, vs), insS_mem.2 (.inl rfl), rfl⟩
theorem insS_vals {s : Sto} {id : Int} {vs : List Int} (h : Asc s) (hn : hasS s id = false) : valsAt (insS s id vs) id = vs :=
  valsAt_mem (insS_asc h hn) (o := (id, vs)) (insS_mem.2 (.inl rfl))
theorem insS_other {s : Sto} {id : Int} {vs : List Int} (h : Asc s) (hn : hasS s id = false) {o : Int × List Int} (ho : o ∈ s) : valsAt (insS s id vs) o.1 = valsAt s o.1 := by
  rw [valsAt_mem h ho, valsAt_mem (insS_asc h hn) (insS_mem.2 (.inr ho))]

/-! ### the functions -/
def putOk (s : Sto) (id : Int) (vs : List Int) : Bool := stV s && inB id 1 999 && valsOk vs
def putS (s : Sto) (id : Int) (vs : List Int) : Sto := if putOk s id vs then (if hasS s id then s else if 6 ≤ s.length then s else insS s id vs) else []
def putN (s : Sto) (id : Int) (vs : List Int) : Int := if putOk s id vs then (if hasS s id then 1 else if 6 ≤ s.length then 2 else 0) else 3
/-- a value, and whether there is one -/
def getB (s : Sto) (id ix : Int) : Bool := stV s && hasS s id && inB ix 0 ((valsAt s id).length - 1)
def getV (s : Sto) (id ix : Int) : Int := if getB s id ix then (valsAt s id).getD ix.toNat 0 else 0
def hasI (xs : List Int) (n : Int) : Bool := xs.contains n
def keepS (s : Sto) (ids : List Int) : Sto := if stV s then s.filter (fun o => hasI ids o.1) else []

theorem putN_cases (s : Sto) (id : Int) (vs : List Int) :
    (putOk s id vs = false ∧ putN s id vs = 3 ∧ putS s id vs = []) ∨ (putOk s id vs = true ∧ hasS s id = true ∧ putN s id vs = 1 ∧ putS s id vs = s) ∨
    (putOk s id vs = true ∧ hasS s id = false ∧ 6 ≤ s.length ∧ putN s id vs = 2 ∧ putS s id vs = s) ∨ (putOk s id vs = true ∧ hasS s id = false ∧ s.length < 6 ∧ putN s id vs = 0 ∧ putS s id vs = insS s id vs) := by
  unfold putN putS
  rcases h : putOk s id vs with _ | _
  · exact .inl ⟨rfl, rfl, rfl⟩
  · rcases h2 : hasS s id with _ | _
    · by_cases h3 : 6 ≤ s.length
      · exact .inr (.inr (.inl ⟨rfl, rfl, h3, by simp [h3], by simp [h3]⟩))
      · exact .inr (.inr (.inr ⟨rfl, rfl, by omega, by simp [h3], by simp [h3]⟩))
    · exact .inr (.inl ⟨rfl, rfl, by simp, by simp⟩)
theorem putOk_iff {s : Sto} {id : Int} {vs : List Int} : putOk s id vs = true ↔ stV s = true ∧ inB id 1 999 = true ∧ valsOk vs = true := by
  unfold putOk; rw [Bool.and_eq_true, Bool.and_eq_true, and_assoc]
theorem stV_asc {s : Sto} (h : stV s = true) : Asc s := (stV_iff.1 h).2.1
theorem hasI_iff {xs : List Int} {n : Int} : hasI xs n = true ↔ n ∈ xs := by unfold hasI; simp
theorem keepS_valid {s : Sto} {ids : List Int} (h : stV s = true) : stV (keepS s ids) = true := by
  unfold keepS; rw [if_pos h]; exact stV_sub h List.filter_sublist
theorem keepS_twice {s : Sto} {ids : List Int} (h : stV s = true) : keepS (keepS s ids) ids = keepS s ids := by
  have h2 := keepS_valid (ids := ids) h
  have e : keepS (keepS s ids) ids = (keepS s ids).filter (fun o => hasI ids o.1) := by rw [keepS, if_pos h2]
  rw [e]
  unfold keepS
  rw [if_pos h, List.filter_filter]
  simp
theorem keepS_none {s : Sto} : keepS s [] = [] := by
  unfold keepS; split
  · simp [hasI]
  · rfl
end Go.Proofs.YtfianpjoifcphaaGreat

/- Has -/
namespace Go.Proofs.YtfianpjoifcphaaGreat
open Go.RowKit
set_option linter.unusedVariables false
set_option maxRecDepth 100000

end Go.Proofs.YtfianpjoifcphaaGreat
