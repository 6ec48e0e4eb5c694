/-
  The reader of a code: l6Open, pick: pick(n) is from 0 to n-1, and turns the reader's own block alone.
-/
import Derived.Test.YtiopbgenkalfaaaBase
namespace Go.Proofs.Ytiopbgenkalfaaa
open Go.RowKit
set_option linter.unusedVariables false
set_option maxRecDepth 100000

/-- Bytes that can be read, below block B. -/
def Bytes (w : World) (B : Nat) (A : Option Addr) (n : Nat) (bs : Nat → Int) : Prop :=
  0 < n → ∃ ad, A = some ad ∧ ad.block < B ∧ ∀ j, j < n → 0 ≤ bs j ∧ bs j ≤ 255 ∧ w.cell? (ad.add j) = some (.int .u8 (bs j))

/-- The reader of a code: block R. -/
def Rd (w : World) (R : Nat) (p : Int) : Prop :=
  0 ≤ p ∧ p ≤ 30000 ∧ ∃ A n c bs, n ≤ 2000 ∧ n ≤ c ∧ Blk w R 84 #[.slice A n c, .int .i64 p] ∧ Bytes w R A n bs

theorem xor_nonneg (x y : Int) (hx0 : 0 ≤ x) (hx' : x < 4611686018427387904) (hy : 0 ≤ y) (hy' : y < 4611686018427387904) :
    0 ≤ IntKind.i64.wrap ((BitVec.ofInt 64 x ^^^ BitVec.ofInt 64 y).toNat : Int) := by
  obtain ⟨a, rfl⟩ := Int.eq_ofNat_of_zero_le hx0
  obtain ⟨b, rfl⟩ := Int.eq_ofNat_of_zero_le hy
  have h1 : (BitVec.ofInt 64 (a : Int)).toNat = a := by
    rw [BitVec.ofInt_natCast, BitVec.toNat_ofNat]; exact Nat.mod_eq_of_lt (by omega)
  have h2 : (BitVec.ofInt 64 (b : Int)).toNat = b := by
    rw [BitVec.ofInt_natCast, BitVec.toNat_ofNat]; exact Nat.mod_eq_of_lt (by omega)
  rw [BitVec.toNat_xor, h1, h2]
  have hx : a ^^^ b < 2 ^ 62 := Nat.xor_lt_two_pow (by omega) (by omega)
  rw [IntKind.wrap_i64]
  omega


theorem Bytes.keep {w w' : World} {B : Nat} {A : Option Addr} {n : Nat} {bs : Nat → Int} (h : Bytes w B A n bs) (hk : ∀ p : Addr, p.block < B → w'.cell? p = w.cell? p) : Bytes w' B A n bs := fun hn => by
  obtain ⟨ad, e, hb, hc⟩ := h hn
  exact ⟨ad, e, hb, fun j hj => ⟨(hc j hj).1, (hc j hj).2.1, (hk _ (by rw [block_of_add]; exact hb)).trans (hc j hj).2.2⟩⟩

theorem rd_step {w : World} {R : Nat} {p : Int} (h : Rd w R p) (hp : p < 30000) (k : Nat) :
    Rd ((w.setCell ⟨R, 1, none⟩ (.int .i64 (p + 1))).drewN k) R (p + 1) ∧ w.grownBy ((w.setCell ⟨R, 1, none⟩ (.int .i64 (p + 1))).drewN k) (some R) := by
  obtain ⟨hp0, _, A, m, c, bs, hm, hmc, hb, hbs⟩ := h
  refine ⟨⟨by omega, by omega, A, m, c, bs, hm, hmc, ?_, ?_⟩, ?_⟩
  · exact (hb.set_ 1 (.int .i64 (p + 1))).drewN k
  · refine Bytes.keep hbs fun q hq => ?_
    show (w.setCell ⟨R, 1, none⟩ (.int .i64 (p + 1))).cell? q = _
    exact World.cell?_of_block (Below.heap_setCell w ⟨R, 1, none⟩ _ q.block (by simp; omega))
  · refine ⟨rfl, rfl, rfl, by simp [World.setCell, World.drewN], fun i hi hne => ?_⟩
    exact Below.heap_setCell w ⟨R, 1, none⟩ _ i (by rintro rfl; exact hne rfl)

theorem bits_xor_nonneg (x y : Int) (hx : 0 ≤ x) (hx' : x < 4611686018427387904) (hy : 0 ≤ y) (hy' : y < 4611686018427387904) : 0 ≤ bits .xor .i64 x y := xor_nonneg x y hx hx' hy hy'
theorem tmod_ge (x n : Int) (hx : 0 ≤ x) : 0 ≤ x.tmod n := Int.tmod_nonneg n hx
theorem tmod_lt (x n : Int) (hn : 1 ≤ n) (hx : 0 ≤ x) : x.tmod n < n := Int.tmod_lt_of_pos x (by omega)
theorem mod_lt' (x n : Int) (hn : 1 ≤ n) : x % n < n := Int.emod_lt_of_pos x (by omega)
theorem mod_ge' (x n : Int) (hn : 1 ≤ n) : 0 ≤ x % n := Int.emod_nonneg x (by omega)

set_option maxHeartbeats 800000 in
set_option maxRecDepth 100000 in
theorem pick_any (R : Nat) (p n : Int) (w : World) (hr : Rd w R p) (hp : p < 30000) (hn : 1 ≤ n) :
    Calls Try.prog 37 #[.pointer (some ⟨R, 0, none⟩), .int .i64 n] w fun e w' => ∃ v, e = .returned (.int .i64 v) ∧ 0 ≤ v ∧ v < n ∧ Rd w' R (p + 1) ∧ w.grownBy w' (some R) := by
  have hst := hide (rd_step hr hp)
  obtain ⟨hp0, _, A, m, c, bs, hm, hmc, hb, hbs⟩ := hr
  have hc0 := hb.cell 0
  have hc1 := hb.cell 1
  have hf1 := hb.frozen 1
  simp at hc0 hc1
  by_cases hm0 : m = 0
  · subst hm0
    go_enter Try.func37, Try.ntmps37
    go_wp2
    go_ret
    exact ⟨0, rfl, by omega, by omega, hst.out 0⟩
  · obtain ⟨ad, rfl, hadb, hcb⟩ := hbs (by omega)
    have hne : ad.block ≠ R := by omega
    have hcell : ∀ j, j < m → (w.setCell ⟨R, 1, none⟩ (.int .i64 (p + 1))).cell? (ad.add j) = some (.int .u8 (bs j)) := fun j hj =>
      (World.cell?_of_block (Below.heap_setCell w ⟨R, 1, none⟩ _ (ad.add j).block (by rw [block_of_add]; exact hne))).trans (hcb j hj).2.2
    have hmb : ((m : Int) == 0) = false := by simp; omega
    by_cases hk : p < m
    · have hck := hcell p.toNat (by omega)
      obtain ⟨hk0, hk1, _⟩ := hcb p.toNat (by omega)
      generalize bs p.toNat = u at hck hk0 hk1
      clear hcb hcell hbs hb
      have hn0 : ¬ n = 0 := by omega
      go_enter Try.func37, Try.ntmps37
      go_wp2
      go_ret
      refine ⟨_, rfl, mod_ge' _ _ hn, mod_lt' _ _ hn, hst.out 0⟩
    · have h1 : 0 ≤ p % m := Int.emod_nonneg p (by omega)
      have h2 : p % m < m := Int.emod_lt_of_pos p (by omega)
      have h3 : 0 ≤ (p * 7 + 3) % m := Int.emod_nonneg _ (by omega)
      have h4 : (p * 7 + 3) % m < m := Int.emod_lt_of_pos _ (by omega)
      have hc3 := hcell (p % m).toNat (by omega)
      have hc4 := hcell ((p * 7 + 3) % m).toNat (by omega)
      obtain ⟨u0, u1, _⟩ := hcb (p % m).toNat (by omega)
      obtain ⟨v0, v1, _⟩ := hcb ((p * 7 + 3) % m).toNat (by omega)
      generalize bs (p % m).toNat = u at hc3 u0 u1
      generalize bs ((p * 7 + 3) % m).toNat = v at hc4 v0 v1
      have hn0 : ¬ n = 0 := by omega
      have h5 : 0 ≤ p / m := Int.ediv_nonneg hp0 (by omega)
      have h6 : p / m ≤ p := Int.ediv_le_self _ hp0
      clear hcb hcell hbs hb
      go_enter Try.func37, Try.ntmps37
      go_wp2
      go_quiet (fail)
      go_wp2
      go_ret
      exact ⟨_, rfl, tmod_ge _ _ (bits_xor_nonneg _ _ (by omega) (by omega) (by omega) (by omega)), tmod_lt _ _ hn (bits_xor_nonneg _ _ (by omega) (by omega) (by omega) (by omega)), hst.out _⟩
set_option maxHeartbeats 400000 in
theorem open_any (A : Option Addr) (n c : Nat) (bs : Nat → Int) (w : World) (hb : Bytes w w.heap.size A n bs) (hn : n ≤ c) (hc : c ≤ maxLen) :
    Calls Try.prog 32 #[.slice A n c] w fun e w' => e = .returned (.pointer (some ⟨w.heap.size, 0, none⟩)) ∧ Rd w' w.heap.size 0 ∧ Below w.heap.size w w' := by
  unfold maxLen at hc
  by_cases h : 2000 < n
  · have h1 : 2000 ≤ c := by omega
    go_enter Try.func32, Try.ntmps32
    go_wp2
    go_ret
    refine ⟨rfl, ⟨by omega, by omega, A, 2000, c, bs, by omega, by omega, Blk.new w _ _, ?_⟩, (Below.refl _ _).alloc (Nat.le_refl _) _⟩
    intro _
    obtain ⟨ad, e, hl, hcl⟩ := hb (by omega)
    exact ⟨ad, e, hl, fun j hj => ⟨(hcl j (by omega)).1, (hcl j (by omega)).2.1, by rw [World.cell?_alloc_lt w _ _ (by rw [block_of_add]; exact hl)]; exact (hcl j (by omega)).2.2⟩⟩
  · go_enter Try.func32, Try.ntmps32
    go_wp2
    go_ret
    refine ⟨rfl, ⟨by omega, by omega, A, n, c, bs, by omega, by omega, Blk.new w _ _, ?_⟩, (Below.refl _ _).alloc (Nat.le_refl _) _⟩
    exact Bytes.keep hb fun p hp => World.cell?_alloc_lt w _ p hp
end Go.Proofs.Ytiopbgenkalfaaa
