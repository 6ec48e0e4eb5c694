/-
  Buckets as four numbers: what is valid, the level at a time, what is taken, the first time at which there is enough. Plain.
-/
import Derived.Test.YtcekikblgbdcoaaKp
import Derived.Test.YtcekikblgbdcoaaSum
namespace Go.Proofs.Ytcekikblgbdcoaa
open Go.RowKit
set_option linter.unusedVariables false
set_option maxRecDepth 100000

/-- level, largest level, rate, time -/
structure Bk where
  l : Int
  m : Int
  r : Int
  t : Int
def okK (b : Bk) : Prop := 1 ≤ b.m ∧ b.m ≤ 100 ∧ 0 ≤ b.l ∧ b.l ≤ b.m ∧ 0 ≤ b.r ∧ b.r ≤ 100 ∧ 0 ≤ b.t ∧ b.t ≤ 999
instance (b : Bk) : Decidable (okK b) := by unfold okK; infer_instance
def bkV (b : Bk) : Bool := decide (okK b)
/-- the level k units of time later -/
def lvl (b : Bk) (k : Int) : Int := if b.l + b.r * k ≤ b.m then b.l + b.r * k else b.m
def inT (b : Bk) (T : Int) : Prop := okK b ∧ b.t ≤ T ∧ T ≤ 999
instance (b : Bk) (T : Int) : Decidable (inT b T) := by unfold inT; infer_instance
def atB (b : Bk) (T : Int) : Bk × Bool := if inT b T then (⟨lvl b (T - b.t), b.m, b.r, T⟩, true) else (⟨0, 0, 0, 0⟩, false)
def mayT (many : Int) : Prop := 0 ≤ many ∧ many ≤ 100
instance (many : Int) : Decidable (mayT many) := by unfold mayT; infer_instance
def takB (b : Bk) (T many : Int) : Bk × Bool :=
  if inT b T ∧ mayT many then (if lvl b (T - b.t) < many then (⟨lvl b (T - b.t), b.m, b.r, T⟩, false) else (⟨lvl b (T - b.t) - many, b.m, b.r, T⟩, true)) else (⟨0, 0, 0, 0⟩, false)
/-- W is the first time at which there is enough, or -1 -/
def waitB (b : Bk) (many W : Int) : Prop :=
  (¬ (okK b ∧ mayT many) ∧ W = -1) ∨
  (okK b ∧ mayT many ∧ ((W = -1 ∧ ∀ T, b.t ≤ T → T ≤ 999 → lvl b (T - b.t) < many) ∨ (b.t ≤ W ∧ W ≤ 999 ∧ many ≤ lvl b (W - b.t) ∧ ∀ T, b.t ≤ T → T < W → lvl b (T - b.t) < many)))

theorem prod_rng {r k : Int} (h0 : 0 ≤ r) (h1 : r ≤ 100) (k0 : 0 ≤ k) (k1 : k ≤ 999) : 0 ≤ r * k ∧ r * k ≤ 99900 :=
  ⟨Int.mul_nonneg h0 k0, Int.mul_le_mul h1 k1 k0 (by omega)⟩
theorem lvl_rng {b : Bk} (h : okK b) {k : Int} (k0 : 0 ≤ k) (k1 : k ≤ 999) : b.l ≤ lvl b k ∧ lvl b k ≤ b.m := by
  obtain ⟨h1, h2, h3, h4, h5, h6, h7, h8⟩ := h
  have := prod_rng h5 h6 k0 k1
  unfold lvl
  split <;> omega
theorem lvl_0 {b : Bk} (h : okK b) : lvl b 0 = b.l := by
  obtain ⟨h1, h2, h3, h4, h5, h6, h7, h8⟩ := h
  unfold lvl
  rw [Int.mul_zero, Int.add_zero, if_pos h4]
theorem lvl_mono {b : Bk} (h : okK b) {j k : Int} (hj : 0 ≤ j) (hk : j ≤ k) (k1 : k ≤ 999) : lvl b j ≤ lvl b k := by
  obtain ⟨h1, h2, h3, h4, h5, h6, h7, h8⟩ := h
  have h9 : b.r * j ≤ b.r * k := Int.mul_le_mul_of_nonneg_left hk h5
  unfold lvl
  split <;> split <;> omega
/-- in steps -/
theorem lvl_step {b : Bk} (h : okK b) {j k : Int} (j0 : 0 ≤ j) (j1 : j ≤ 999) (k0 : 0 ≤ k) (k1 : k ≤ 999) (x : Int) : lvl ⟨lvl b j, b.m, b.r, x⟩ k = lvl b (j + k) := by
  obtain ⟨h1, h2, h3, h4, h5, h6, h7, h8⟩ := h
  have p1 := prod_rng h5 h6 j0 j1
  have p2 := prod_rng h5 h6 k0 k1
  unfold lvl
  simp only
  rw [Int.mul_add]
  split <;> split <;> (try split) <;> omega
/-- a level that grows no more -/
theorem lvl_end {b : Bk} (h : okK b) {j : Int} (j0 : 0 ≤ j) (j1 : j + 1 ≤ 999) (he : lvl b (j + 1) ≤ lvl b j) {k : Int} (hk : j ≤ k) (k1 : k ≤ 999) : lvl b k = lvl b j := by
  have hm := lvl_mono h j0 hk k1
  obtain ⟨h1, h2, h3, h4, h5, h6, h7, h8⟩ := h
  have p1 := prod_rng h5 h6 j0 (by omega)
  have e : b.r * (j + 1) = b.r * j + b.r := by rw [Int.mul_add, Int.mul_one]
  unfold lvl at he hm ⊢
  rw [e] at he
  by_cases hr : b.r = 0
  · rw [hr, Int.zero_mul, Int.zero_mul]
  · by_cases c : b.l + b.r * j ≤ b.m
    · rw [if_pos c] at he hm ⊢
      by_cases c2 : b.l + (b.r * j + b.r) ≤ b.m
      · rw [if_pos c2] at he; omega
      · rw [if_neg c2] at he
        by_cases c3 : b.l + b.r * k ≤ b.m
        · rw [if_pos c3] at hm ⊢; omega
        · rw [if_neg c3]; omega
    · rw [if_neg c] at he hm ⊢
      by_cases c3 : b.l + b.r * k ≤ b.m
      · rw [if_pos c3] at hm ⊢; omega
      · rw [if_neg c3]
theorem ok_at {b : Bk} (h : okK b) {k : Int} (k0 : 0 ≤ k) (k1 : k ≤ 999) {x : Int} (x0 : 0 ≤ x) (x1 : x ≤ 999) : okK ⟨lvl b k, b.m, b.r, x⟩ := by
  have := lvl_rng h k0 k1
  obtain ⟨h1, h2, h3, h4, h5, h6, h7, h8⟩ := h
  exact ⟨h1, h2, by simp only; omega, by simp only; omega, h5, h6, x0, x1⟩
theorem wait_one {b : Bk} {many V W : Int} (h : waitB b many V) (k : waitB b many W) : V = W := by
  rcases h with ⟨hn, e⟩ | ⟨h1, h2, h⟩
  · rcases k with ⟨_, e'⟩ | ⟨k1, k2, _⟩
    · rw [e, e']
    · exact absurd ⟨k1, k2⟩ hn
  · rcases k with ⟨kn, _⟩ | ⟨_, _, k⟩
    · exact absurd ⟨h1, h2⟩ kn
    · rcases h with ⟨e, h⟩ | ⟨a1, a2, a3, a4⟩
      · rcases k with ⟨e', _⟩ | ⟨c1, c2, c3, c4⟩
        · rw [e, e']
        · have := h W c1 c2; omega
      · rcases k with ⟨_, k⟩ | ⟨c1, c2, c3, c4⟩
        · have := k V a1 a2; omega
        · rcases Int.lt_trichotomy V W with hlt | rfl | hgt
          · have := c4 V a1 hlt; omega
          · rfl
          · have := a4 W c1 hgt; omega

/-- blocks of four numbers -/
theorem Kp.cells4 {w W : World} {t : TypeId} {g : Nat} {a b c d : Int} {L : List (Nat × TypeId × Array Value)} (h : Kp w W ((g, t, #[.int .i64 a, .int .i64 b, .int .i64 c, .int .i64 d]) :: L)) :
    (W.cell? ⟨g, 0, none⟩ = some (.int .i64 a) ∧ W.cell? ⟨g, 1, none⟩ = some (.int .i64 b) ∧ W.cell? ⟨g, 2, none⟩ = some (.int .i64 c) ∧ W.cell? ⟨g, 3, none⟩ = some (.int .i64 d)) ∧
      W.frozen? ⟨g, 0, none⟩ = false ∧ W.frozen? ⟨g, 1, none⟩ = false ∧ W.frozen? ⟨g, 2, none⟩ = false ∧ W.frozen? ⟨g, 3, none⟩ = false :=
  ⟨⟨by rw [h.hd.cell]; rfl, by rw [h.hd.cell]; rfl, by rw [h.hd.cell]; rfl, by rw [h.hd.cell]; rfl⟩, h.hd.frozen 0, h.hd.frozen 1, h.hd.frozen 2, h.hd.frozen 3⟩
theorem Kp.put4 {w W : World} {t : TypeId} {g : Nat} {v0 v1 v2 v3 u0 u1 u2 u3 : Value} {L : List (Nat × TypeId × Array Value)} (h : Kp w W ((g, t, #[v0, v1, v2, v3]) :: L)) (hne : ∀ p ∈ L, p.1 ≠ g) :
    Kp w ((((W.setCell ⟨g, 0, none⟩ u0).setCell ⟨g, 1, none⟩ u1).setCell ⟨g, 2, none⟩ u2).setCell ⟨g, 3, none⟩ u3) ((g, t, #[u0, u1, u2, u3]) :: L) := by
  have := (((h.put hne 0 u0).put hne 1 u1).put hne 2 u2).put hne 3 u3
  simpa using this
end Go.Proofs.Ytcekikblgbdcoaa
