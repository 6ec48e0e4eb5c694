/-
  Plain mathematics of columns: what the program's sums modulo 101 lead to (division by repeated multiplication), and that it is what the model's searches find.
-/
import Derived.Test.YtldbcenipahkfaaCkM
namespace Go.Proofs.Ytldbcenipahkfaa
open Go.RowKit
set_option linter.unusedVariables false
set_option maxRecDepth 100000

/-- m, multiplied k times by d, modulo 101 -/
def ovK (d : Int) : Nat → Int → Int
  | 0, m => m
  | k + 1, m => ovK d k m * d % 101
def ov (m d : Int) : Int := ovK d 99 m
theorem ovK_rng {m d : Int} (h0 : 0 ≤ m) (h1 : m ≤ 100) (k : Nat) : 0 ≤ ovK d k m ∧ ovK d k m ≤ 100 := by
  cases k with
  | zero => exact ⟨h0, h1⟩
  | succ k => unfold ovK; omega
theorem ov_rng {m d : Int} (h0 : 0 ≤ m) (h1 : m ≤ 100) : 0 ≤ ov m d ∧ ov m d ≤ 100 := ovK_rng h0 h1 99
theorem ovK_mul (d : Int) (m : Int) : ∀ k, (ovK d k m) % 101 = (m * ovK d k 1) % 101 := by
  intro k
  induction k with
  | zero => simp [ovK]
  | succ k ih =>
    simp only [ovK]
    rw [Int.emod_emod_of_dvd _ (Int.dvd_refl 101), Int.mul_emod, ih, ← Int.mul_emod, Int.mul_emod m, Int.emod_emod_of_dvd _ (Int.dvd_refl 101), ← Int.mul_emod, Int.mul_assoc]
theorem inv_tab : ∀ d : Fin 101, d ≠ 0 → (ovK ((d.val : Nat) : Int) 99 1 * ((d.val : Nat) : Int)) % 101 = 1 := by decide +kernel
theorem inv_one {d : Int} (h0 : 1 ≤ d) (h1 : d ≤ 100) : (ovK d 99 1 * d) % 101 = 1 := by
  obtain ⟨D, rfl⟩ := Int.eq_ofNat_of_zero_le (show 0 ≤ d by omega)
  exact inv_tab ⟨D, by omega⟩ (fun e => by have := congrArg Fin.val e; simp at this; omega)
/-- what division gives, multiplied again -/
theorem ov_mul {m d : Int} (h0 : 1 ≤ d) (h1 : d ≤ 100) : (ov m d * d) % 101 = m % 101 := by
  unfold ov
  rw [Int.mul_emod, ovK_mul, ← Int.mul_emod, Int.mul_assoc, Int.mul_emod, inv_one h0 h1, Int.mul_one, Int.emod_emod_of_dvd _ (Int.dvd_refl 101)]
theorem ov_zero (m : Int) : ov m 0 = 0 := by unfold ov ovK; simp
/-- 101 is a prime number -/
theorem cancel {x d : Int} (h0 : 1 ≤ d) (h1 : d ≤ 100) (h : (x * d) % 101 = 0) : x % 101 = 0 := by
  have h2 : (x * d * ovK d 99 1) % 101 = 0 := by rw [Int.mul_emod, h]; simp
  rw [Int.mul_assoc, Int.mul_comm d, Int.mul_emod, inv_one h0 h1, Int.mul_one, Int.emod_emod_of_dvd _ (Int.dvd_refl 101)] at h2
  exact h2
theorem ov_only {m d x : Int} (h0 : 1 ≤ d) (h1 : d ≤ 100) : (x * d - m) % 101 = 0 ↔ (x - ov m d) % 101 = 0 := by
  have hm := ov_mul (m := m) h0 h1
  constructor
  · intro h
    refine cancel h0 h1 ?_
    rw [Int.sub_mul]
    omega
  · intro h
    have h2 : ((x - ov m d) * d) % 101 = 0 := by rw [Int.mul_emod, h]; simp
    rw [Int.sub_mul] at h2
    omega

/-! ### what lacks -/
def lkS (xs : List Int) (c : Int × Int) : Int := (c.1 - (chk xs).1) % 101
def lkW (xs : List Int) (c : Int × Int) : Int := (c.2 - (chk xs).2) % 101
theorem lk_rng (xs : List Int) (c : Int × Int) : (0 ≤ lkS xs c ∧ lkS xs c ≤ 100) ∧ (0 ≤ lkW xs c ∧ lkW xs c ≤ 100) := by unfold lkS lkW; omega
theorem lk_zero {xs : List Int} {c : Int × Int} (hc : ckV c = true) : (lkS xs c = 0 ∧ lkW xs c = 0) ↔ chk xs = c := by
  have h := chk_rng xs
  unfold ckV at hc h
  rw [Bool.and_eq_true, inB_iff, inB_iff] at hc h
  unfold lkS lkW
  constructor
  · intro ⟨h1, h2⟩
    apply Prod.ext <;> omega
  · intro e
    rw [e]
    omega
/-- the value that column k would have, from what lacks -/
theorem mendA_lk (xs : List Int) (c : Int × Int) (k : Nat) : mendA xs c.1 k = (xs.getD k 0 % 101 + lkS xs c) % 101 := by unfold mendA lkS; omega
theorem six_cases {a : Nat} (ha : a < 6) : a = 0 ∨ a = 1 ∨ a = 2 ∨ a = 3 ∨ a = 4 ∨ a = 5 := by omega
/-- whether a change of column k leads to c -/
theorem mend_iff {xs : List Int} {c : Int × Int} (hc : ckV c = true) {k : Nat} (hk : k < xs.length) (h6 : k < 6) :
    chk (xs.set k (mendA xs c.1 k)) = c ↔ (((k : Int) + 1) * lkS xs c - lkW xs c) % 101 = 0 := by
  have hc' := hc
  unfold ckV at hc'
  rw [Bool.and_eq_true, inB_iff, inB_iff] at hc'
  have e1 : (chk (xs.set k (mendA xs c.1 k))).1 = (sS xs + (mendA xs c.1 k - xs.getD k 0)) % 101 := by unfold chk; simp only; rw [sS_set hk]
  have e2 : (chk (xs.set k (mendA xs c.1 k))).2 = (wS 0 xs + ((k : Int) + 1) * (mendA xs c.1 k - xs.getD k 0)) % 101 := by unfold chk; simp only; rw [wS_set0 hk]
  rw [mendA_lk] at e1 e2
  rw [mendA_lk]
  have hS : lkS xs c = (c.1 - sS xs % 101) % 101 := rfl
  have hW : lkW xs c = (c.2 - wS 0 xs % 101) % 101 := rfl
  generalize lkS xs c = s at *
  generalize lkW xs c = t at *
  generalize xs.getD k 0 = x at *
  generalize sS xs = S at *
  generalize wS 0 xs = W at *
  constructor
  · intro e
    rw [e] at e1 e2
    rcases six_cases h6 with rfl | rfl | rfl | rfl | rfl | rfl <;> omega
  · intro e
    apply Prod.ext
    · rw [e1]; omega
    · rw [e2]
      rcases six_cases h6 with rfl | rfl | rfl | rfl | rfl | rfl <;> omega
/-- the place that the program finds -/
def mdA (xs : List Int) (c : Int × Int) : Int := ov (lkW xs c) (lkS xs c) - 1
theorem mdA_rng (xs : List Int) (c : Int × Int) : -1 ≤ mdA xs c ∧ mdA xs c ≤ 99 := by
  have := lk_rng xs c
  have := ov_rng (m := lkW xs c) (d := lkS xs c) this.2.1 this.2.2
  unfold mdA
  omega
theorem mendT_iff {xs : List Int} {c : Int × Int} (hx : colV xs = true) (hc : ckV c = true) (hne : chk xs ≠ c) {k : Nat} (hk : k < xs.length) :
    mendT xs c k = true ↔ (k : Int) = mdA xs c ∧ mendA xs c.1 k ≤ 99 := by
  have h6 := (colV_iff.1 hx).2.2
  have hl := lk_rng xs c
  have hr := mdA_rng xs c
  unfold mendT
  rw [Bool.and_eq_true, decide_eq_true_eq, decide_eq_true_eq, mend_iff hc hk (by omega)]
  by_cases h0 : lkS xs c = 0
  · have hw : lkW xs c ≠ 0 := fun e => hne ((lk_zero hc).1 ⟨h0, e⟩)
    have hz : mdA xs c = -1 := by unfold mdA; rw [h0, ov_zero]; rfl
    rw [h0, hz]
    constructor
    · intro ⟨_, h⟩; simp at h; omega
    · intro ⟨h, _⟩; omega
  · rw [ov_only (by omega) (by omega)]
    unfold mdA at hr ⊢
    constructor
    · intro ⟨h1, h2⟩; exact ⟨by omega, h1⟩
    · intro ⟨h1, h2⟩; exact ⟨h2, by omega⟩
/-- what the program finds is what the model finds -/
theorem mendF_yes {xs : List Int} {c : Int × Int} (hx : colV xs = true) (hc : ckV c = true) (hne : chk xs ≠ c) {k : Nat} (hk : k < xs.length) (he : mdA xs c = k) (hv : mendA xs c.1 k ≤ 99) : mendF xs c = some k := by
  unfold mendF
  refine find_range_some hk (fun j hj => ?_) ((mendT_iff hx hc hne hk).2 ⟨he.symm, hv⟩)
  rw [Bool.eq_false_iff]
  intro h
  have := ((mendT_iff hx hc hne (by omega)).1 h).1
  omega
theorem mendF_no {xs : List Int} {c : Int × Int} (hx : colV xs = true) (hc : ckV c = true) (hne : chk xs ≠ c) (he : ∀ k : Nat, k < xs.length → mdA xs c = k → 99 < mendA xs c.1 k) : mendF xs c = none := by
  unfold mendF
  refine find_range_none (fun j hj => ?_)
  rw [Bool.eq_false_iff]
  intro h
  have h2 := (mendT_iff hx hc hne hj).1 h
  have := he j hj h2.1.symm
  omega

/-! ### filling -/
def flB (xs : List Int) (a b : Nat) (c : Int × Int) : Int :=
  ov ((lkW xs c - lkS xs c * (((a : Int) + 1) % 101) % 101) % 101) ((((b : Int) + 1) % 101 - ((a : Int) + 1) % 101) % 101)
theorem flB_rng (xs : List Int) (a b : Nat) (c : Int × Int) : 0 ≤ flB xs a b c ∧ flB xs a b c ≤ 100 := by
  unfold flB
  exact ov_rng (by omega) (by omega)
/-- the two values that the program finds -/
def flV (xs : List Int) (a b : Nat) (c : Int × Int) : Int := (xs.getD a 0 % 101 + (lkS xs c - flB xs a b c) % 101) % 101
def flO (xs : List Int) (a b : Nat) (c : Int × Int) : Int := (xs.getD b 0 % 101 + flB xs a b c) % 101
theorem fl_rng (xs : List Int) (a b : Nat) (c : Int × Int) : (0 ≤ flV xs a b c ∧ flV xs a b c ≤ 100) ∧ (0 ≤ flO xs a b c ∧ flO xs a b c ≤ 100) := by unfold flV flO; omega
theorem fillX_ab (xs : List Int) {a b : Nat} (hab : a ≠ b) (v u : Int) : (fillX xs a b v).set b u = (xs.set a v).set b u := by
  unfold fillX
  apply List.ext_getElem?
  intro i
  simp only [List.getElem?_set, List.length_set]
  by_cases h1 : b = i
  · subst h1; simp
  · simp [h1]
theorem fillX_sS {xs : List Int} {a b : Nat} (ha : a < xs.length) (hb : b < xs.length) (hab : a ≠ b) (v : Int) : sS (fillX xs a b v) = sS xs + (v - xs.getD a 0) - xs.getD b 0 := by
  unfold fillX
  rw [sS_set (by rw [List.length_set]; exact ha), sS_set hb, getD_set_ne (fun e => hab e.symm)]
  omega
theorem fillO_eq {xs : List Int} {a b : Nat} (ha : a < xs.length) (hb : b < xs.length) (hab : a ≠ b) (c : Int × Int) (v : Int) :
    fillO xs a b c.1 v = (xs.getD b 0 + lkS xs c - (v - xs.getD a 0)) % 101 := by
  unfold fillO lkS chk
  simp only
  rw [fillX_sS ha hb hab]
  omega
theorem mul_emod_r (a b : Int) : a * (b % 101) % 101 = a * b % 101 := by rw [Int.mul_emod, Int.emod_emod_of_dvd _ (Int.dvd_refl 101), ← Int.mul_emod]
theorem fill_key (a b d k s t q : Int) : ((a + 1) * d + (b + 1) * (s - d + 101 * k) - t) + (d - (s - q)) * (b - a) - (q * (b - a) - (t - s * (a + 1))) = 101 * ((b + 1) * k) := by
  simp only [Int.add_mul, Int.sub_mul, Int.mul_add, Int.mul_sub, Int.one_mul, Int.mul_comm d, Int.mul_comm s, Int.mul_comm q, Int.mul_left_comm b]
  omega
theorem fill_core {a b : Nat} (ha : a < 6) (hb : b < 6) (hab : a ≠ b) {d e s t q : Int} (h1 : (d + e - s) % 101 = 0) (hB : (q * ((b : Int) - a)) % 101 = (t - s * ((a : Int) + 1)) % 101) :
    (((a : Int) + 1) * d + ((b : Int) + 1) * e - t) % 101 = 0 ↔ (d - (s - q)) % 101 = 0 := by
  obtain ⟨k, hk⟩ : ∃ k, e = s - d + 101 * k := ⟨(d + e - s) / 101, by omega⟩
  subst hk
  have key := fill_key a b d k s t q
  have h2 : ((d - (s - q)) * ((b : Int) - a)) % 101 = 0 ↔ (d - (s - q)) % 101 = 0 := by
    constructor
    · intro h
      rw [← mul_emod_r] at h
      exact cancel (d := ((b : Int) - a) % 101) (by omega) (by omega) h
    · intro h
      rw [Int.mul_emod, h]; simp
  rw [← h2]
  generalize ((a : Int) + 1) * d = M at *
  generalize ((b : Int) + 1) * (s - d + 101 * k) = P at *
  generalize (d - (s - q)) * ((b : Int) - a) = X at *
  generalize q * ((b : Int) - a) = Y at *
  generalize s * ((a : Int) + 1) = Z at *
  generalize ((b : Int) + 1) * k = U at *
  clear h1
  omega
theorem fill_iff {xs : List Int} {c : Int × Int} (hc : ckV c = true) {a b : Nat} (ha : a < xs.length) (hb : b < xs.length) (h6 : xs.length ≤ 6) (hab : a ≠ b) (v : Int) :
    chk (fillR xs a b c.1 v) = c ↔ (v - xs.getD a 0 - (lkS xs c - flB xs a b c)) % 101 = 0 := by
  have hc' := hc
  unfold ckV at hc'
  rw [Bool.and_eq_true, inB_iff, inB_iff] at hc'
  have hb' : b < (xs.set a v).length := by rw [List.length_set]; exact hb
  have e0 : fillR xs a b c.1 v = (xs.set a v).set b (fillO xs a b c.1 v) := by unfold fillR; exact fillX_ab xs hab _ _
  have e1 : (chk (fillR xs a b c.1 v)).1 = (sS xs + (v - xs.getD a 0) + (fillO xs a b c.1 v - xs.getD b 0)) % 101 := by
    rw [e0]; unfold chk; simp only; rw [sS_set hb', sS_set ha, getD_set_ne hab]
  have e2 : (chk (fillR xs a b c.1 v)).2 = (wS 0 xs + ((a : Int) + 1) * (v - xs.getD a 0) + ((b : Int) + 1) * (fillO xs a b c.1 v - xs.getD b 0)) % 101 := by
    rw [e0]; unfold chk; simp only; rw [wS_set0 hb', wS_set0 ha, getD_set_ne hab]
  rw [fillO_eq ha hb hab] at e1 e2
  have hB : (flB xs a b c * ((b : Int) - a)) % 101 = (lkW xs c - lkS xs c * ((a : Int) + 1)) % 101 := by
    rw [← mul_emod_r]
    have hd : (((b : Int) + 1) % 101 - ((a : Int) + 1) % 101) % 101 = ((b : Int) - a) % 101 := by omega
    unfold flB
    rw [hd, ov_mul (by omega) (by omega)]
    rw [show ((a : Int) + 1) % 101 = (a : Int) + 1 by omega]
    generalize lkS xs c * ((a : Int) + 1) = m
    omega
  have hF := fill_core (a := a) (b := b) (by omega) (by omega) hab (d := v - xs.getD a 0) (e := (xs.getD b 0 + lkS xs c - (v - xs.getD a 0)) % 101 - xs.getD b 0) (by omega) hB
  rw [← hF]
  have hS : lkS xs c = (c.1 - sS xs % 101) % 101 := rfl
  have hW : lkW xs c = (c.2 - wS 0 xs % 101) % 101 := rfl
  have e3 : chk (fillR xs a b c.1 v) = c ↔ (chk (fillR xs a b c.1 v)).1 = c.1 ∧ (chk (fillR xs a b c.1 v)).2 = c.2 := ⟨fun e => by rw [e]; exact ⟨rfl, rfl⟩, fun ⟨p, q⟩ => Prod.ext p q⟩
  rw [e3, e1, e2]
  clear hF hB e3 e1 e2 e0
  generalize ((a : Int) + 1) * (v - xs.getD a 0) = M
  generalize ((b : Int) + 1) * ((xs.getD b 0 + lkS xs c - (v - xs.getD a 0)) % 101 - xs.getD b 0) = P
  omega
/-- what the program fills in is what the model finds -/
theorem fillF_yes {xs : List Int} {c : Int × Int} (hx : colV xs = true) (hc : ckV c = true) {a b : Nat} (ha : a < xs.length) (hb : b < xs.length) (hab : a ≠ b) (hv : flV xs a b c ≤ 99) (ho : flO xs a b c ≤ 99) :
    fillF xs a b c = some (flV xs a b c).toNat ∧ fillR xs a b c.1 ((flV xs a b c).toNat : Nat) = (xs.set a (flV xs a b c)).set b (flO xs a b c) := by
  have h6 := (colV_iff.1 hx).2.2
  have hr := fl_rng xs a b c
  obtain ⟨V, hV⟩ := Int.eq_ofNat_of_zero_le hr.1.1
  have hq := flB_rng xs a b c
  have hra := colV_at hx ha
  have hrb := colV_at hx hb
  have hl := lk_rng xs c
  have e2 : ∀ v : Int, fillO xs a b c.1 v = (xs.getD b 0 + lkS xs c - (v - xs.getD a 0)) % 101 := fun v => fillO_eq ha hb hab c v
  have hO : fillO xs a b c.1 (flV xs a b c) = flO xs a b c := by
    rw [e2]; unfold flO flV; omega
  have hR : fillR xs a b c.1 (flV xs a b c) = (xs.set a (flV xs a b c)).set b (flO xs a b c) := by
    unfold fillR; rw [fillX_ab xs hab, hO]
  rw [hV, Int.toNat_natCast, ← hV]
  refine ⟨?_, hR⟩
  unfold fillF
  refine find_range_some (by omega) (fun j hj => ?_) ?_
  · unfold fillT
    rw [Bool.eq_false_iff]
    intro h
    rw [Bool.and_eq_true, decide_eq_true_eq, decide_eq_true_eq, fill_iff hc ha hb h6 hab] at h
    have h2 := h.2
    unfold flV at hV
    omega
  · unfold fillT
    rw [Bool.and_eq_true, decide_eq_true_eq, decide_eq_true_eq, fill_iff hc ha hb h6 hab, ← hV, hO]
    refine ⟨ho, ?_⟩
    unfold flV
    omega
theorem fillF_no {xs : List Int} {c : Int × Int} (hx : colV xs = true) (hc : ckV c = true) {a b : Nat} (ha : a < xs.length) (hb : b < xs.length) (hab : a ≠ b) (h : 99 < flV xs a b c ∨ 99 < flO xs a b c) : fillF xs a b c = none := by
  have h6 := (colV_iff.1 hx).2.2
  have hra := colV_at hx ha
  have hrb := colV_at hx hb
  have hq := flB_rng xs a b c
  have hl := lk_rng xs c
  unfold fillF
  refine find_range_none (fun j hj => ?_)
  unfold fillT
  rw [Bool.eq_false_iff]
  intro h1
  rw [Bool.and_eq_true, decide_eq_true_eq, decide_eq_true_eq, fill_iff hc ha hb h6 hab, fillO_eq ha hb hab] at h1
  unfold flV flO at h
  omega
end Go.Proofs.Ytldbcenipahkfaa
