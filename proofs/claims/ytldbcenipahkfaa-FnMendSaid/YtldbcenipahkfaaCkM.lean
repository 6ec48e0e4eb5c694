/-
  Plain mathematics of columns: checks modulo 101, what one or two changes do to them, mending, filling.
-/
import Derived.Test.YtldbcenipahkfaaRng
import Derived.Test.YtldbcenipahkfaaSum
namespace Go.Proofs.Ytldbcenipahkfaa
open Go.RowKit
set_option linter.unusedVariables false
set_option maxRecDepth 100000

def colV (xs : List Int) : Bool := xs.all (fun x => inB x 0 99) && inB xs.length 1 6
def sS : List Int → Int
  | [] => 0
  | x :: r => x + sS r
def wS (i : Nat) : List Int → Int
  | [] => 0
  | x :: r => ((i : Int) + 1) * x + wS (i + 1) r
/-- the checks -/
def chk (xs : List Int) : Int × Int := (sS xs % 101, wS 0 xs % 101)
def ckV (c : Int × Int) : Bool := inB c.1 0 100 && inB c.2 0 100

theorem colV_iff {xs : List Int} : colV xs = true ↔ (∀ x ∈ xs, 0 ≤ x ∧ x ≤ 99) ∧ 1 ≤ xs.length ∧ xs.length ≤ 6 := by
  unfold colV
  rw [Bool.and_eq_true, inB_iff, List.all_eq_true]
  constructor
  · rintro ⟨h1, h2⟩; exact ⟨fun x hx => inB_iff.1 (h1 x hx), by omega⟩
  · rintro ⟨h1, h2⟩; exact ⟨fun x hx => inB_iff.2 (h1 x hx), by omega⟩
theorem colV_at {xs : List Int} (h : colV xs = true) {k : Nat} (hk : k < xs.length) : 0 ≤ xs.getD k 0 ∧ xs.getD k 0 ≤ 99 := by
  have e : xs.getD k 0 = xs[k] := by simp [List.getD, hk]
  rw [e]
  exact (colV_iff.1 h).1 _ (List.getElem_mem hk)
theorem colV_set {xs : List Int} (h : colV xs = true) (k : Nat) {v : Int} (h0 : 0 ≤ v) (h1 : v ≤ 99) : colV (xs.set k v) = true := by
  obtain ⟨h2, h3⟩ := colV_iff.1 h
  refine colV_iff.2 ⟨fun x hx => ?_, by rw [List.length_set]; exact h3⟩
  rcases List.mem_or_eq_of_mem_set hx with hx | rfl
  · exact h2 x hx
  · exact ⟨h0, h1⟩
theorem chk_rng (xs : List Int) : ckV (chk xs) = true := by
  unfold ckV chk
  rw [Bool.and_eq_true, inB_iff, inB_iff]
  omega

/-! ### loops -/
theorem sS_append (xs ys : List Int) : sS (xs ++ ys) = sS xs + sS ys := by
  induction xs with
  | nil => simp [sS]
  | cons x r ih => simp only [List.cons_append, sS, ih]; omega
theorem wS_append (xs ys : List Int) : ∀ i, wS i (xs ++ ys) = wS i xs + wS (i + xs.length) ys := by
  induction xs with
  | nil => intro i; simp [wS]
  | cons x r ih =>
    intro i
    simp only [List.cons_append, wS, ih, List.length_cons]
    rw [show i + 1 + r.length = i + (r.length + 1) by omega]
    omega
theorem sS_take {xs : List Int} {k : Nat} (hk : k < xs.length) : sS (xs.take (k + 1)) = sS (xs.take k) + xs.getD k 0 := by
  have e : xs.getD k 0 = xs[k] := by simp [List.getD, hk]
  rw [List.take_succ_eq_append_getElem hk, sS_append, e]
  simp [sS]
theorem wS_take {xs : List Int} {k : Nat} (hk : k < xs.length) : wS 0 (xs.take (k + 1)) = wS 0 (xs.take k) + ((k : Int) + 1) * xs.getD k 0 := by
  have e : xs.getD k 0 = xs[k] := by simp [List.getD, hk]
  have hl : (xs.take k).length = k := by rw [List.length_take]; omega
  rw [List.take_succ_eq_append_getElem hk, wS_append, e, hl, Nat.zero_add]
  simp [wS]
/-- the checks of the first k, and one more -/
theorem chk_step {xs : List Int} {k : Nat} (hk : k < xs.length) :
    chk (xs.take (k + 1)) = (((chk (xs.take k)).1 + xs.getD k 0) % 101, ((chk (xs.take k)).2 + ((k : Int) + 1) * xs.getD k 0) % 101) := by
  unfold chk
  rw [sS_take hk, wS_take hk]
  simp only [Prod.mk.injEq]
  constructor <;> omega
/-- sums of valid columns are small -/
theorem sums_small {xs : List Int} (h : ∀ x ∈ xs, 0 ≤ x ∧ x ≤ 99) : 0 ≤ sS xs ∧ sS xs ≤ 99 * xs.length := by
  induction xs with
  | nil => simp [sS]
  | cons x r ih =>
    have h1 := h x (List.mem_cons_self ..)
    have h2 := ih fun y hy => h y (List.mem_cons_of_mem _ hy)
    simp only [sS, List.length_cons]
    omega

/-! ### one change -/
theorem sS_set {xs : List Int} {k : Nat} (hk : k < xs.length) (v : Int) : sS (xs.set k v) = sS xs + (v - xs.getD k 0) := by
  induction xs generalizing k with
  | nil => simp at hk
  | cons x r ih =>
    cases k with
    | zero => simp only [List.set_cons_zero, sS, List.getD_cons_zero]; omega
    | succ k =>
      simp only [List.length_cons] at hk
      simp only [List.set_cons_succ, sS, List.getD_cons_succ, ih (by omega : k < r.length)]
      omega
theorem wS_set {xs : List Int} {k : Nat} (hk : k < xs.length) (v : Int) : ∀ i, wS i (xs.set k v) = wS i xs + ((i : Int) + k + 1) * (v - xs.getD k 0) := by
  induction xs generalizing k with
  | nil => simp at hk
  | cons x r ih =>
    intro i
    cases k with
    | zero =>
      simp only [List.set_cons_zero, wS, List.getD_cons_zero]
      rw [show (i : Int) + ((0 : Nat) : Int) + 1 = (i : Int) + 1 by omega, Int.mul_sub]
      omega
    | succ k =>
      simp only [List.length_cons] at hk
      simp only [List.set_cons_succ, wS, List.getD_cons_succ, ih (by omega : k < r.length)]
      rw [show ((i + 1 : Nat) : Int) + (k : Int) + 1 = (i : Int) + ((k + 1 : Nat) : Int) + 1 by omega]
      omega
theorem wS_set0 {xs : List Int} {k : Nat} (hk : k < xs.length) (v : Int) : wS 0 (xs.set k v) = wS 0 xs + ((k : Int) + 1) * (v - xs.getD k 0) := by
  have := wS_set hk v 0
  rwa [show ((0 : Nat) : Int) + (k : Int) + 1 = (k : Int) + 1 by omega] at this
/-- one changed column is noticed -/
theorem chk_one {xs : List Int} {k : Nat} (hk : k < xs.length) {v : Int} (hd : v ≠ xs.getD k 0) (h1 : -100 ≤ v - xs.getD k 0) (h2 : v - xs.getD k 0 ≤ 100) : chk (xs.set k v) ≠ chk xs := by
  intro e
  unfold chk at e
  injection e with e1 e2
  rw [sS_set hk] at e1
  omega
theorem getD_set_ne {xs : List Int} {a b : Nat} (h : a ≠ b) (v : Int) : (xs.set a v).getD b 0 = xs.getD b 0 := by simp [List.getD, List.getElem?_set_ne h]
theorem getD_set_eq {xs : List Int} {a : Nat} (h : a < xs.length) (v : Int) : (xs.set a v).getD a 0 = v := by simp [List.getD, h]
/-- two sums that are 0 modulo 101: nothing is changed -/
theorem two_zero {a b : Nat} (ha : a < 6) (hb : b < 6) (hab : a ≠ b) {d e : Int} (hd : -100 ≤ d ∧ d ≤ 100) (h1 : (d + e) % 101 = 0) (h2 : (((a : Int) + 1) * d + ((b : Int) + 1) * e) % 101 = 0) : d = 0 := by
  have hA : a = 0 ∨ a = 1 ∨ a = 2 ∨ a = 3 ∨ a = 4 ∨ a = 5 := by omega
  have hB : b = 0 ∨ b = 1 ∨ b = 2 ∨ b = 3 ∨ b = 4 ∨ b = 5 := by omega
  rcases hA with rfl | rfl | rfl | rfl | rfl | rfl <;> rcases hB with rfl | rfl | rfl | rfl | rfl | rfl <;> first | (exact absurd rfl hab) | (simp only [Int.natCast_ofNat_eq_ofNat, Nat.cast_ofNat_Int] at h2; omega) | (simp at h2; omega) | omega
theorem chk_two {xs : List Int} (hx : xs.length ≤ 6) {a b : Nat} (ha : a < xs.length) (hb : b < xs.length) (hab : a ≠ b) {v u : Int} (hd : -100 ≤ v - xs.getD a 0 ∧ v - xs.getD a 0 ≤ 100) (hne : v ≠ xs.getD a 0) :
    chk ((xs.set a v).set b u) ≠ chk xs := by
  intro e
  unfold chk at e
  injection e with e1 e2
  have hb' : b < (xs.set a v).length := by rw [List.length_set]; exact hb
  rw [sS_set hb', sS_set ha, getD_set_ne hab] at e1
  rw [wS_set0 hb', wS_set0 ha, getD_set_ne hab] at e2
  have := two_zero (a := a) (b := b) (by omega) (by omega) hab (d := v - xs.getD a 0) (e := u - xs.getD b 0) hd (by omega) (by omega)
  omega

/-! ### mending -/
/-- the value that column k would have -/
def mendA (xs : List Int) (s : Int) (k : Nat) : Int := (xs.getD k 0 + s - (chk xs).1 + 101) % 101
def mendT (xs : List Int) (c : Int × Int) (k : Nat) : Bool := decide (mendA xs c.1 k ≤ 99) && decide (chk (xs.set k (mendA xs c.1 k)) = c)
def mendF (xs : List Int) (c : Int × Int) : Option Nat := (List.range xs.length).find? (mendT xs c)
theorem find_range_some {f : Nat → Bool} {k n : Nat} (hk : k < n) (h0 : ∀ j, j < k → f j = false) (h1 : f k = true) : (List.range n).find? f = some k := by
  rw [List.find?_eq_some_iff_append]
  refine ⟨h1, List.range k, (List.range n).drop (k + 1), ?_, fun j hj => by rw [h0 j (List.mem_range.1 hj)]; rfl⟩
  have h2 : (List.range n).take k = List.range k := by rw [List.take_range, Nat.min_eq_left (by omega)]
  have h3 : (List.range n).drop k = k :: (List.range n).drop (k + 1) := by rw [List.drop_eq_getElem_cons (by simpa using hk)]; simp
  rw [← h2, ← h3, List.take_append_drop]
theorem find_range_none {f : Nat → Bool} {n : Nat} (h0 : ∀ j, j < n → f j = false) : (List.range n).find? f = none := by
  rw [List.find?_eq_none]
  intro j hj
  rw [h0 j (List.mem_range.1 hj)]
  simp
/-- what ColumnsMend returns -/
def mendV (xs : List Int) (c : Int × Int) : Bool := colV xs && ckV c && (decide (chk xs = c) || (mendF xs c).isSome)
def mendI (xs : List Int) (c : Int × Int) : Int := if colV xs = true ∧ ckV c = true then (if chk xs = c then -1 else match mendF xs c with | some k => (k : Int) | none => 0) else 0
def mendL (xs : List Int) (c : Int × Int) : List Int := if colV xs = true ∧ ckV c = true then (if chk xs = c then xs else match mendF xs c with | some k => xs.set k (mendA xs c.1 k) | none => []) else []

/-- one wrong column is found -/
theorem mend_one {xs : List Int} (hx : colV xs = true) {k : Nat} (hk : k < xs.length) {v : Int} (hv0 : 0 ≤ v) (hv1 : v ≤ 99) (hne : v ≠ xs.getD k 0) :
    mendF (xs.set k v) (chk xs) = some k ∧ (xs.set k v).set k (mendA (xs.set k v) (chk xs).1 k) = xs := by
  have hr := colV_at hx hk
  have hn := (colV_iff.1 hx).2.2
  have hl : (xs.set k v).length = xs.length := List.length_set ..
  have ea : ∀ j, mendA (xs.set k v) (chk xs).1 j = ((xs.set k v).getD j 0 - (v - xs.getD k 0)) % 101 := by
    intro j
    unfold mendA chk
    simp only
    rw [sS_set hk]
    omega
  have ek : mendA (xs.set k v) (chk xs).1 k = xs.getD k 0 := by
    rw [ea, getD_set_eq hk]
    omega
  have es : (xs.set k v).set k (xs.getD k 0) = xs := by
    rw [List.set_set]
    apply List.ext_getElem?
    intro i
    rw [List.getElem?_set]
    by_cases hi : k = i
    · subst hi; simp [hk, List.getD]
    · rw [if_neg hi]
  refine ⟨?_, by rw [ek]; exact es⟩
  unfold mendF
  rw [hl]
  refine find_range_some hk (fun j hj => ?_) ?_
  · unfold mendT
    rcases hd : decide (mendA (xs.set k v) (chk xs).1 j ≤ 99) with _ | _
    · rfl
    · rw [Bool.true_and]
      refine decide_eq_false fun e => ?_
      have hjk : k ≠ j := by omega
      have hj' : j < (xs.set k v).length := by rw [hl]; omega
      have h9 := of_decide_eq_true hd
      have hrj := colV_at hx (show j < xs.length by omega)
      refine chk_two (xs := xs) hn hk (show j < xs.length by omega) hjk (v := v) (u := mendA (xs.set k v) (chk xs).1 j) (by omega) hne e
  · unfold mendT
    rw [ek, es, decide_eq_true (by omega), decide_eq_true rfl]
    rfl
/-- what is mended is good, and differs at just one place -/
theorem mend_good {xs : List Int} {c : Int × Int} (hx : colV xs = true) (hc : chk xs ≠ c) {k : Nat} (hf : mendF xs c = some k) :
    k < xs.length ∧ colV (xs.set k (mendA xs c.1 k)) = true ∧ chk (xs.set k (mendA xs c.1 k)) = c ∧ mendA xs c.1 k ≠ xs.getD k 0 := by
  unfold mendF at hf
  have hm := List.mem_of_find?_eq_some hf
  have ht := List.find?_some hf
  have hk : k < xs.length := List.mem_range.1 hm
  unfold mendT at ht
  rw [Bool.and_eq_true, decide_eq_true_eq, decide_eq_true_eq] at ht
  have h0 : 0 ≤ mendA xs c.1 k := by unfold mendA; omega
  refine ⟨hk, colV_set hx k h0 ht.1, ht.2, fun e => hc ?_⟩
  have h2 := ht.2
  rw [e] at h2
  rw [← h2]
  congr 1
  apply List.ext_getElem?
  intro i
  rw [List.getElem?_set]
  by_cases hi : k = i
  · subst hi; simp [hk, List.getD]
  · rw [if_neg hi]

/-! ### filling -/
/-- column a has the value v, column b none -/
def fillX (xs : List Int) (a b : Nat) (v : Int) : List Int := (xs.set b 0).set a v
def fillO (xs : List Int) (a b : Nat) (s v : Int) : Int := (s - (chk (fillX xs a b v)).1 + 101) % 101
def fillR (xs : List Int) (a b : Nat) (s v : Int) : List Int := (fillX xs a b v).set b (fillO xs a b s v)
def fillT (xs : List Int) (a b : Nat) (c : Int × Int) (v : Nat) : Bool := decide (fillO xs a b c.1 v ≤ 99) && decide (chk (fillR xs a b c.1 v) = c)
def fillF (xs : List Int) (a b : Nat) (c : Int × Int) : Option Nat := (List.range 100).find? (fillT xs a b c)
def fillW (xs : List Int) (a b : Int) (c : Int × Int) : Bool := colV xs && ckV c && inB a 0 ((xs.length : Int) - 1) && inB b 0 ((xs.length : Int) - 1) && !decide (a = b)
def fillV (xs : List Int) (a b : Int) (c : Int × Int) : Bool := fillW xs a b c && (fillF xs a.toNat b.toNat c).isSome
def fillL (xs : List Int) (a b : Int) (c : Int × Int) : List Int := if fillW xs a b c = true then (match fillF xs a.toNat b.toNat c with | some v => fillR xs a.toNat b.toNat c.1 v | none => []) else []

theorem fillX_same (xs : List Int) {a b : Nat} (hab : a ≠ b) (u w v : Int) : fillX ((xs.set a u).set b w) a b v = fillX xs a b v := by
  unfold fillX
  apply List.ext_getElem?
  intro i
  simp only [List.getElem?_set, List.length_set]
  by_cases ha : a = i
  · subst ha; simp
  · by_cases hb : b = i
    · subst hb; simp [ha]
    · simp [ha, hb]
/-- what is at lost places has no influence -/
theorem fill_same (xs : List Int) {a b : Nat} (hab : a ≠ b) (u w : Int) (c : Int × Int) : fillF ((xs.set a u).set b w) a b c = fillF xs a b c ∧ ∀ v, fillR ((xs.set a u).set b w) a b c.1 v = fillR xs a b c.1 v := by
  have hr : ∀ v, fillR ((xs.set a u).set b w) a b c.1 v = fillR xs a b c.1 v := fun v => by
    unfold fillR fillO
    rw [fillX_same xs hab]
  refine ⟨?_, hr⟩
  unfold fillF
  congr 1
  funext v
  unfold fillT
  rw [hr]
  unfold fillO
  rw [fillX_same xs hab]
theorem fillX_len (xs : List Int) (a b : Nat) (v : Int) : (fillX xs a b v).length = xs.length := by unfold fillX; simp
theorem fillX_b (xs : List Int) {a b : Nat} (hab : a ≠ b) (hb : b < xs.length) (v : Int) : (fillX xs a b v).getD b 0 = 0 := by
  unfold fillX
  rw [getD_set_ne hab, getD_set_eq hb]
theorem fillX_self (xs : List Int) {a b : Nat} (hab : a ≠ b) (ha : a < xs.length) (hb : b < xs.length) : (fillX xs a b (xs.getD a 0)).set b (xs.getD b 0) = xs := by
  unfold fillX
  apply List.ext_getElem?
  intro i
  simp only [List.getElem?_set, List.length_set]
  by_cases h1 : b = i
  · subst h1; simp [hb, List.getD]
  · by_cases h2 : a = i
    · subst h2; simp [h1, ha, List.getD]
    · simp [h1, h2]
/-- two lost columns are found -/
theorem fill_two {xs : List Int} (hx : colV xs = true) {a b : Nat} (ha : a < xs.length) (hb : b < xs.length) (hab : a ≠ b) :
    fillF xs a b (chk xs) = some (xs.getD a 0).toNat ∧ fillR xs a b (chk xs).1 ((xs.getD a 0).toNat : Nat) = xs := by
  have hra := colV_at hx ha
  have hrb := colV_at hx hb
  have hn := (colV_iff.1 hx).2.2
  obtain ⟨A, hA⟩ := Int.eq_ofNat_of_zero_le hra.1
  have hself := fillX_self xs hab ha hb
  have hO : fillO xs a b (chk xs).1 (xs.getD a 0) = xs.getD b 0 := by
    have hb' : b < (fillX xs a b (xs.getD a 0)).length := by rw [fillX_len]; exact hb
    have e := sS_set hb' (xs.getD b 0)
    rw [hself, fillX_b xs hab hb] at e
    unfold fillO chk
    simp only
    omega
  have hR : fillR xs a b (chk xs).1 (xs.getD a 0) = xs := by unfold fillR; rw [hO]; exact hself
  rw [hA, Int.toNat_natCast, ← hA]
  refine ⟨?_, hR⟩
  unfold fillF
  refine find_range_some (by omega) (fun j hj => ?_) ?_
  · unfold fillT
    rcases hd : decide (fillO xs a b (chk xs).1 j ≤ 99) with _ | _
    · rfl
    · rw [Bool.true_and]
      refine decide_eq_false fun e => ?_
      have e2 : fillR xs a b (chk xs).1 (j : Int) = ((xs.set a (j : Int))).set b (fillO xs a b (chk xs).1 j) := by
        unfold fillR fillX
        apply List.ext_getElem?
        intro i
        simp only [List.getElem?_set, List.length_set]
        by_cases h1 : b = i
        · subst h1; simp
        · simp [h1]
      rw [e2] at e
      exact chk_two (xs := xs) hn ha hb hab (v := (j : Int)) (by omega) (by omega) e
  · unfold fillT
    rw [← hA, hO, hR, decide_eq_true hrb.2, decide_eq_true rfl]
    rfl
/-- what is filled is good -/
theorem fill_good {xs : List Int} {c : Int × Int} {a b v : Nat} (hx : colV xs = true) (hf : fillF xs a b c = some v) : colV (fillR xs a b c.1 v) = true ∧ chk (fillR xs a b c.1 v) = c ∧ v < 100 := by
  unfold fillF at hf
  have hm := List.mem_of_find?_eq_some hf
  have ht := List.find?_some hf
  have hv : v < 100 := List.mem_range.1 hm
  unfold fillT at ht
  rw [Bool.and_eq_true, decide_eq_true_eq, decide_eq_true_eq] at ht
  have h0 : 0 ≤ fillO xs a b c.1 v := by unfold fillO; omega
  refine ⟨?_, ht.2, hv⟩
  unfold fillR fillX
  exact colV_set (colV_set (colV_set hx b (by omega) (by omega)) a (by omega) (by omega)) b h0 ht.1
theorem fill_else {xs : List Int} {s v : Int} {a b i : Nat} (ha : i ≠ a) (hb : i ≠ b) : (fillR xs a b s v).getD i 0 = xs.getD i 0 := by
  unfold fillR fillX
  rw [getD_set_ne (fun e => hb e.symm), getD_set_ne (fun e => ha e.symm), getD_set_ne (fun e => hb e.symm)]
theorem fillR_len (xs : List Int) (a b : Nat) (s v : Int) : (fillR xs a b s v).length = xs.length := by unfold fillR; rw [List.length_set, fillX_len]
end Go.Proofs.Ytldbcenipahkfaa
