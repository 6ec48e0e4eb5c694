/-
  Plain mathematics of layers: valid, read, written over, folded, and what differs between states.
-/
import Derived.Test.YtapfbkjgmfmepabExtM
namespace Go.Proofs.Ytapfbkjgmfmepab
open Go.RowKit
set_option linter.unusedVariables false
set_option maxRecDepth 100000

/-- a layer: blocks and their values -/
abbrev Ly := List (Int × Int)
def lyV (l : Int) : Ly → Bool
  | [] => true
  | e :: r => inB e.1 0 11 && inB e.2 0 99 && decide (l < e.1) && lyV e.1 r
def layV (p : Ly) : Bool := lyV (-1) p
def laysV (ls : List Ly) : Bool := ls.all layV && inB ls.length 1 5
def findL : Ly → Int → Int
  | [], _ => -1
  | e :: r, x => if e.1 = x then e.2 else findL r x
/-- the value of a block in the first n layers -/
def readN (ls : List Ly) (b : Int) : Nat → Int
  | 0 => 0
  | n + 1 => if 0 ≤ findL (ls.getD n []) b then findL (ls.getD n []) b else readN ls b n
def ovr (low top : Ly) (b : Int) : Int := if findL top b < 0 then findL low b else findL top b
def overN (low top : Ly) : Nat → Ly
  | 0 => []
  | k + 1 => overN low top k ++ (if 0 ≤ ovr low top k then [(((k : Nat) : Int), ovr low top k)] else [])
def overL (low top : Ly) : Ly := overN low top 12
def diffN (ls : List Ly) (a b : Nat) : Nat → List Int
  | 0 => []
  | k + 1 => diffN ls a b k ++ (if readN ls k a = readN ls k b then [] else [((k : Nat) : Int)])

theorem lyV_cons {l : Int} {e : Int × Int} {r : Ly} : lyV l (e :: r) = true ↔ (0 ≤ e.1 ∧ e.1 ≤ 11) ∧ (0 ≤ e.2 ∧ e.2 ≤ 99) ∧ l < e.1 ∧ lyV e.1 r = true := by
  simp only [lyV, Bool.and_eq_true, inB_iff, decide_eq_true_eq, and_assoc]
theorem lyV_mem {p : Ly} : ∀ {l : Int}, lyV l p = true → ∀ e ∈ p, l < e.1 ∧ (0 ≤ e.1 ∧ e.1 ≤ 11) ∧ (0 ≤ e.2 ∧ e.2 ≤ 99) := by
  induction p with
  | nil => intro l _ e he; cases he
  | cons x r ih =>
    intro l h e he
    obtain ⟨h1, h2, h3, h4⟩ := lyV_cons.1 h
    rcases List.mem_cons.1 he with rfl | he
    · exact ⟨h3, h1, h2⟩
    · have := ih h4 e he
      exact ⟨by omega, this.2⟩
theorem lyV_append {p q : Ly} : ∀ {l : Int}, lyV l (p ++ q) = (lyV l p && lyV (p.foldl (fun _ e => e.1) l) q) := by
  induction p with
  | nil => intro l; simp [lyV]
  | cons x r ih => intro l; simp only [List.cons_append, lyV, ih, List.foldl_cons, Bool.and_assoc]
/-- the block of the last one of the first k, or l -/
def prevL (l : Int) (p : Ly) : Nat → Int
  | 0 => l
  | k + 1 => (p.getD k (0, 0)).1
theorem lyV_step {p : Ly} {k : Nat} {e : Int × Int} (he : p[k]? = some e) {l : Int} : lyV l (p.drop k) = (inB e.1 0 11 && inB e.2 0 99 && decide (l < e.1) && lyV e.1 (p.drop (k + 1))) := by
  have hl : k < p.length := (List.getElem?_eq_some_iff.1 he).1
  have e2 : p[k] = e := (List.getElem?_eq_some_iff.1 he).2
  rw [List.drop_eq_getElem_cons hl, e2]
  rfl
theorem layV_len {p : Ly} (h : layV p = true) : p.length ≤ 12 := by
  have key : ∀ (p : Ly) (l : Int), lyV l p = true → (p.length : Int) ≤ 11 - l ∨ p = [] := by
    intro p
    induction p with
    | nil => intro l _; exact .inr rfl
    | cons x r ih =>
      intro l h
      obtain ⟨h1, h2, h3, h4⟩ := lyV_cons.1 h
      rcases ih x.1 h4 with h5 | rfl
      · left; simp only [List.length_cons]; omega
      · left; simp only [List.length_cons, List.length_nil]; omega
  rcases key p (-1) h with h5 | rfl
  · omega
  · simp
theorem findL_no {p : Ly} {l : Int} (h : lyV l p = true) {x : Int} (hx : x ≤ l) : findL p x = -1 := by
  induction p generalizing l with
  | nil => rfl
  | cons e r ih =>
    obtain ⟨h1, h2, h3, h4⟩ := lyV_cons.1 h
    unfold findL
    rw [if_neg (by omega)]
    exact ih h4 (by omega)
theorem findL_rng {p : Ly} {l : Int} (h : lyV l p = true) (x : Int) : findL p x = -1 ∨ (0 ≤ findL p x ∧ findL p x ≤ 99) := by
  induction p generalizing l with
  | nil => exact .inl rfl
  | cons e r ih =>
    obtain ⟨h1, h2, h3, h4⟩ := lyV_cons.1 h
    unfold findL
    by_cases he : e.1 = x
    · rw [if_pos he]; exact .inr h2
    · rw [if_neg he]; exact ih h4
theorem findL_mem {p : Ly} {x : Int} (h : 0 ≤ findL p x) : (x, findL p x) ∈ p := by
  induction p with
  | nil => unfold findL at h; omega
  | cons e r ih =>
    unfold findL at h ⊢
    by_cases he : e.1 = x
    · rw [if_pos he] at h ⊢
      rw [← he]
      exact List.mem_cons_self ..
    · rw [if_neg he] at h ⊢
      exact List.mem_cons_of_mem _ (ih h)
theorem findL_of_mem {p : Ly} {l : Int} (h : lyV l p = true) {e : Int × Int} (he : e ∈ p) : findL p e.1 = e.2 := by
  induction p generalizing l with
  | nil => cases he
  | cons y r ih =>
    obtain ⟨h1, h2, h3, h4⟩ := lyV_cons.1 h
    unfold findL
    rcases List.mem_cons.1 he with rfl | he
    · rw [if_pos rfl]
    · have := (lyV_mem h4 e he).1
      rw [if_neg (by omega)]
      exact ih h4 he
def hasL : Ly → Int → Bool
  | [], _ => false
  | e :: r, x => decide (e.1 = x) || hasL r x
theorem hasL_iff {p : Ly} {x : Int} : hasL p x = true ↔ ∃ e ∈ p, e.1 = x := by
  induction p with
  | nil => simp [hasL]
  | cons e r ih => simp [hasL, ih]
theorem findL_append (p q : Ly) (x : Int) : findL (p ++ q) x = if hasL p x = true then findL p x else findL q x := by
  induction p with
  | nil => rfl
  | cons e r ih =>
    by_cases he : e.1 = x
    · simp [findL, hasL, he]
    · simp [findL, hasL, he, ih]
theorem findL_take {p : Ly} {k : Nat} {e : Int × Int} (he : p[k]? = some e) (x : Int) : findL (p.take (k + 1)) x = if hasL (p.take k) x = true then findL (p.take k) x else (if e.1 = x then e.2 else -1) := by
  rw [List.take_add_one, he]
  show findL (p.take k ++ [e]) x = _
  rw [findL_append]
  rfl
theorem lyV_take {p : Ly} {l : Int} (h : lyV l p = true) (k : Nat) : lyV l (p.take k) = true := by
  have : lyV l (p.take k ++ p.drop k) = true := by rw [List.take_append_drop]; exact h
  rw [lyV_append, Bool.and_eq_true] at this
  exact this.1
/-- in a valid layer no earlier entry has the block -/
theorem lyV_first {p : Ly} {l : Int} (h : lyV l p = true) {k : Nat} {e : Int × Int} (he : p[k]? = some e) : hasL (p.take k) e.1 = false := by
  induction p generalizing l k with
  | nil => simp at he
  | cons y r ih =>
    obtain ⟨h1, h2, h3, h4⟩ := lyV_cons.1 h
    cases k with
    | zero => rfl
    | succ k =>
      simp only [List.getElem?_cons_succ] at he
      have hm := (lyV_mem h4 e (List.mem_of_getElem? he)).1
      rw [List.take_succ_cons]
      unfold hasL
      rw [ih h4 he, decide_eq_false (by omega)]
      rfl

theorem laysV_iff {ls : List Ly} : laysV ls = true ↔ (∀ p ∈ ls, layV p = true) ∧ 1 ≤ ls.length ∧ ls.length ≤ 5 := by
  unfold laysV
  rw [Bool.and_eq_true, inB_iff, List.all_eq_true]
  constructor
  · rintro ⟨h1, h2⟩; exact ⟨h1, by omega⟩
  · rintro ⟨h1, h2⟩; exact ⟨h1, by omega⟩
theorem laysV_getD {ls : List Ly} (h : laysV ls = true) (n : Nat) : layV (ls.getD n []) = true := by
  by_cases hn : n < ls.length
  · have e : ls.getD n [] = ls[n] := by simp [List.getD, hn]
    rw [e]
    exact (laysV_iff.1 h).1 _ (List.getElem_mem hn)
  · have e : ls.getD n [] = [] := by simp [List.getD, List.getElem?_eq_none (show ls.length ≤ n by omega)]
    rw [e]; rfl
theorem readN_rng {ls : List Ly} (h : laysV ls = true) (b : Int) : ∀ n, 0 ≤ readN ls b n ∧ readN ls b n ≤ 99
  | 0 => by unfold readN; omega
  | n + 1 => by
    unfold readN
    rcases findL_rng (laysV_getD h n) b with h1 | h1
    · rw [if_neg (by omega)]; exact readN_rng h b n
    · rw [if_pos h1.1]; exact h1
theorem readN_congr {ls ms : List Ly} {b : Int} {n : Nat} (h : ∀ i, i < n → ls.getD i [] = ms.getD i []) : readN ls b n = readN ms b n := by
  induction n with
  | zero => rfl
  | succ n ih =>
    unfold readN
    rw [h n (Nat.lt_succ_self n), ih fun i hi => h i (by omega)]

theorem overN_mem {low top : Ly} : ∀ {k : Nat} {e : Int × Int}, e ∈ overN low top k → 0 ≤ e.1 ∧ e.1 < k ∧ e.2 = ovr low top e.1 ∧ 0 ≤ e.2
  | 0, e, h => by cases h
  | k + 1, e, h => by
    unfold overN at h
    rcases List.mem_append.1 h with h | h
    · have := overN_mem h; exact ⟨this.1, by omega, this.2.2⟩
    · by_cases h0 : 0 ≤ ovr low top k
      · rw [if_pos h0] at h
        simp at h
        subst h
        exact ⟨by simp, by simp; omega, rfl, h0⟩
      · rw [if_neg h0] at h; cases h
theorem overN_valid {low top : Ly} (h : ∀ b, ovr low top b ≤ 99) : ∀ {k : Nat}, k ≤ 12 → lyV (-1) (overN low top k) = true ∧ (overN low top k).foldl (fun _ e => e.1) (-1 : Int) < k
  | 0, _ => ⟨rfl, by show (-1 : Int) < ((0 : Nat) : Int); omega⟩
  | k + 1, hk => by
    obtain ⟨h1, h2⟩ := overN_valid (low := low) (top := top) h (k := k) (by omega)
    unfold overN
    by_cases h0 : 0 ≤ ovr low top k
    · rw [if_pos h0, lyV_append, h1, List.foldl_append]
      refine ⟨?_, ?_⟩
      · rw [Bool.true_and]
        exact lyV_cons.2 ⟨⟨by simp, by simp; omega⟩, ⟨h0, h _⟩, h2, rfl⟩
      · show ((k : Nat) : Int) < ((k + 1 : Nat) : Int); omega
    · rw [if_neg h0, List.append_nil]
      exact ⟨h1, by omega⟩
theorem ovr_le {low top : Ly} {l m : Int} (h1 : lyV l low = true) (h2 : lyV m top = true) (b : Int) : ovr low top b ≤ 99 := by
  unfold ovr
  split
  · rcases findL_rng h1 b with h | h <;> omega
  · rcases findL_rng h2 b with h | h <;> omega
theorem overL_valid {low top : Ly} (h1 : layV low = true) (h2 : layV top = true) : layV (overL low top) = true := (overN_valid (ovr_le h1 h2) (Nat.le_refl 12)).1
theorem findL_none {p : Ly} {x : Int} (h : ∀ e ∈ p, e.1 ≠ x) : findL p x = -1 := by
  induction p with
  | nil => rfl
  | cons e r ih =>
    unfold findL
    rw [if_neg (h e (List.mem_cons_self ..))]
    exact ih fun d hd => h d (List.mem_cons_of_mem _ hd)
theorem overN_find {low top : Ly} {b : Nat} : ∀ {k : Nat}, b < k → findL (overN low top k) b = if 0 ≤ ovr low top b then ovr low top b else -1
  | 0, h => by omega
  | k + 1, h => by
    unfold overN
    rw [findL_append]
    by_cases hb : b = k
    · subst hb
      have hno : ¬ hasL (overN low top b) ((b : Nat) : Int) = true := by
        rw [hasL_iff]
        rintro ⟨e, he, e2⟩
        have := overN_mem he
        omega
      rw [if_neg hno]
      by_cases h0 : 0 ≤ ovr low top b
      · rw [if_pos h0, if_pos h0]; simp [findL]
      · rw [if_neg h0, if_neg h0]; rfl
    · have hi := overN_find (low := low) (top := top) (b := b) (k := k) (by omega)
      by_cases hyes : hasL (overN low top k) ((b : Nat) : Int) = true
      · rw [if_pos hyes]; exact hi
      · rw [if_neg hyes]
        have h1 : findL (overN low top k) b = -1 := findL_none fun e he e2 => hyes (hasL_iff.2 ⟨e, he, e2⟩)
        rw [h1] at hi
        rw [← hi]
        refine findL_none fun e he => ?_
        by_cases h0 : 0 ≤ ovr low top k
        · rw [if_pos h0] at he
          simp at he
          subst he
          simp; omega
        · rw [if_neg h0] at he; cases he
theorem overL_find {low top : Ly} (h1 : layV low = true) (h2 : layV top = true) {b : Nat} (hb : b < 12) : findL (overL low top) b = ovr low top b := by
  unfold overL
  rw [overN_find hb]
  split
  · rfl
  · rename_i h0
    unfold ovr at h0 ⊢
    split at h0
    · rename_i h3
      rw [if_pos h3]
      rcases findL_rng h1 b with h | h <;> omega
    · rename_i h3
      omega

theorem diffN_mem {ls : List Ly} {a b : Nat} {x : Int} : ∀ {k : Nat}, x ∈ diffN ls a b k ↔ ∃ c : Nat, c < k ∧ x = (c : Int) ∧ readN ls c a ≠ readN ls c b
  | 0 => ⟨fun h => (by cases h), fun ⟨c, h, _⟩ => (by omega)⟩
  | k + 1 => by
    unfold diffN
    rw [List.mem_append, diffN_mem]
    constructor
    · rintro (⟨c, h1, h2, h3⟩ | h)
      · exact ⟨c, by omega, h2, h3⟩
      · by_cases he : readN ls k a = readN ls k b
        · rw [if_pos he] at h; cases h
        · rw [if_neg he] at h
          simp at h
          exact ⟨k, by omega, h, he⟩
    · rintro ⟨c, h1, h2, h3⟩
      by_cases hc : c = k
      · subst hc
        right
        rw [if_neg h3, h2]
        simp
      · exact .inl ⟨c, by omega, h2, h3⟩
theorem diffN_le (ls : List Ly) (a b : Nat) : ∀ k, (diffN ls a b k).length ≤ k
  | 0 => by simp [diffN]
  | k + 1 => by
    unfold diffN
    have := diffN_le ls a b k
    rw [List.length_append]
    split
    · simp; omega
    · simp; omega
theorem diffN_congr {ls ms : List Ly} {a b c d : Nat} : ∀ {k : Nat}, (∀ i : Nat, i < k → readN ls i a = readN ms i c ∧ readN ls i b = readN ms i d) → diffN ls a b k = diffN ms c d k
  | 0, _ => rfl
  | k + 1, h => by
    unfold diffN
    rw [diffN_congr fun i hi => h i (by omega), (h k (Nat.lt_succ_self k)).1, (h k (Nat.lt_succ_self k)).2]
theorem diffN_symm (ls : List Ly) (a b : Nat) : ∀ k, diffN ls a b k = diffN ls b a k
  | 0 => rfl
  | k + 1 => by
    unfold diffN
    rw [diffN_symm ls a b k]
    by_cases h : readN ls k a = readN ls k b
    · rw [if_pos h, if_pos h.symm]
    · rw [if_neg h, if_neg fun e => h e.symm]
theorem diffN_same (ls : List Ly) (a : Nat) : ∀ k, diffN ls a a k = []
  | 0 => rfl
  | k + 1 => by unfold diffN; rw [diffN_same ls a k, if_pos rfl]; rfl

/-! ### what the functions return -/
def rdL (ls : List Ly) (b : Int) : Int := if laysV ls && inB b 0 11 then readN ls b ls.length else -1
def wrV (ls : List Ly) (ps : Ly) : Bool := laysV ls && layV ps
def wrL (ls : List Ly) (ps : Ly) : List Ly := if wrV ls ps then ls.take (ls.length - 1) ++ [overL (ls.getD (ls.length - 1) []) ps] else []
def snV (ls : List Ly) : Bool := laysV ls && !decide (ls.length = 5)
def snL (ls : List Ly) : List Ly := if snV ls then ls ++ [[]] else []
def foV (ls : List Ly) (at_ : Int) : Bool := laysV ls && inB at_ 0 ((ls.length : Int) - 2)
def foL (ls : List Ly) (at_ : Int) : List Ly := if foV ls at_ then ls.take at_.toNat ++ [overL (ls.getD at_.toNat []) (ls.getD (at_.toNat + 1) [])] ++ ls.drop (at_.toNat + 2) else []
def dfV (ls : List Ly) (a b : Int) : Bool := laysV ls && inB a 0 ls.length && inB b 0 ls.length
def dfL (ls : List Ly) (a b : Int) : List Int := if dfV ls a b then diffN ls a.toNat b.toNat 12 else []
end Go.Proofs.Ytapfbkjgmfmepab
