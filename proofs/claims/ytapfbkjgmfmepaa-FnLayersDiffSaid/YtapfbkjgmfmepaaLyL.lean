/-
  Plain mathematics of layers: what the promises on layers ask.
-/
import Derived.Test.YtapfbkjgmfmepaaLyM
namespace Go.Proofs.Ytapfbkjgmfmepaa
open Go.RowKit
set_option linter.unusedVariables false
set_option maxRecDepth 100000

/-- the value so far, the first k entries of a layer seen -/
def seen (p : Ly) (b n : Int) (k : Nat) : Int := if 0 ≤ findL (p.take k) b then findL (p.take k) b else n
theorem seen_zero (p : Ly) (b n : Int) : seen p b n 0 = n := by unfold seen; simp [findL]
theorem seen_step {p : Ly} (hv : layV p = true) {k : Nat} {e : Int × Int} (he : p[k]? = some e) (b n : Int) : seen p b n (k + 1) = if e.1 = b then e.2 else seen p b n k := by
  unfold seen
  rw [findL_take he]
  by_cases hb : e.1 = b
  · subst hb
    have hm := (lyV_mem hv e (List.mem_of_getElem? he)).2.2
    rw [lyV_first hv he]
    simp [hm.1]
  · rw [if_neg hb, if_neg hb]
    by_cases hh : hasL (p.take k) b = true
    · rw [if_pos hh]
    · rw [if_neg hh, if_neg (by omega)]
      have : findL (p.take k) b = -1 := findL_none fun d hd e2 => hh (hasL_iff.2 ⟨d, hd, e2⟩)
      rw [this, if_neg (by omega)]
theorem seen_all (p : Ly) (b n : Int) : seen p b n p.length = if 0 ≤ findL p b then findL p b else n := by unfold seen; rw [List.take_length]
theorem readN_seen (ls : List Ly) (b : Int) (n : Nat) : readN ls b (n + 1) = seen (ls.getD n []) b (readN ls b n) (ls.getD n []).length := by rw [seen_all]; rfl

theorem getD_app_lt {ls ms : List Ly} {i : Nat} (h : i < ls.length) : (ls ++ ms).getD i [] = ls.getD i [] := by simp [List.getD, List.getElem?_append_left h]
theorem getD_app_eq {ls : List Ly} {p : Ly} {ms : List Ly} {i : Nat} (h : i = ls.length) : (ls ++ p :: ms).getD i [] = p := by subst h; simp [List.getD]
theorem getD_tk {ls : List Ly} {i m : Nat} (h : i < m) : (ls.take m).getD i [] = ls.getD i [] := by simp [List.getD, h]
theorem all_app {ls ms : List Ly} : (ls ++ ms).all layV = (ls.all layV && ms.all layV) := by rw [List.all_append]
theorem all_takeL {ls : List Ly} (h : ls.all layV = true) (k : Nat) : (ls.take k).all layV = true := List.all_eq_true.2 fun p hp => List.all_eq_true.1 h p (List.mem_of_mem_take hp)
theorem all_drop {ls : List Ly} (h : ls.all layV = true) (k : Nat) : (ls.drop k).all layV = true := List.all_eq_true.2 fun p hp => List.all_eq_true.1 h p (List.mem_of_mem_drop hp)
theorem laysV_all {ls : List Ly} (h : laysV ls = true) : ls.all layV = true := List.all_eq_true.2 (laysV_iff.1 h).1
theorem laysV_ofL {ls : List Ly} (h : ls.all layV = true) (h1 : 1 ≤ ls.length) (h5 : ls.length ≤ 5) : laysV ls = true := laysV_iff.2 ⟨List.all_eq_true.1 h, h1, h5⟩

/-! ### writes -/
theorem wr_length {ls : List Ly} {ps : Ly} (h : wrV ls ps = true) : (wrL ls ps).length = ls.length := by
  have h' := h
  unfold wrV at h'
  rw [Bool.and_eq_true] at h'
  have := (laysV_iff.1 h'.1).2
  unfold wrL
  rw [if_pos h, List.length_append, List.length_take, List.length_cons, List.length_nil]
  omega
theorem wr_valid {ls : List Ly} {ps : Ly} (h : wrV ls ps = true) : laysV (wrL ls ps) = true := by
  have hl := wr_length h
  have h' := h
  unfold wrV at h'
  rw [Bool.and_eq_true] at h'
  have hn := (laysV_iff.1 h'.1).2
  refine laysV_ofL ?_ (by omega) (by omega)
  unfold wrL
  rw [if_pos h, all_app, all_takeL (laysV_all h'.1)]
  simp only [List.all_cons, List.all_nil, Bool.and_true, Bool.true_and]
  exact overL_valid (laysV_getD h'.1 _) h'.2
theorem wr_take {ls : List Ly} {ps : Ly} (h : wrV ls ps = true) : (wrL ls ps).take (ls.length - 1) = ls.take (ls.length - 1) := by
  have h' := h
  unfold wrV at h'
  rw [Bool.and_eq_true] at h'
  have hn := (laysV_iff.1 h'.1).2
  unfold wrL
  rw [if_pos h, List.take_append_of_le_length (by rw [List.length_take]; omega), List.take_take, Nat.min_self]
theorem wr_read {ls : List Ly} {ps : Ly} (h : wrV ls ps = true) {b : Nat} (hb : b < 12) : readN (wrL ls ps) b ls.length = if 0 ≤ findL ps b then findL ps b else readN ls b ls.length := by
  have h' := h
  unfold wrV at h'
  rw [Bool.and_eq_true] at h'
  have hn := (laysV_iff.1 h'.1).2
  obtain ⟨m, hm⟩ : ∃ m, ls.length = m + 1 := ⟨ls.length - 1, by omega⟩
  have e1 : (wrL ls ps).getD m [] = overL (ls.getD m []) ps := by
    unfold wrL
    rw [if_pos h, hm, Nat.add_sub_cancel]
    exact getD_app_eq (by rw [List.length_take]; omega)
  have e2 : readN (wrL ls ps) b m = readN ls b m := readN_congr fun i hi => by
    unfold wrL
    rw [if_pos h, hm, Nat.add_sub_cancel, getD_app_lt (by rw [List.length_take]; omega), getD_tk hi]
  rw [hm]
  unfold readN
  rw [e1, e2, overL_find (laysV_getD h'.1 _) h'.2 hb]
  unfold ovr
  by_cases hp : 0 ≤ findL ps b
  · have hp2 : ¬ findL ps b < 0 := by omega
    simp only [if_neg hp2, if_pos hp]
  · have hp2 : findL ps b < 0 := by omega
    simp only [if_pos hp2, if_neg hp]

/-! ### snapshots -/
theorem sn_valid {ls : List Ly} (h : snV ls = true) : laysV (ls ++ [[]]) = true ∧ laysV ls = true ∧ ls.length ≤ 4 := by
  unfold snV at h
  rw [Bool.and_eq_true] at h
  have hn := (laysV_iff.1 h.1).2
  have h5 : ls.length ≠ 5 := by intro e; rw [e] at h; simp at h
  refine ⟨laysV_ofL ?_ (by simp) (by simp; omega), h.1, by omega⟩
  rw [all_app, laysV_all h.1]
  rfl
theorem sn_read (ls : List Ly) (b : Int) : readN (ls ++ [[]]) b (ls.length + 1) = readN ls b ls.length ∧ readN (ls ++ [[]]) b ls.length = readN ls b ls.length := by
  have e2 : readN (ls ++ [[]]) b ls.length = readN ls b ls.length := readN_congr fun i hi => getD_app_lt hi
  refine ⟨?_, e2⟩
  show (if 0 ≤ findL ((ls ++ [[]]).getD ls.length []) b then findL ((ls ++ [[]]).getD ls.length []) b else readN (ls ++ [[]]) b ls.length) = _
  rw [getD_app_eq rfl, e2]
  rfl
theorem sn_diff (ls : List Ly) (k : Nat) : diffN (ls ++ [[]]) ls.length (ls.length + 1) k = [] := by
  have := diffN_congr (ls := ls ++ [[]]) (ms := ls ++ [[]]) (a := ls.length) (b := ls.length + 1) (c := ls.length) (d := ls.length) (k := k) fun i hi => ⟨rfl, by rw [(sn_read ls i).1, (sn_read ls i).2]⟩
  rw [this, diffN_same]

/-- a value written into an empty layer -/
theorem kept_valid {ls : List Ly} (h : snV ls = true) {b : Nat} {v : Int} (hb : b < 12) (h0 : 0 ≤ v) (h1 : v ≤ 99) : wrV (ls ++ [[]]) [((b : Int), v)] = true := by
  unfold wrV layV
  rw [(sn_valid h).1, Bool.true_and]
  exact lyV_cons.2 ⟨by simp; omega, ⟨h0, h1⟩, by simp; omega, rfl⟩
theorem kept_take {ls : List Ly} (h : snV ls = true) {ps : Ly} (hw : wrV (ls ++ [[]]) ps = true) : (wrL (ls ++ [[]]) ps).take ls.length = ls := by
  have := wr_take hw
  rw [List.length_append, List.length_cons, List.length_nil, Nat.zero_add, Nat.add_sub_cancel] at this
  rw [this]
  simp
theorem kept_diff {ls : List Ly} (h : snV ls = true) {b : Nat} {v : Int} (hb : b < 12) (hw : wrV (ls ++ [[]]) [((b : Int), v)] = true) :
    diffN (wrL (ls ++ [[]]) [((b : Int), v)]) ls.length (ls.length + 1) 12 = [] ∨ diffN (wrL (ls ++ [[]]) [((b : Int), v)]) ls.length (ls.length + 1) 12 = [(b : Int)] := by
  have hlen : (ls ++ [[]]).length = ls.length + 1 := by simp
  have other : ∀ c : Nat, c < 12 → c ≠ b → readN (wrL (ls ++ [[]]) [((b : Int), v)]) c ls.length = readN (wrL (ls ++ [[]]) [((b : Int), v)]) c (ls.length + 1) := by
    intro c hc hne
    have e1 := wr_read hw hc
    rw [hlen] at e1
    have e2 : findL [((b : Int), v)] c = -1 := by
      unfold findL
      rw [if_neg (by show ¬ (b : Int) = (c : Int); omega)]
      rfl
    rw [e2, if_neg (by omega), (sn_read ls c).1] at e1
    rw [e1]
    refine readN_congr fun i hi => ?_
    have := kept_take h hw
    rw [← getD_tk (m := ls.length) hi, this]
  have key : ∀ k : Nat, k ≤ 12 → diffN (wrL (ls ++ [[]]) [((b : Int), v)]) ls.length (ls.length + 1) k = [] ∨ (b < k ∧ diffN (wrL (ls ++ [[]]) [((b : Int), v)]) ls.length (ls.length + 1) k = [(b : Int)]) := by
    intro k
    induction k with
    | zero => intro _; exact .inl rfl
    | succ k ih =>
      intro hk
      unfold diffN
      by_cases hkb : k = b
      · subst hkb
        rcases ih (by omega) with e | ⟨e1, _⟩
        · rw [e]
          by_cases hd : readN (wrL (ls ++ [[]]) [((k : Int), v)]) k ls.length = readN (wrL (ls ++ [[]]) [((k : Int), v)]) k (ls.length + 1)
          · rw [if_pos hd]; exact .inl rfl
          · rw [if_neg hd]; exact .inr ⟨by omega, rfl⟩
        · omega
      · rw [if_pos (other k (by omega) hkb), List.append_nil]
        rcases ih (by omega) with e | ⟨e1, e2⟩
        · exact .inl e
        · exact .inr ⟨by omega, e2⟩
  rcases key 12 (Nat.le_refl _) with e | ⟨_, e⟩
  · exact .inl e
  · exact .inr e

/-! ### folds -/
theorem fo_parts {ls : List Ly} {a : Int} (h : foV ls a = true) : ∃ k : Nat, a = (k : Int) ∧ k + 2 ≤ ls.length ∧ ls.length ≤ 5 ∧ laysV ls = true ∧ foL ls a = ls.take k ++ (overL (ls.getD k []) (ls.getD (k + 1) []) :: ls.drop (k + 2)) := by
  have h' := h
  unfold foV at h'
  rw [Bool.and_eq_true] at h'
  have hi := inB_iff.1 h'.2
  have hn := (laysV_iff.1 h'.1).2
  obtain ⟨k, rfl⟩ := Int.eq_ofNat_of_zero_le hi.1
  refine ⟨k, rfl, by omega, hn.2, h'.1, ?_⟩
  unfold foL
  rw [if_pos h, Int.toNat_natCast, List.append_assoc]
  rfl
theorem fo_valid {ls : List Ly} {a : Int} (h : foV ls a = true) : laysV (foL ls a) = true ∧ (foL ls a).length + 1 = ls.length := by
  obtain ⟨k, rfl, hk, h5, hv, e⟩ := fo_parts h
  have hl : (foL ls (k : Int)).length + 1 = ls.length := by
    rw [e, List.length_append, List.length_take, List.length_cons, List.length_drop]; omega
  refine ⟨laysV_ofL ?_ (by omega) (by omega), hl⟩
  rw [e, all_app, all_takeL (laysV_all hv), Bool.true_and, List.all_cons, all_drop (laysV_all hv), Bool.and_true]
  exact overL_valid (laysV_getD hv _) (laysV_getD hv _)
theorem fo_low {ls : List Ly} {k : Nat} (h : foV ls (k : Int) = true) (b : Int) {s : Nat} (hs : s ≤ k) : readN (foL ls (k : Int)) b s = readN ls b s := by
  obtain ⟨k', e1, hk, h5, hv, e⟩ := fo_parts h
  obtain rfl : k = k' := by omega
  refine readN_congr fun i hi => ?_
  rw [e, getD_app_lt (by rw [List.length_take]; omega), getD_tk (by omega)]
theorem fo_high {ls : List Ly} {k : Nat} (h : foV ls (k : Int) = true) {b : Nat} (hb : b < 12) (d : Nat) : readN (foL ls (k : Int)) b (k + 1 + d) = readN ls b (k + 2 + d) := by
  obtain ⟨k', e1, hk, h5, hv, e⟩ := fo_parts h
  obtain rfl : k = k' := by omega
  induction d with
  | zero =>
    show (if 0 ≤ findL ((foL ls (k : Int)).getD k []) b then findL ((foL ls (k : Int)).getD k []) b else readN (foL ls (k : Int)) b k) = (if 0 ≤ findL (ls.getD (k + 1) []) b then findL (ls.getD (k + 1) []) b else (if 0 ≤ findL (ls.getD k []) b then findL (ls.getD k []) b else readN ls b k))
    rw [fo_low h b (Nat.le_refl _)]
    have e2 : (foL ls (k : Int)).getD k [] = overL (ls.getD k []) (ls.getD (k + 1) []) := by rw [e]; exact getD_app_eq (by rw [List.length_take]; omega)
    rw [e2, overL_find (laysV_getD hv _) (laysV_getD hv _) hb]
    unfold ovr
    by_cases hp : 0 ≤ findL (ls.getD (k + 1) []) b
    · have hp2 : ¬ findL (ls.getD (k + 1) []) b < 0 := by omega
      simp only [if_neg hp2, if_pos hp]
    · have hp2 : findL (ls.getD (k + 1) []) b < 0 := by omega
      simp only [if_pos hp2, if_neg hp]
  | succ d ih =>
    rw [← Nat.add_assoc, ← Nat.add_assoc]
    unfold readN
    rw [ih]
    have e2 : (foL ls (k : Int)).getD (k + 1 + d) [] = ls.getD (k + 2 + d) [] := by
      rw [e]
      have hl : (ls.take k).length = k := by rw [List.length_take]; omega
      simp only [List.getD]
      rw [List.getElem?_append_right (by omega), hl, show k + 1 + d - k = d + 1 by omega, List.getElem?_cons_succ, List.getElem?_drop]
    rw [e2]
theorem fo_read {ls : List Ly} {k : Nat} (h : foV ls (k : Int) = true) {b : Nat} (hb : b < 12) : readN (foL ls (k : Int)) b (foL ls (k : Int)).length = readN ls b ls.length := by
  obtain ⟨k', e1, hk, h5, hv, e⟩ := fo_parts h
  obtain rfl : k = k' := by omega
  have hl := (fo_valid h).2
  have := fo_high h hb (ls.length - (k + 2))
  rw [show k + 2 + (ls.length - (k + 2)) = ls.length by omega, show k + 1 + (ls.length - (k + 2)) = (foL ls (k : Int)).length by omega] at this
  exact this
/-- the number of a state behind the fold -/
def foS (k s : Nat) : Nat := if k < s then s - 1 else s
theorem fo_state {ls : List Ly} {k : Nat} (h : foV ls (k : Int) = true) {b : Nat} (hb : b < 12) {s : Nat} (hs : s ≠ k + 1) : readN (foL ls (k : Int)) b (foS k s) = readN ls b s := by
  unfold foS
  by_cases hk : k < s
  · rw [if_pos hk]
    have := fo_high h hb (s - (k + 2))
    rwa [show k + 2 + (s - (k + 2)) = s by omega, show k + 1 + (s - (k + 2)) = s - 1 by omega] at this
  · rw [if_neg hk]
    exact fo_low h b (by omega)
theorem fo_diff {ls : List Ly} {k : Nat} (h : foV ls (k : Int) = true) {a b : Nat} (ha : a ≠ k + 1) (hb : b ≠ k + 1) : diffN (foL ls (k : Int)) (foS k a) (foS k b) 12 = diffN ls a b 12 :=
  diffN_congr fun i hi => ⟨fo_state h hi ha, fo_state h hi hb⟩

/-! ### differences -/
theorem diff_some {ls : List Ly} {c : Int} {a b : Nat} (h : readN ls c a ≠ readN ls c b) : ∃ k, min a b ≤ k ∧ k < max a b ∧ 0 ≤ findL (ls.getD k []) c := by
  have key : ∀ (d a : Nat), readN ls c a ≠ readN ls c (a + d) → ∃ k, a ≤ k ∧ k < a + d ∧ 0 ≤ findL (ls.getD k []) c := by
    intro d
    induction d with
    | zero => intro a h; exact absurd rfl h
    | succ d ih =>
      intro a h
      by_cases hf : 0 ≤ findL (ls.getD (a + d) []) c
      · exact ⟨a + d, by omega, by omega, hf⟩
      · rw [← Nat.add_assoc] at h
        unfold readN at h
        rw [if_neg hf] at h
        have h2 : readN ls c a ≠ readN ls c (a + d) := by
          intro e
          apply h
          rw [← e]
          cases a with
          | zero => rfl
          | succ a => rfl
        obtain ⟨k, h1, h3, h4⟩ := ih a h2
        exact ⟨k, h1, by omega, h4⟩
  rcases Nat.le_total a b with hab | hab
  · obtain ⟨k, h1, h2, h3⟩ := key (b - a) a (by rw [show a + (b - a) = b by omega]; exact h)
    exact ⟨k, by omega, by omega, h3⟩
  · obtain ⟨k, h1, h2, h3⟩ := key (a - b) b (by rw [show b + (a - b) = a by omega]; exact fun e => h e.symm)
    exact ⟨k, by omega, by omega, h3⟩
theorem find_has {p : Ly} {c : Int} (h : 0 ≤ findL p c) : hasL p c = true := hasL_iff.2 ⟨_, findL_mem h, rfl⟩

/-! ### parts -/
theorem part_without {ls : List Ly} (h : laysV ls = true) {k : Nat} (hk : k < ls.length) : laysV (ls.take k ++ ls.drop (k + 1)) = decide (1 < ls.length) := by
  have hn := (laysV_iff.1 h).2
  have hl : (ls.take k ++ ls.drop (k + 1)).length = ls.length - 1 := by rw [List.length_append, List.length_take, List.length_drop]; omega
  unfold laysV
  rw [all_app, all_takeL (laysV_all h), all_drop (laysV_all h), hl, Bool.true_and, Bool.true_and, Bool.eq_iff_iff, inB_iff, decide_eq_true_eq]
  omega
theorem part_bad {ls : List Ly} {k : Nat} (hk : k < ls.length) {p : Ly} (hp : layV p = false) : laysV (ls.set k p) = false := by
  unfold laysV
  have : (ls.set k p).all layV = false := by
    rw [List.all_eq_false]
    exact ⟨p, List.mem_iff_getElem?.2 ⟨k, by rw [List.getElem?_set]; simp [hk]⟩, by rw [hp]; simp⟩
  rw [this]
  rfl
end Go.Proofs.Ytapfbkjgmfmepaa
