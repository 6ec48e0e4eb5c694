/-
  Plain mathematics of values put into a layer one after the other, and of layers in the order of a tree.
-/
import Derived.Test.YtapfbkjgmfmepabLyM
namespace Go.Proofs.Ytapfbkjgmfmepab
open Go.RowKit
set_option linter.unusedVariables false
set_option maxRecDepth 100000

/-- a value put into a layer -/
def insL (b v : Int) : Ly → Ly
  | [] => [(b, v)]
  | e :: r => if b < e.1 then (b, v) :: e :: r else if e.1 < b then e :: insL b v r else (b, v) :: r
theorem insL_left {p q : Ly} {e : Int × Int} {b v : Int} (h : b < e.1) : insL b v (p ++ e :: q) = insL b v p ++ e :: q := by
  induction p with
  | nil => simp [insL, h]
  | cons d r ih =>
    rw [List.cons_append]
    unfold insL
    split
    · rfl
    · split
      · rw [ih]; rfl
      · rfl
theorem insL_right {p q : Ly} {e : Int × Int} {b v : Int} (h : e.1 < b) (hp : ∀ d ∈ p, d.1 < e.1) : insL b v (p ++ e :: q) = p ++ e :: insL b v q := by
  induction p with
  | nil =>
    show (if b < e.1 then (b, v) :: e :: q else if e.1 < b then e :: insL b v q else (b, v) :: q) = _
    rw [if_neg (by omega), if_pos h]; rfl
  | cons d r ih =>
    have := hp d (List.mem_cons_self ..)
    show (if b < d.1 then (b, v) :: d :: (r ++ e :: q) else if d.1 < b then d :: insL b v (r ++ e :: q) else (b, v) :: (r ++ e :: q)) = _
    rw [if_neg (by omega), if_pos (by omega), ih fun x hx => hp x (List.mem_cons_of_mem _ hx)]
    rfl
theorem insL_same {p q : Ly} {e : Int × Int} {b v : Int} (h : e.1 = b) (hp : ∀ d ∈ p, d.1 < e.1) : insL b v (p ++ e :: q) = p ++ (b, v) :: q := by
  induction p with
  | nil => rw [List.nil_append]; unfold insL; rw [if_neg (by omega), if_neg (by omega)]; rfl
  | cons d r ih =>
    have := hp d (List.mem_cons_self ..)
    rw [List.cons_append]
    unfold insL
    rw [if_neg (by omega), if_pos (by omega), ih fun x hx => hp x (List.mem_cons_of_mem _ hx)]
    rfl
theorem insL_valid {p : Ly} {b v : Int} : ∀ {l : Int}, lyV l p = true → l < b → (0 ≤ b ∧ b ≤ 11) → (0 ≤ v ∧ v ≤ 99) → lyV l (insL b v p) = true := by
  induction p with
  | nil => intro l _ hl hb hv; exact lyV_cons.2 ⟨hb, hv, hl, rfl⟩
  | cons e r ih =>
    intro l h hl hb hv
    obtain ⟨h1, h2, h3, h4⟩ := lyV_cons.1 h
    unfold insL
    split
    · exact lyV_cons.2 ⟨hb, hv, hl, lyV_cons.2 ⟨h1, h2, by assumption, h4⟩⟩
    · split
      · exact lyV_cons.2 ⟨h1, h2, h3, ih h4 (by assumption) hb hv⟩
      · obtain rfl : e.1 = b := by omega
        exact lyV_cons.2 ⟨hb, hv, hl, h4⟩
theorem insL_find {p : Ly} {b v x : Int} : ∀ {l : Int}, lyV l p = true → findL (insL b v p) x = if b = x then v else findL p x := by
  induction p with
  | nil => intro l _; rfl
  | cons e r ih =>
    intro l h
    obtain ⟨h1, h2, h3, h4⟩ := lyV_cons.1 h
    unfold insL
    split
    · rfl
    · split
      · show (if e.1 = x then e.2 else findL (insL b v r) x) = _
        rw [ih h4]
        by_cases hb : b = x
        · subst hb; rw [if_pos rfl, if_pos rfl, if_neg (by omega)]
        · rw [if_neg hb, if_neg hb]; rfl
      · obtain rfl : e.1 = b := by omega
        show (if e.1 = x then v else findL r x) = if e.1 = x then v else (if e.1 = x then e.2 else findL r x)
        by_cases hb : e.1 = x
        · rw [if_pos hb, if_pos hb]
        · rw [if_neg hb, if_neg hb, if_neg hb]
theorem insL_len (b v : Int) (p : Ly) : (insL b v p).length ≤ p.length + 1 := by
  induction p with
  | nil => exact Nat.le_refl _
  | cons e r ih =>
    unfold insL
    split
    · exact Nat.le_refl _
    · split
      · simp only [List.length_cons]; omega
      · simp
/-- all values of a layer put into another one -/
def putsL (p q : Ly) : Ly := q.foldl (fun r e => insL e.1 e.2 r) p
theorem putsL_nil (p : Ly) : putsL p [] = p := rfl
theorem putsL_snoc (p q : Ly) (e : Int × Int) : putsL p (q ++ [e]) = insL e.1 e.2 (putsL p q) := by unfold putsL; rw [List.foldl_append]; rfl
theorem putsL_step {p q : Ly} {k : Nat} {e : Int × Int} (he : q[k]? = some e) : putsL p (q.take (k + 1)) = insL e.1 e.2 (putsL p (q.take k)) := by
  rw [List.take_add_one, he]
  exact putsL_snoc p _ e
theorem putsL_valid {p q : Ly} (hp : layV p = true) {l : Int} (hq : lyV l q = true) (hl : -1 ≤ l) : layV (putsL p q) = true := by
  induction q generalizing p l with
  | nil => exact hp
  | cons e r ih =>
    obtain ⟨h1, h2, h3, h4⟩ := lyV_cons.1 hq
    exact ih (insL_valid hp (by omega) h1 h2) h4 (by omega)
theorem putsL_find {p q : Ly} {x : Int} (hp : layV p = true) {l : Int} (hq : lyV l q = true) (hl : -1 ≤ l) : findL (putsL p q) x = ovr p q x := by
  induction q generalizing p l with
  | nil => rfl
  | cons e r ih =>
    obtain ⟨h1, h2, h3, h4⟩ := lyV_cons.1 hq
    have h5 := ih (p := insL e.1 e.2 p) (insL_valid hp (by omega) h1 h2) h4 (by omega)
    refine h5.trans ?_
    unfold ovr
    rw [insL_find hp]
    by_cases he : e.1 = x
    · subst he
      rw [findL_no h4 (Int.le_refl _), if_pos (by decide), if_pos rfl]
      unfold findL
      rw [if_pos rfl, if_neg (by omega)]
    · rw [if_neg he]
      have e1 : findL (e :: r) x = findL r x := by
        show (if e.1 = x then e.2 else findL r x) = _
        rw [if_neg he]
      rw [e1]
theorem ly_ext {p q : Ly} {l : Int} (hp : lyV l p = true) (hq : lyV l q = true) (h : ∀ x, findL p x = findL q x) : p = q := by
  induction p generalizing q l with
  | nil =>
    cases q with
    | nil => rfl
    | cons d r =>
      obtain ⟨h1, h2, h3, h4⟩ := lyV_cons.1 hq
      have := h d.1
      unfold findL at this
      rw [if_pos rfl] at this
      omega
  | cons e s ih =>
    obtain ⟨h1, h2, h3, h4⟩ := lyV_cons.1 hp
    cases q with
    | nil =>
      have := h e.1
      unfold findL at this
      rw [if_pos rfl] at this
      omega
    | cons d r =>
      obtain ⟨g1, g2, g3, g4⟩ := lyV_cons.1 hq
      have p1 : findL (e :: s) e.1 = e.2 := by unfold findL; rw [if_pos rfl]
      have q1 : findL (d :: r) d.1 = d.2 := by unfold findL; rw [if_pos rfl]
      have heq : e.1 = d.1 := by
        rcases Int.lt_trichotomy e.1 d.1 with hlt | heq | hgt
        · have e0 := h e.1
          rw [p1, findL_no (l := e.1) (lyV_cons.2 ⟨g1, g2, hlt, g4⟩) (Int.le_refl _)] at e0
          omega
        · exact heq
        · have e0 := h d.1
          rw [q1, findL_no (l := d.1) (lyV_cons.2 ⟨h1, h2, hgt, h4⟩) (Int.le_refl _)] at e0
          omega
      have hv : e.2 = d.2 := by
        have e0 := h e.1
        rw [p1, heq, q1] at e0
        exact e0
      have hed : e = d := Prod.ext heq hv
      subst hed
      congr 1
      refine ih h4 g4 fun x => ?_
      by_cases hx : e.1 = x
      · rw [findL_no h4 (by omega), findL_no g4 (by omega)]
      · have e0 := h x
        unfold findL at e0
        rw [if_neg hx, if_neg hx] at e0
        exact e0
theorem findL_out {p : Ly} {l : Int} (h : lyV l p = true) {x : Int} (hx : x < 0 ∨ 11 < x) : findL p x = -1 :=
  findL_none fun e he => by have := (lyV_mem h e he).2.1; omega
theorem putsL_over {p q : Ly} (hp : layV p = true) (hq : layV q = true) : putsL p q = overL p q := by
  refine ly_ext (putsL_valid hp hq (Int.le_refl _)) (overL_valid hp hq) fun x => ?_
  by_cases hx : x < 0 ∨ 11 < x
  · rw [findL_out (putsL_valid hp hq (Int.le_refl _)) hx, findL_out (overL_valid hp hq) hx]
  · obtain ⟨n, rfl⟩ : ∃ n : Nat, x = (n : Int) := ⟨x.toNat, by omega⟩
    rw [putsL_find hp hq (Int.le_refl _), overL_find hp hq (by omega)]

/-- a layer with a value in its middle -/
theorem lyV_mid {p q : Ly} {e : Int × Int} {l : Int} (h : lyV l (p ++ e :: q) = true) : lyV l p = true ∧ l < e.1 ∧ (∀ d ∈ p, d.1 < e.1) ∧ (0 ≤ e.1 ∧ e.1 ≤ 11) ∧ (0 ≤ e.2 ∧ e.2 ≤ 99) ∧ lyV e.1 q = true := by
  induction p generalizing l with
  | nil =>
    obtain ⟨h1, h2, h3, h4⟩ := lyV_cons.1 h
    exact ⟨rfl, h3, by simp, h1, h2, h4⟩
  | cons d r ih =>
    obtain ⟨h1, h2, h3, h4⟩ := lyV_cons.1 h
    obtain ⟨k1, k2, k3, k4, k5, k6⟩ := ih h4
    refine ⟨lyV_cons.2 ⟨h1, h2, h3, k1⟩, by omega, fun x hx => ?_, k4, k5, k6⟩
    rcases List.mem_cons.1 hx with rfl | hx
    · exact k2
    · exact k3 x hx
theorem lyV_low {p : Ly} {l m : Int} (h : lyV l p = true) (hm : m ≤ l) : lyV m p = true := by
  cases p with
  | nil => rfl
  | cons e r =>
    obtain ⟨h1, h2, h3, h4⟩ := lyV_cons.1 h
    exact lyV_cons.2 ⟨h1, h2, by omega, h4⟩
theorem findL_midL {p q : Ly} {e : Int × Int} {l x : Int} (h : lyV l (p ++ e :: q) = true) (hx : x < e.1) : findL (p ++ e :: q) x = findL p x := by
  obtain ⟨k1, k2, k3, k4, k5, k6⟩ := lyV_mid h
  rw [findL_append]
  split
  · rfl
  · rename_i hn
    have e0 : findL p x = -1 := findL_none fun d hd e2 => hn (hasL_iff.2 ⟨d, hd, e2⟩)
    rw [e0]
    exact findL_no (l := x) (lyV_cons.2 ⟨k4, k5, hx, k6⟩) (Int.le_refl _)
theorem findL_midR {p q : Ly} {e : Int × Int} {l x : Int} (h : lyV l (p ++ e :: q) = true) (hx : e.1 < x) : findL (p ++ e :: q) x = findL q x := by
  obtain ⟨k1, k2, k3, k4, k5, k6⟩ := lyV_mid h
  rw [findL_append, if_neg (fun hh => by obtain ⟨d, hd, e2⟩ := hasL_iff.1 hh; have := k3 d hd; omega)]
  show (if e.1 = x then e.2 else findL q x) = _
  rw [if_neg (by omega)]
theorem findL_mid {p q : Ly} {e : Int × Int} {l : Int} (h : lyV l (p ++ e :: q) = true) : findL (p ++ e :: q) e.1 = e.2 := findL_of_mem h (by simp)
end Go.Proofs.Ytapfbkjgmfmepab
