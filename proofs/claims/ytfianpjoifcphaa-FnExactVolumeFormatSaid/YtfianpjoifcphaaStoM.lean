/-
  Plain mathematics of stores: validity, what a put, a get and a keep tell.
-/
import Derived.Test.YtfianpjoifcphaaObj
import Derived.Test.YtfianpjoifcphaaSum
namespace Go.Proofs.Ytfianpjoifcphaa
open Go.RowKit
set_option linter.unusedVariables false
set_option maxRecDepth 100000

def valOk (v : Int) : Bool := inB v 1 99
def valsOk (vs : List Int) : Bool := vs.all valOk && inB vs.length 1 6
def obOk (o : Int × List Int) : Bool := inB o.1 1 999 && valsOk o.2
def ascF_StoM : Int → Sto → Bool
  | _, [] => true
  | last, o :: r => inB o.1 (last + 1) 999 && valsOk o.2 && ascF_StoM o.1 r
/-- a store is valid -/
def stV (s : Sto) : Bool := ascF_StoM 0 s && decide (s.length ≤ 6)
def Asc (s : Sto) : Prop := s.Pairwise (fun a b => a.1 < b.1)

theorem obOk_iff {o : Int × List Int} : obOk o = true ↔ 1 ≤ o.1 ∧ o.1 ≤ 999 ∧ valsOk o.2 = true := by
  unfold obOk
  rw [Bool.and_eq_true, inB_iff, and_assoc]
theorem valsOk_len {vs : List Int} (h : valsOk vs = true) : 1 ≤ vs.length ∧ vs.length ≤ 6 := by
  unfold valsOk at h
  rw [Bool.and_eq_true, inB_iff] at h
  omega
theorem ascF_iff (s : Sto) : ∀ last : Int, 0 ≤ last → (ascF_StoM last s = true ↔ (∀ o ∈ s, last < o.1 ∧ obOk o = true) ∧ Asc s) := by
  induction s with
  | nil => intro last h; simp [ascF_StoM, Asc]
  | cons o r ih =>
    intro last h
    unfold ascF_StoM
    rw [Bool.and_eq_true, Bool.and_eq_true, inB_iff]
    constructor
    · rintro ⟨⟨⟨h1, h2⟩, h3⟩, h4⟩
      obtain ⟨h5, h6⟩ := (ih o.1 (by omega)).1 h4
      refine ⟨fun p hp => ?_, List.pairwise_cons.2 ⟨fun p hp => (h5 p hp).1, h6⟩⟩
      rcases List.mem_cons.1 hp with rfl | hp
      · exact ⟨by omega, obOk_iff.2 ⟨by omega, h2, h3⟩⟩
      · exact ⟨by have := (h5 p hp).1; omega, (h5 p hp).2⟩
    · rintro ⟨h1, h2⟩
      obtain ⟨h3, h4⟩ := List.pairwise_cons.1 h2
      have ho := h1 o (List.mem_cons_self ..)
      obtain ⟨a, b, c⟩ := obOk_iff.1 ho.2
      exact ⟨⟨⟨by omega, b⟩, c⟩, (ih o.1 (by omega)).2 ⟨fun p hp => ⟨h3 p hp, (h1 p (List.mem_cons_of_mem _ hp)).2⟩, h4⟩⟩
theorem stV_iff {s : Sto} : stV s = true ↔ (∀ o ∈ s, obOk o = true) ∧ Asc s ∧ s.length ≤ 6 := by
  unfold stV
  rw [Bool.and_eq_true, ascF_iff s 0 (by omega), decide_eq_true_eq, and_assoc]
  constructor
  · rintro ⟨h1, h2, h3⟩; exact ⟨fun o ho => (h1 o ho).2, h2, h3⟩
  · rintro ⟨h1, h2, h3⟩; exact ⟨fun o ho => ⟨by have := (obOk_iff.1 (h1 o ho)).1; omega, h1 o ho⟩, h2, h3⟩
theorem stV_nil : stV [] = true := rfl
theorem stV_sub {s t : Sto} (h : stV s = true) (hs : t.Sublist s) : stV t = true := by
  obtain ⟨h1, h2, h3⟩ := stV_iff.1 h
  exact stV_iff.2 ⟨fun o ho => h1 o (hs.subset ho), h2.sublist hs, Nat.le_trans hs.length_le h3⟩

/-! ### looking an object up -/
def hasS (s : Sto) (id : Int) : Bool := s.any (fun o => o.1 == id)
def valsAt (s : Sto) (id : Int) : List Int := ((s.find? (fun o => o.1 == id)).map (·.2)).getD []
/-- the index of an object, from k on, or -1 -/
def findF : Nat → Sto → Int → Int
  | _, [], _ => -1
  | k, o :: r, id => if o.1 = id then k else findF (k + 1) r id

theorem hasS_iff {s : Sto} {id : Int} : hasS s id = true ↔ ∃ o ∈ s, o.1 = id := by unfold hasS; simp
theorem hasS_no {s : Sto} {id : Int} : hasS s id = false ↔ ∀ o ∈ s, o.1 ≠ id := by unfold hasS; simp
theorem findF_step {s : Sto} {k : Nat} {o : Int × List Int} (h : s[k]? = some o) (id : Int) : findF k (s.drop k) id = if o.1 = id then (k : Int) else findF (k + 1) (s.drop (k + 1)) id := by
  have hl : k < s.length := (List.getElem?_eq_some_iff.1 h).1
  have e : s[k] = o := (List.getElem?_eq_some_iff.1 h).2
  rw [List.drop_eq_getElem_cons hl, e]
  rfl
theorem findF_no (s : Sto) (id : Int) : ∀ k : Nat, hasS s id = false → findF k s id = -1 := by
  induction s with
  | nil => intro k h; rfl
  | cons o r ih =>
    intro k h
    unfold hasS at h
    simp only [List.any_cons, Bool.or_eq_false_iff] at h
    unfold findF
    rw [if_neg (by simpa using h.1)]
    exact ih _ h.2
theorem findF_yes (s : Sto) (id : Int) : ∀ k : Nat, hasS s id = true → ∃ (i : Nat) (o : Int × List Int), findF k s id = ((k + i : Nat) : Int) ∧ s[i]? = some o ∧ o.1 = id ∧ valsAt s id = o.2 := by
  induction s with
  | nil => intro k h; cases h
  | cons o r ih =>
    intro k h
    by_cases ho : o.1 = id
    · exact ⟨0, o, by unfold findF; rw [if_pos ho]; rfl, rfl, ho, by unfold valsAt; rw [List.find?_cons_of_pos (by simpa using ho)]; rfl⟩
    · have h' : hasS r id = true := by
        unfold hasS at h ⊢
        simp only [List.any_cons, Bool.or_eq_true] at h
        rcases h with h | h
        · exact absurd (by simpa using h) ho
        · exact h
      obtain ⟨i, p, e1, e2, e3, e4⟩ := ih (k + 1) h'
      refine ⟨i + 1, p, ?_, by simpa using e2, e3, ?_⟩
      · unfold findF
        rw [if_neg ho, e1]
        congr 1
        omega
      · unfold valsAt at e4 ⊢
        rw [List.find?_cons_of_neg (by simpa using ho)]
        exact e4
theorem valsAt_mem {s : Sto} (ha : Asc s) {o : Int × List Int} (h : o ∈ s) : valsAt s o.1 = o.2 := by
  induction s with
  | nil => cases h
  | cons p r ih =>
    obtain ⟨h1, h2⟩ := List.pairwise_cons.1 ha
    unfold valsAt
    rcases List.mem_cons.1 h with rfl | h
    · rw [List.find?_cons_of_pos (by simp)]; rfl
    · have : p.1 ≠ o.1 := by have := h1 o h; omega
      rw [List.find?_cons_of_neg (by simpa using this)]
      exact ih h2 h
theorem valsAt_no {s : Sto} {id : Int} (h : hasS s id = false) : valsAt s id = [] := by
  unfold valsAt
  rw [List.find?_eq_none.2 (fun o ho => by simpa using (hasS_no.1 h) o ho)]
  rfl

/-! ### a further object -/
def insS : Sto → Int → List Int → Sto
  | [], id, vs => [(id, vs)]
  | o :: r, id, vs => if o.1 < id then o :: insS r id vs else (id, vs) :: o :: r
def cntS : Sto → Int → Nat
  | [], _ => 0
  | o :: r, id => if o.1 < id then cntS r id + 1 else 0
theorem cntS_le (s : Sto) (id : Int) : cntS s id ≤ s.length := by
  induction s with
  | nil => exact Nat.le_refl _
  | cons o r ih => unfold cntS; split <;> simp <;> omega
theorem insS_cut (s : Sto) (id : Int) (vs : List Int) : insS s id vs = s.take (cntS s id) ++ [(id, vs)] ++ s.drop (cntS s id) := by
  induction s with
  | nil => rfl
  | cons o r ih =>
    unfold insS cntS
    split
    · rw [ih]; simp
    · simp
theorem cntS_at {s : Sto} {id : Int} {k : Nat} {o : Int × List Int} (h : s[k]? = some o) (hk : k < cntS s id) : o.1 < id := by
  induction s generalizing k with
  | nil => simp at h
  | cons p r ih =>
    unfold cntS at hk
    split at hk
    · rcases k with _ | k
      · simp at h; subst h; assumption
      · exact ih (k := k) (by simpa using h) (by omega)
    · omega
theorem cntS_end {s : Sto} {id : Int} {o : Int × List Int} (h : s[cntS s id]? = some o) : ¬ o.1 < id := by
  induction s with
  | nil => simp at h
  | cons p r ih =>
    unfold cntS at h
    split at h
    · exact ih (by simpa using h)
    · simp at h; subst h; assumption
theorem insS_length (s : Sto) (id : Int) (vs : List Int) : (insS s id vs).length = s.length + 1 := by
  induction s with
  | nil => rfl
  | cons o r ih => unfold insS; split <;> simp [ih]
theorem insS_mem {s : Sto} {id : Int} {vs : List Int} {o : Int × List Int} : o ∈ insS s id vs ↔ o = (id, vs) ∨ o ∈ s := by
  induction s with
  | nil => simp [insS]
  | cons p r ih =>
    unfold insS
    split
    · simp only [List.mem_cons, ih]
      constructor
      · rintro (h | h | h)
        · exact .inr (.inl h)
        · exact .inl h
        · exact .inr (.inr h)
      · rintro (h | h | h)
        · exact .inr (.inl h)
        · exact .inl h
        · exact .inr (.inr h)
    · simp only [List.mem_cons]
theorem insS_asc {s : Sto} {id : Int} {vs : List Int} (h : Asc s) (hn : hasS s id = false) : Asc (insS s id vs) := by
  induction s with
  | nil => simp [insS, Asc]
  | cons p r ih =>
    obtain ⟨h1, h2⟩ := List.pairwise_cons.1 h
    have hn' := hasS_no.1 hn
    have hp := hn' p (List.mem_cons_self ..)
    unfold insS
    split
    · next hlt =>
      refine List.pairwise_cons.2 ⟨fun q hq => ?_, ih h2 (hasS_no.2 fun o ho => hn' o (List.mem_cons_of_mem _ ho))⟩
      rcases insS_mem.1 hq with rfl | hq
      · exact hlt
      · exact h1 q hq
    · next hge =>
      refine List.pairwise_cons.2 ⟨fun q hq => ?_, h⟩
      rcases List.mem_cons.1 hq with rfl | hq
      · show id < q.1; omega
      · have := h1 q hq
        show id < q.1
        omega
theorem insS_last {s : Sto} {id : Int} {vs : List Int} (h : ∀ o ∈ s, o.1 < id) : insS s id vs = s ++ [(id, vs)] := by
  induction s with
  | nil => rfl
  | cons p r ih =>
    unfold insS
    rw [if_pos (h p (List.mem_cons_self ..)), ih (fun o ho => h o (List.mem_cons_of_mem _ ho))]
    rfl
theorem insS_valid {s : Sto} {id : Int} {vs : List Int} (h : stV s = true) (h1 : inB id 1 999 = true) (h2 : valsOk vs = true) (hn : hasS s id = false) (hl : s.length < 6) : stV (insS s id vs) = true := by
  obtain ⟨a, b, c⟩ := stV_iff.1 h
  obtain ⟨i1, i2⟩ := inB_iff.1 h1
  refine stV_iff.2 ⟨fun o ho => ?_, insS_asc b hn, by rw [insS_length]; omega⟩
  rcases insS_mem.1 ho with rfl | ho
  · exact obOk_iff.2 ⟨i1, i2, h2⟩
  · exact a o ho
theorem insS_has (s : Sto) (id : Int) (vs : List Int) : hasS (insS s id vs) id = true := hasS_iff.2 ⟨(id, vs), insS_mem.2 (.inl rfl), rfl⟩
theorem insS_vals {s : Sto} {id : Int} {vs : List Int} (h : Asc s) (hn : hasS s id = false) : valsAt (insS s id vs) id = vs :=
  valsAt_mem (insS_asc h hn) (o := (id, vs)) (insS_mem.2 (.inl rfl))
theorem insS_other {s : Sto} {id : Int} {vs : List Int} (h : Asc s) (hn : hasS s id = false) {o : Int × List Int} (ho : o ∈ s) : valsAt (insS s id vs) o.1 = valsAt s o.1 := by
  rw [valsAt_mem h ho, valsAt_mem (insS_asc h hn) (insS_mem.2 (.inr ho))]

/-! ### the functions -/
def putOk (s : Sto) (id : Int) (vs : List Int) : Bool := stV s && inB id 1 999 && valsOk vs
def putS (s : Sto) (id : Int) (vs : List Int) : Sto := if putOk s id vs then (if hasS s id then s else if 6 ≤ s.length then s else insS s id vs) else []
def putN (s : Sto) (id : Int) (vs : List Int) : Int := if putOk s id vs then (if hasS s id then 1 else if 6 ≤ s.length then 2 else 0) else 3
/-- a value, and whether there is one -/
def getB (s : Sto) (id ix : Int) : Bool := stV s && hasS s id && inB ix 0 ((valsAt s id).length - 1)
def getV (s : Sto) (id ix : Int) : Int := if getB s id ix then (valsAt s id).getD ix.toNat 0 else 0
def hasI (xs : List Int) (n : Int) : Bool := xs.contains n
def keepS (s : Sto) (ids : List Int) : Sto := if stV s then s.filter (fun o => hasI ids o.1) else []

theorem putN_cases (s : Sto) (id : Int) (vs : List Int) :
    (putOk s id vs = false ∧ putN s id vs = 3 ∧ putS s id vs = []) ∨ (putOk s id vs = true ∧ hasS s id = true ∧ putN s id vs = 1 ∧ putS s id vs = s) ∨
    (putOk s id vs = true ∧ hasS s id = false ∧ 6 ≤ s.length ∧ putN s id vs = 2 ∧ putS s id vs = s) ∨ (putOk s id vs = true ∧ hasS s id = false ∧ s.length < 6 ∧ putN s id vs = 0 ∧ putS s id vs = insS s id vs) := by
  unfold putN putS
  rcases h : putOk s id vs with _ | _
  · exact .inl ⟨rfl, rfl, rfl⟩
  · rcases h2 : hasS s id with _ | _
    · by_cases h3 : 6 ≤ s.length
      · exact .inr (.inr (.inl ⟨rfl, rfl, h3, by simp [h3], by simp [h3]⟩))
      · exact .inr (.inr (.inr ⟨rfl, rfl, by omega, by simp [h3], by simp [h3]⟩))
    · exact .inr (.inl ⟨rfl, rfl, by simp, by simp⟩)
theorem putOk_iff {s : Sto} {id : Int} {vs : List Int} : putOk s id vs = true ↔ stV s = true ∧ inB id 1 999 = true ∧ valsOk vs = true := by
  unfold putOk; rw [Bool.and_eq_true, Bool.and_eq_true, and_assoc]
theorem stV_asc {s : Sto} (h : stV s = true) : Asc s := (stV_iff.1 h).2.1
theorem hasI_iff {xs : List Int} {n : Int} : hasI xs n = true ↔ n ∈ xs := by unfold hasI; simp
theorem keepS_valid {s : Sto} {ids : List Int} (h : stV s = true) : stV (keepS s ids) = true := by
  unfold keepS; rw [if_pos h]; exact stV_sub h List.filter_sublist
theorem keepS_twice {s : Sto} {ids : List Int} (h : stV s = true) : keepS (keepS s ids) ids = keepS s ids := by
  have h2 := keepS_valid (ids := ids) h
  have e : keepS (keepS s ids) ids = (keepS s ids).filter (fun o => hasI ids o.1) := by rw [keepS, if_pos h2]
  rw [e]
  unfold keepS
  rw [if_pos h, List.filter_filter]
  simp
theorem keepS_none {s : Sto} : keepS s [] = [] := by
  unfold keepS; split
  · simp [hasI]
  · rfl
end Go.Proofs.Ytfianpjoifcphaa
