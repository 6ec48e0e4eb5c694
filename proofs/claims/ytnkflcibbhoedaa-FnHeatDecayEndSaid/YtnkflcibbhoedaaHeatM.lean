/-
  Plain mathematics of heat: valid, used, halved; which blocks are the coldest.
-/
import Derived.Test.YtnkflcibbhoedaaAscM
namespace Go.Proofs.Ytnkflcibbhoedaa
open Go.RowKit
set_option linter.unusedVariables false
set_option maxRecDepth 100000

/-- the heat of a block -/
def hAt (h : List Int) (a : Int) : Int := h.getD a.toNat 0
def hV (h : List Int) : Bool := h.all (fun x => inB x 0 100) && decide (h.length = 12)
theorem hV_iff {h : List Int} : hV h = true ↔ (∀ x ∈ h, 0 ≤ x ∧ x ≤ 100) ∧ h.length = 12 := by
  unfold hV
  rw [Bool.and_eq_true, decide_eq_true_eq, List.all_eq_true]
  exact ⟨fun ⟨a, b⟩ => ⟨fun x hx => inB_iff.1 (a x hx), b⟩, fun ⟨a, b⟩ => ⟨fun x hx => inB_iff.2 (a x hx), b⟩⟩
theorem getD_mem {h : List Int} {k : Nat} (hk : k < h.length) : h.getD k 0 ∈ h := by
  have e : h.getD k 0 = h[k] := by simp [List.getD, hk]
  rw [e]; exact List.getElem_mem hk
theorem hV_at {h : List Int} (hv : hV h = true) {k : Nat} (hk : k < 12) : 0 ≤ h.getD k 0 ∧ h.getD k 0 ≤ 100 := by
  obtain ⟨h1, h2⟩ := hV_iff.1 hv
  exact h1 _ (getD_mem (by omega))
theorem hV_len {h : List Int} (hv : hV h = true) : h.length = 12 := (hV_iff.1 hv).2
theorem hV_take {h : List Int} {k : Nat} (hk : k < h.length) : (h.take (k + 1)).all (fun x => inB x 0 100) = ((h.take k).all (fun x => inB x 0 100) && inB (h.getD k 0) 0 100) := by
  have e : h.getD k 0 = h[k] := by simp [List.getD, hk]
  rw [List.take_succ_eq_append_getElem hk, List.all_append, e]
  simp
theorem hV_no {h : List Int} {k : Nat} (hk : k < h.length) (hn : inB (h.getD k 0) 0 100 = false) : hV h = false := by
  have : h.all (fun x => inB x 0 100) = false := by
    rw [List.all_eq_false]
    exact ⟨_, getD_mem hk, by rw [hn]; simp⟩
  unfold hV
  rw [this]
  rfl
def useH (h : List Int) (b : Nat) : List Int := h.set b (min (h.getD b 0 + 10) 100)
theorem useH_getD (h : List Int) (b i : Nat) (hi : i < h.length) : (useH h b).getD i 0 = if i = b then min (h.getD i 0 + 10) 100 else h.getD i 0 := by
  unfold useH
  by_cases e : i = b
  · subst e; rw [if_pos rfl]; simp [List.getD, hi]
  · rw [if_neg e]
    simp [List.getD, show ¬ b = i from fun h => e h.symm]
theorem useH_length (h : List Int) (b : Nat) : (useH h b).length = h.length := by simp [useH]
theorem useH_valid {h : List Int} (hv : hV h = true) {b : Nat} (hb : b < 12) : hV (useH h b) = true := by
  obtain ⟨h1, h2⟩ := hV_iff.1 hv
  refine hV_iff.2 ⟨fun x hx => ?_, by rw [useH_length]; exact h2⟩
  rcases List.mem_or_eq_of_mem_set hx with hx | hx
  · exact h1 x hx
  · have := hV_at hv hb; omega
def decH (h : List Int) : List Int := h.map fun x => x / 2
theorem decH_length (h : List Int) : (decH h).length = h.length := by simp [decH]
theorem decH_getD (h : List Int) (i : Nat) : (decH h).getD i 0 = h.getD i 0 / 2 := by
  unfold decH
  by_cases hi : i < h.length
  · simp [List.getD, hi]
  · simp [List.getD, List.getElem?_eq_none (show h.length ≤ i by omega)]
theorem decH_valid {h : List Int} (hv : hV h = true) : hV (decH h) = true := by
  obtain ⟨h1, h2⟩ := hV_iff.1 hv
  refine hV_iff.2 ⟨fun x hx => ?_, by rw [decH_length]; exact h2⟩
  obtain ⟨y, hy, rfl⟩ := List.mem_map.1 hx
  have := h1 y hy
  omega
def decS (h : List Int) : List Int := if hV h then decH h else []
theorem decS_yes {h : List Int} (hv : hV h = true) : decS h = decH h := by unfold decS; rw [if_pos hv]
theorem decS_no {h : List Int} (hv : hV h = false) : decS h = [] := by unfold decS; rw [if_neg (by simp [hv])]
/-- the first k halved -/
theorem dec_take_set {h : List Int} {k : Nat} (hk : k < h.length) : (decH (h.take k) ++ h.drop k).set k (h.getD k 0 / 2) = decH (h.take (k + 1)) ++ h.drop (k + 1) := by
  have hl : (decH (h.take k)).length = k := by rw [decH_length, List.length_take]; omega
  have e : h.getD k 0 = h[k] := by simp [List.getD, hk]
  rw [List.set_append_right _ _ (by omega), hl, Nat.sub_self, List.drop_eq_getElem_cons hk, List.set_cons_zero, List.take_succ_eq_append_getElem hk, e]
  unfold decH
  rw [List.map_append, List.append_assoc]
  rfl
theorem dec_take_getD {h : List Int} {k : Nat} (hk : k < h.length) : (decH (h.take k) ++ h.drop k).getD k 0 = h.getD k 0 := by
  have hl : (decH (h.take k)).length = k := by rw [decH_length, List.length_take]; omega
  simp [List.getD, List.getElem?_append_right, hl, hk]
theorem decH_snoc {h : List Int} {k : Nat} (hk : k < h.length) : decH (h.take (k + 1)) = decH (h.take k) ++ [h.getD k 0 / 2] := by
  have e : h.getD k 0 = h[k] := by simp [List.getD, hk]
  rw [List.take_succ_eq_append_getElem hk, e]
  unfold decH
  rw [List.map_append]
  rfl
/-- seven times -/
def decN : Nat → List Int → List Int
  | 0, h => h
  | n + 1, h => decH (decN n h)
theorem decN_valid {h : List Int} (hv : hV h = true) : ∀ n, hV (decN n h) = true
  | 0 => hv
  | n + 1 => decH_valid (decN_valid hv n)
theorem decN_getD (h : List Int) (i : Nat) : (decN 7 h).getD i 0 = h.getD i 0 / 2 / 2 / 2 / 2 / 2 / 2 / 2 := by
  simp only [decN, decH_getD]
theorem dec7 {h : List Int} (hv : hV h = true) {i : Nat} (hi : i < 12) : (decN 7 h).getD i 0 = 0 := by
  rw [decN_getD]
  have := hV_at hv hi
  omega

/-! ### the coldest -/
def ascB (ls : List Int) : Bool := asc 1 ls ls.length
theorem ascB_all {ls : List Int} (h : ascB ls = true) : ls.Pairwise (· < ·) ∧ ∀ x ∈ ls, 0 ≤ x ∧ x ≤ 11 := by
  have hs : ∀ j, j < ls.length → stepR 1 ls j = true := fun j hj => all_at h hj
  have h0 : ∀ j, j < ls.length → 0 ≤ ls.getD j 0 ∧ ls.getD j 0 ≤ 11 := fun j hj => by
    have h1 := prevR_ge (s := 1) (xs := ls) (k := j) fun i hi => hs i (by omega)
    have h2 := hs j hj
    unfold stepR at h2
    rw [Nat.mul_one, Bool.and_eq_true, decide_eq_true_eq, decide_eq_true_eq] at h2
    omega
  have key : ∀ j, j < ls.length → ∀ i, i < j → ls.getD i 0 < ls.getD j 0 := by
    intro j
    induction j with
    | zero => intro _ i hi; omega
    | succ j ih =>
      intro hj i hi
      have h2 := hs (j + 1) hj
      unfold stepR at h2
      rw [Bool.and_eq_true, decide_eq_true_eq, decide_eq_true_eq, Nat.mul_one] at h2
      have h3 : ls.getD j 0 < ls.getD (j + 1) 0 := by
        have := h2.1
        change ls.getD (j * 1) 0 < _ at this
        rwa [Nat.mul_one] at this
      rcases Nat.lt_or_ge i j with hlt | hge
      · have := ih (by omega) i hlt; omega
      · obtain rfl : i = j := by omega
        exact h3
  refine ⟨List.pairwise_iff_getElem.2 fun i j hi hj hij => ?_, fun x hx => ?_⟩
  · have := key j hj i hij
    simpa [List.getD, hi, hj] using this
  · obtain ⟨j, hj, rfl⟩ := List.getElem_of_mem hx
    have := h0 j hj
    simpa [List.getD, hj] using this
theorem asc_len {ls : List Int} (h : ascB ls = true) : ls.length ≤ 12 := by
  obtain ⟨h1, h2⟩ := ascB_all h
  have key : ∀ j, j < ls.length → (j : Int) ≤ ls.getD j 0 := by
    intro j
    induction j with
    | zero => intro hj; have := h2 _ (getD_mem hj); omega
    | succ j ih =>
      intro hj
      have h3 := ih (by omega)
      have h4 := List.pairwise_iff_getElem.1 h1 j (j + 1) (by omega) hj (by omega)
      have e1 : ls.getD j 0 = ls[j] := by simp [List.getD, show j < ls.length by omega]
      have e2 : ls.getD (j + 1) 0 = ls[j + 1] := by simp [List.getD, hj]
      rw [e2]; rw [e1] at h3
      omega
  rcases Nat.lt_or_ge 12 ls.length with h3 | h3
  · have := key 12 h3
    have := (h2 _ (getD_mem h3)).2
    omega
  · exact h3

def ltH (h : List Int) (a b : Int) : Bool := decide (hAt h a < hAt h b) || (decide (hAt h a = hAt h b) && decide (a < b))
theorem ltH_iff {h : List Int} {a b : Int} : ltH h a b = true ↔ hAt h a < hAt h b ∨ (hAt h a = hAt h b ∧ a < b) := by
  unfold ltH; rw [Bool.or_eq_true, Bool.and_eq_true, decide_eq_true_eq, decide_eq_true_eq, decide_eq_true_eq]
theorem ltH_no {h : List Int} {a b : Int} : ltH h a b = false ↔ ¬ (hAt h a < hAt h b ∨ (hAt h a = hAt h b ∧ a < b)) := by
  rw [← ltH_iff, Bool.not_eq_true]
theorem ltH_irrefl (h : List Int) (a : Int) : ltH h a a = false := ltH_no.2 (by omega)
theorem ltH_asymm {h : List Int} {a b : Int} (hl : ltH h a b = true) : ltH h b a = false := ltH_no.2 (by have := ltH_iff.1 hl; omega)
theorem ltH_trans {h : List Int} {a b c : Int} (h1 : ltH h a b = true) (h2 : ltH h b c = true) : ltH h a c = true := ltH_iff.2 (by have := ltH_iff.1 h1; have := ltH_iff.1 h2; omega)
theorem ltH_total {h : List Int} {a b : Int} (h1 : ltH h a b = false) (h2 : ltH h b a = false) : a = b := by have := ltH_no.1 h1; have := ltH_no.1 h2; omega
theorem ltH_ntrans {h : List Int} {a b c : Int} (h1 : ltH h a b = false) (h2 : ltH h b c = false) : ltH h a c = false := ltH_no.2 (by have := ltH_no.1 h1; have := ltH_no.1 h2; omega)

def rankH (h ls : List Int) (x : Int) : Nat := ls.countP fun y => ltH h y x
def keepH (h ls : List Int) (m : Int) (x : Int) : Bool := decide ((rankH h ls x : Int) < m)
def coldS (h ls : List Int) (m : Int) : List Int := if hV h = true ∧ ascB ls = true then ls.filter (keepH h ls m) else []
theorem coldS_yes {h ls : List Int} (m : Int) (h1 : hV h = true) (h2 : ascB ls = true) : coldS h ls m = ls.filter (keepH h ls m) := by unfold coldS; rw [if_pos ⟨h1, h2⟩]
theorem coldS_no {h ls : List Int} (m : Int) (h1 : hV h = false ∨ ascB ls = false) : coldS h ls m = [] := by
  unfold coldS
  rw [if_neg]
  rintro ⟨a, b⟩
  rcases h1 with e | e
  · rw [a] at e; cases e
  · rw [b] at e; cases e
theorem keepH_low (h ls : List Int) {m : Int} (hm : m ≤ 0) (x : Int) : keepH h ls m x = false := by unfold keepH; exact decide_eq_false (by omega)
theorem coldS_low (h ls : List Int) {m : Int} (hm : m ≤ 0) : coldS h ls m = [] := by
  unfold coldS
  split
  · exact List.filter_eq_nil_iff.2 fun x hx => by rw [keepH_low h ls hm]; simp
  · rfl
theorem coldS_le (h ls : List Int) (m : Int) : (coldS h ls m).length ≤ 12 := by
  unfold coldS
  split
  · rename_i h2; exact Nat.le_trans (List.length_filter_le _ _) (asc_len h2.2)
  · exact Nat.zero_le _
theorem coldS_sub {h ls : List Int} {m : Int} {x : Int} (hx : x ∈ coldS h ls m) : hV h = true ∧ ascB ls = true ∧ x ∈ ls ∧ keepH h ls m x = true := by
  unfold coldS at hx
  split at hx
  · rename_i h2
    obtain ⟨h3, h4⟩ := List.mem_filter.1 hx
    exact ⟨h2.1, h2.2, h3, h4⟩
  · cases hx

theorem asc_ext' : ∀ {xs ys : List Int}, xs.Pairwise (· < ·) → ys.Pairwise (· < ·) → (∀ x, x ∈ xs ↔ x ∈ ys) → xs = ys
  | [], [], _, _, _ => rfl
  | [], y :: ys, _, _, h => by have := (h y).2 (by simp); cases this
  | x :: xs, [], _, _, h => by have := (h x).1 (by simp); cases this
  | x :: xs, y :: ys, hx, hy, h => by
    obtain ⟨hx1, hx2⟩ := List.pairwise_cons.1 hx
    obtain ⟨hy1, hy2⟩ := List.pairwise_cons.1 hy
    have e : x = y := by
      rcases List.mem_cons.1 ((h x).1 (by simp)) with e | e
      · exact e
      · rcases List.mem_cons.1 ((h y).2 (by simp)) with e2 | e2
        · exact e2.symm
        · have := hy1 x e
          have := hx1 y e2
          omega
    subst e
    rw [asc_ext' hx2 hy2 fun z => ?_]
    refine ⟨fun hz => ?_, fun hz => ?_⟩
    · rcases List.mem_cons.1 ((h z).1 (by simp [hz])) with e | e
      · have := hx1 z hz; omega
      · exact e
    · rcases List.mem_cons.1 ((h z).2 (by simp [hz])) with e | e
      · have := hy1 z hz; omega
      · exact e

theorem rank_at {h ls s : List Int} (hp : s.Perm ls) (hs : s.Pairwise fun a b => ltH h a b = true) {j : Nat} {x : Int} (hx : s[j]? = some x) : rankH h ls x = j := by
  unfold rankH
  rw [← hp.countP_eq]
  obtain ⟨hj, ex⟩ := List.getElem?_eq_some_iff.1 hx
  have hsplit : s = s.take j ++ x :: s.drop (j + 1) := by rw [← ex, ← List.drop_eq_getElem_cons hj, List.take_append_drop]
  have h1 : (s.take j).countP (fun y => ltH h y x) = j := by
    rw [List.countP_eq_length.2, List.length_take]
    · omega
    · intro y hy
      obtain ⟨i, hi, rfl⟩ := List.getElem_of_mem hy
      rw [List.length_take] at hi
      rw [List.getElem_take, ← ex]
      exact List.pairwise_iff_getElem.1 hs i j (by omega) hj (by omega)
  have h2 : (s.drop (j + 1)).countP (fun y => ltH h y x) = 0 := by
    rw [List.countP_eq_zero]
    intro y hy
    obtain ⟨i, hi, rfl⟩ := List.getElem_of_mem hy
    rw [List.length_drop] at hi
    rw [List.getElem_drop, ← ex]
    rw [ltH_asymm (List.pairwise_iff_getElem.1 hs j (j + 1 + i) hj (by omega) (by omega))]
    simp
  rw [hsplit, List.countP_append, List.countP_cons, h1, h2, ltH_irrefl]
  simp

theorem cold_sorted {h ls s : List Int} (m : Nat) (ha : ascB ls = true) (hp : s.Perm ls) (hs : s.Pairwise fun a b => ltH h b a = false) :
    (s.take m).mergeSort (fun x y => decide (x ≤ y)) = ls.filter (keepH h ls m) := by
  have hls := (ascB_all ha).1
  have hnd : s.Nodup := hp.nodup_iff.2 (hls.imp fun h => by omega)
  have hst : s.Pairwise fun a b => ltH h a b = true := by
    refine (hs.and hnd).imp ?_
    rintro a b ⟨h1, h2⟩
    rcases h3 : ltH h a b with _ | _
    · exact absurd (ltH_total h3 h1) h2
    · rfl
  refine asc_ext' ?_ (hls.filter _) fun x => ?_
  · have h1 := List.pairwise_mergeSort (le := fun x y : Int => decide (x ≤ y)) (fun a b c h1 h2 => by simp at *; omega) (fun a b => by simp; omega) (s.take m)
    have h2 : ((s.take m).mergeSort fun x y => decide (x ≤ y)).Nodup := (List.mergeSort_perm _ _).nodup_iff.2 (hnd.sublist (List.take_sublist _ _))
    refine (h1.and h2).imp ?_
    rintro a b ⟨h3, h4⟩
    have := of_decide_eq_true h3
    omega
  · rw [List.mem_mergeSort, List.mem_filter]
    unfold keepH
    rw [decide_eq_true_eq]
    constructor
    · intro hx
      obtain ⟨j, hj, e⟩ := List.getElem_of_mem hx
      rw [List.length_take] at hj
      rw [List.getElem_take] at e
      have hx2 : s[j]? = some x := by rw [List.getElem?_eq_getElem (by omega), e]
      rw [rank_at hp hst hx2]
      exact ⟨hp.mem_iff.1 (List.mem_of_getElem? hx2), by omega⟩
    · rintro ⟨hx, hr⟩
      obtain ⟨j, hj, e⟩ := List.getElem_of_mem (hp.mem_iff.2 hx)
      have hx2 : s[j]? = some x := by rw [List.getElem?_eq_getElem hj, e]
      rw [rank_at hp hst hx2] at hr
      refine List.mem_iff_getElem?.2 ⟨j, ?_⟩
      rw [List.getElem?_take_of_lt (by omega)]
      exact hx2

theorem cold_length {h ls : List Int} (m : Nat) (ha : ascB ls = true) : (ls.filter (keepH h ls m)).length = min m ls.length := by
  have h1 := List.pairwise_mergeSort (le := fun x y : Int => !ltH h y x) (fun a b c h1 h2 => by
    simp only [Bool.not_eq_true'] at *; exact ltH_ntrans h2 h1) (fun a b => by
    rcases h1 : ltH h b a with _ | _
    · rfl
    · rw [ltH_asymm h1]; rfl) ls
  have h2 := cold_sorted (h := h) (s := ls.mergeSort fun x y => !ltH h y x) m ha (List.mergeSort_perm _ _) (h1.imp fun h => by simpa using h)
  rw [← h2, List.length_mergeSort, List.length_take, List.length_mergeSort]

theorem countP_lt' {p q : Int → Bool} (hpq : ∀ y, p y = true → q y = true) {x : Int} (hpx : p x = false) (hqx : q x = true) : ∀ {ls : List Int}, x ∈ ls → ls.countP p < ls.countP q
  | y :: ls, hx => by
    have hm : ls.countP p ≤ ls.countP q := List.countP_mono_left fun z _ => hpq z
    rw [List.countP_cons, List.countP_cons]
    rcases List.mem_cons.1 hx with rfl | hx
    · rw [hpx, hqx]; simp; omega
    · have := countP_lt' hpq hpx hqx hx
      rcases h1 : p y with _ | _
      · simp; omega
      · rw [hpq y h1]; simp; omega
/-- who is colder than one that is kept is kept -/
theorem keep_colder {h ls : List Int} {m x y : Int} (hx : x ∈ ls) (hl : ltH h x y = true) (hy : keepH h ls m y = true) : keepH h ls m x = true := by
  have h1 : rankH h ls x < rankH h ls y := countP_lt' (p := fun z => ltH h z x) (q := fun z => ltH h z y) (fun z hz => ltH_trans hz hl) (ltH_irrefl h x) hl hx
  unfold keepH at *
  have := of_decide_eq_true hy
  exact decide_eq_true (by omega)
theorem keep_more {h ls : List Int} {m x : Int} (hk : keepH h ls m x = true) : keepH h ls (m + 1) x = true := by
  unfold keepH at *
  have := of_decide_eq_true hk
  exact decide_eq_true (by omega)

/-- loops of the model -/
theorem rank_take {h ls : List Int} {x : Int} {k : Nat} (hk : k < ls.length) : (ls.take (k + 1)).countP (fun y => ltH h y x) = (ls.take k).countP (fun y => ltH h y x) + (if ltH h (ls.getD k 0) x then 1 else 0) := by
  have e : ls.getD k 0 = ls[k] := by simp [List.getD, hk]
  rw [List.take_succ_eq_append_getElem hk, List.countP_append, e]
  simp [List.countP_cons]
theorem filter_take {p : Int → Bool} {ls : List Int} {k : Nat} (hk : k < ls.length) : (ls.take (k + 1)).filter p = (ls.take k).filter p ++ (if p (ls.getD k 0) then [ls.getD k 0] else []) := by
  have e : ls.getD k 0 = ls[k] := by simp [List.getD, hk]
  rw [List.take_succ_eq_append_getElem hk, List.filter_append, e]
  simp [List.filter_cons]
theorem asc_lt {ls : List Int} (h : ascB ls = true) {i k : Nat} (hi : i < ls.length) (hk : k < ls.length) : ls.getD k 0 < ls.getD i 0 ↔ k < i := by
  have hp := List.pairwise_iff_getElem.1 (ascB_all h).1
  have e1 : ls.getD k 0 = ls[k] := by simp [List.getD, hk]
  have e2 : ls.getD i 0 = ls[i] := by simp [List.getD, hi]
  rw [e1, e2]
  constructor
  · intro hl
    rcases Nat.lt_trichotomy k i with h1 | h1 | h1
    · exact h1
    · subst h1; omega
    · have := hp i k hi hk h1; omega
  · exact hp k i hk hi
end Go.Proofs.Ytnkflcibbhoedaa
