/-
  Plain mathematics of models: values that fit, a model that is valid, what an event makes of it.
-/
import Derived.Test.YtiopbgenkalfaaaPairM
namespace Go.Proofs.Ytiopbgenkalfaaa
open Go.RowKit
set_option linter.unusedVariables false
set_option maxRecDepth 100000

def allN (xs : List Int) : Bool := xs.all fun x => inB x 0 99
/-- values that a volume may have -/
def nowV (xs : List Int) : Bool := allN xs && decide (xs.length = 12)
def lastV (ps : List (List Int)) : List Int := ps.getD (ps.length - 1) []
/-- a model that is valid -/
def modV (now : List Int) (ps : List (List Int)) : Bool := ps.all nowV && (nowV now && inB ps.length 1 61 && decide (lastV ps = now))
/-- the first k of the pairs are written -/
def putP (ys ps : List Int) : Nat → List Int
  | 0 => ys
  | k + 1 => (putP ys ps k).set (ps.getD (k * 2) 0).toNat (ps.getD (k * 2 + 1) 0)
/-- the pairs of an event are written -/
def wrB (now : List Int) (kd : Int) (pn : Nat) (ps : List Int) (dn : Bool) : Bool := decide (kd = 1) && dn && decide (now.length = 12) && validP ps pn
def nextV (now : List Int) (kd : Int) (pn : Nat) (ps : List Int) (dn : Bool) : List Int := if wrB now kd pn ps dn = true then putP now ps pn else now
/-- the model behind an event -/
def doV (now : List Int) (past : List (List Int)) (kd : Int) (pn : Nat) (ps : List Int) (dn : Bool) (after : List Int) : Option (List Int × List (List Int)) :=
  if (modV now past && nowV after) = false then none
  else if kd = 10 ∧ dn = true then (if after ∈ past then some (after, [after]) else none)
  else if nextV now kd pn ps dn ≠ after then none
  else if kd = 2 ∧ dn = true then some (after, [after])
  else some (after, past.drop (past.length - 60) ++ [after])

theorem allN_drop {xs : List Int} {k : Nat} (h : k < xs.length) : allN (xs.drop k) = (inB (xs.getD k 0) 0 99 && allN (xs.drop (k + 1))) := by
  unfold allN
  rw [List.drop_eq_getElem_cons h, List.all_cons]
  simp [List.getD, h]
theorem nowV_len {xs : List Int} (h : nowV xs = true) : xs.length = 12 := by
  unfold nowV at h
  simp only [Bool.and_eq_true, decide_eq_true_eq] at h
  exact h.2
theorem nowV_all {xs : List Int} (h : nowV xs = true) : allN xs = true := by
  unfold nowV at h
  simp only [Bool.and_eq_true, decide_eq_true_eq] at h
  exact h.1
theorem all_drop {ps : List (List Int)} {k : Nat} {p : List Int} (h : ps[k]? = some p) : (ps.drop k).all nowV = (nowV p && (ps.drop (k + 1)).all nowV) := by
  have hl : k < ps.length := (List.getElem?_eq_some_iff.1 h).1
  have e : ps[k] = p := (List.getElem?_eq_some_iff.1 h).2
  rw [List.drop_eq_getElem_cons hl, e]
  rfl
theorem putP_length (ys ps : List Int) : ∀ k, (putP ys ps k).length = ys.length
  | 0 => rfl
  | k + 1 => by rw [putP, List.length_set, putP_length ys ps k]
theorem nextV_length (now : List Int) (kd : Int) (pn : Nat) (ps : List Int) (dn : Bool) : (nextV now kd pn ps dn).length = now.length := by
  unfold nextV
  split
  · exact putP_length _ _ _
  · rfl
theorem wrB_no1 {now : List Int} {kd : Int} {pn : Nat} {ps : List Int} {dn : Bool} (h : kd ≠ 1) : wrB now kd pn ps dn = false := by simp [wrB, h]
theorem wrB_no2 {now : List Int} {kd : Int} {pn : Nat} {ps : List Int} : wrB now kd pn ps false = false := by simp [wrB]
theorem wrB_no3 {now : List Int} {kd : Int} {pn : Nat} {ps : List Int} {dn : Bool} (h : now.length ≠ 12) : wrB now kd pn ps dn = false := by simp [wrB, h]
theorem wrB_eq {now : List Int} {pn : Nat} {ps : List Int} (h : now.length = 12) : wrB now 1 pn ps true = validP ps pn := by simp [wrB, h]
/-- pairs that are valid name blocks, and values -/
theorem pair_at {ps : List Int} {pn k : Nat} (h : validP ps pn = true) (hk : k < pn) : 0 ≤ ps.getD (k * 2) 0 ∧ ps.getD (k * 2) 0 ≤ 11 ∧ 0 ≤ ps.getD (k * 2 + 1) 0 ∧ ps.getD (k * 2 + 1) 0 ≤ 99 := by
  obtain ⟨_, h2, h3⟩ := validR_iff.1 h
  have h4 := h2 k hk
  have h5 := prevR_ge (s := 2) (xs := ps) (k := k) (fun j hj => h3 j (by omega))
  have h6 := h3 k hk
  simp only [stepR, Bool.and_eq_true, decide_eq_true_eq] at h6
  simp only [fldP, Bool.and_eq_true, decide_eq_true_eq] at h4
  omega
theorem doV_bad {now after : List Int} {past : List (List Int)} {kd : Int} {pn : Nat} {ps : List Int} {dn : Bool} (h : (modV now past && nowV after) = false) : doV now past kd pn ps dn after = none := by
  unfold doV; rw [if_pos h]
theorem doV_crash {now after : List Int} {past : List (List Int)} {pn : Nat} {ps : List Int} (h : (modV now past && nowV after) = true) : doV now past 10 pn ps true after = if after ∈ past then some (after, [after]) else none := by
  unfold doV; rw [if_neg (by simp [h]), if_pos ⟨rfl, rfl⟩]
theorem doV_else {now after : List Int} {past : List (List Int)} {kd : Int} {pn : Nat} {ps : List Int} {dn : Bool} (h : (modV now past && nowV after) = true) (hc : ¬ (kd = 10 ∧ dn = true)) :
    doV now past kd pn ps dn after = if nextV now kd pn ps dn ≠ after then none else if kd = 2 ∧ dn = true then some (after, [after]) else some (after, past.drop (past.length - 60) ++ [after]) := by
  unfold doV; rw [if_neg (by simp [h]), if_neg hc]
/-- a model that is valid has values -/
theorem modV_parts {now : List Int} {past : List (List Int)} (h : modV now past = true) : past.all nowV = true ∧ nowV now = true ∧ 1 ≤ past.length ∧ past.length ≤ 61 ∧ lastV past = now := by
  unfold modV at h
  simp only [Bool.and_eq_true, decide_eq_true_eq, inB_iff] at h
  exact ⟨h.1, h.2.1.1, by omega, by omega, h.2.2⟩
theorem doV_some {now after : List Int} {past : List (List Int)} {kd : Int} {pn : Nat} {ps : List Int} {dn : Bool} {r : List Int × List (List Int)} (h : doV now past kd pn ps dn after = some r) :
    r.1 = after ∧ nowV after = true ∧ lastV r.2 = after ∧ modV now past = true := by
  have hb : (modV now past && nowV after) = true := by
    rcases e : (modV now past && nowV after) with _ | _
    · rw [doV_bad e] at h; cases h
    · rfl
  have hb2 : modV now past = true ∧ nowV after = true := by simpa using hb
  have hl : ∀ l : List (List Int), lastV (l ++ [after]) = after := fun l => by unfold lastV; rw [List.length_append]; simp [List.getD]
  refine ⟨?_, hb2.2, ?_, hb2.1⟩
  all_goals
    by_cases hc : kd = 10 ∧ dn = true
    · obtain ⟨rfl, rfl⟩ := hc
      rw [doV_crash hb] at h
      split at h
      · injection h with h; subst h; first | rfl | exact hl []
      · cases h
    · rw [doV_else hb hc] at h
      split at h
      · cases h
      · split at h
        · injection h with h; subst h; first | rfl | exact hl []
        · injection h with h; subst h; first | rfl | exact hl _
end Go.Proofs.Ytiopbgenkalfaaa
