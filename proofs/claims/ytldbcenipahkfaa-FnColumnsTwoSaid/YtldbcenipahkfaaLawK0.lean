/-
  What the laws on columns ask beside the model (plain).
-/
import Derived.Test.YtldbcenipahkfaaCkP
namespace Go.Proofs.Ytldbcenipahkfaa
open Go.RowKit
set_option linter.unusedVariables false
set_option maxRecDepth 100000

def goV (xs : List Int) (c : Int × Int) : Bool := colV xs && decide (chk xs = c)
theorem goV_iff {xs : List Int} {c : Int × Int} : goV xs c = true ↔ colV xs = true ∧ chk xs = c := by unfold goV; rw [Bool.and_eq_true, decide_eq_true_eq]
theorem goV_ck {xs : List Int} (h : colV xs = true) : goV xs (chk xs) = true := goV_iff.2 ⟨h, rfl⟩
theorem goV_no {xs : List Int} {c : Int × Int} (h : chk xs ≠ c) : goV xs c = false := by unfold goV; rw [decide_eq_false h, Bool.and_false]
theorem goV_rng {xs : List Int} {c : Int × Int} (h : goV xs c = true) : ckV c = true := by rw [← (goV_iff.1 h).2]; exact chk_rng xs
theorem other_val {x l : Int} (h0 : 0 ≤ x) (h1 : x ≤ 99) (hl : 0 ≤ l) : (x + 1 + l % 99) % 100 ≠ x ∧ 0 ≤ (x + 1 + l % 99) % 100 ∧ (x + 1 + l % 99) % 100 ≤ 99 := by omega
/-- one changed column, and two -/
theorem two_no {xs : List Int} {c : Int × Int} (h : goV xs c = true) {a b : Nat} (ha : a < xs.length) (hb : b < xs.length) {v u : Int} (hv : v ≠ xs.getD a 0) (v0 : 0 ≤ v) (v1 : v ≤ 99) :
    goV (xs.set a v) c = false ∧ (a ≠ b → goV ((xs.set a v).set b u) c = false) := by
  obtain ⟨hx, rfl⟩ := goV_iff.1 h
  have hr := colV_at hx ha
  have h6 := (colV_iff.1 hx).2.2
  exact ⟨goV_no (chk_one ha hv (by omega) (by omega)), fun hab => goV_no (chk_two h6 ha hb hab (by omega) hv)⟩
/-- what is mended is good, and differs just where it is said -/
theorem mend_all {xs : List Int} {c : Int × Int} (h : mendV xs c = true) :
    (mendL xs c).length = xs.length ∧ goV (mendL xs c) c = true ∧ ∀ i : Nat, i < xs.length → ((mendL xs c).getD i 0 ≠ xs.getD i 0 ↔ (i : Int) = mendI xs c) := by
  unfold mendV at h
  rw [Bool.and_eq_true, Bool.and_eq_true] at h
  obtain ⟨⟨hx, hc⟩, h⟩ := h
  by_cases hg : chk xs = c
  · have e1 : mendL xs c = xs := by simp [mendL, hx, hc, hg]
    have e2 : mendI xs c = -1 := by simp [mendI, hx, hc, hg]
    rw [e1, e2]
    exact ⟨rfl, goV_iff.2 ⟨hx, hg⟩, fun i hi => ⟨fun h => absurd rfl h, fun h => by omega⟩⟩
  · rw [decide_eq_false hg, Bool.false_or] at h
    obtain ⟨k, hk⟩ := Option.isSome_iff_exists.1 h
    obtain ⟨hkl, g1, g2, g3⟩ := mend_good hx hg hk
    have e1 : mendL xs c = xs.set k (mendA xs c.1 k) := by simp [mendL, hx, hc, hg, hk]
    have e2 : mendI xs c = k := by simp [mendI, hx, hc, hg, hk]
    rw [e1, e2]
    refine ⟨by rw [List.length_set], goV_iff.2 ⟨g1, g2⟩, fun i hi => ?_⟩
    by_cases hik : k = i
    · subst hik
      rw [getD_set_eq hkl]
      exact ⟨fun _ => rfl, fun _ => g3⟩
    · rw [getD_set_ne hik]
      exact ⟨fun h => absurd rfl h, fun h => by omega⟩
theorem fillW_iff {xs : List Int} {c : Int × Int} {a b : Int} : fillW xs a b c = true ↔ colV xs = true ∧ ckV c = true ∧ (0 ≤ a ∧ a ≤ (xs.length : Int) - 1) ∧ (0 ≤ b ∧ b ≤ (xs.length : Int) - 1) ∧ a ≠ b := by
  unfold fillW
  simp only [Bool.and_eq_true, inB_iff, Bool.not_eq_true', decide_eq_false_iff_not]
  exact ⟨fun ⟨⟨⟨⟨h1, h2⟩, h3⟩, h4⟩, h5⟩ => ⟨h1, h2, h3, h4, h5⟩, fun ⟨h1, h2, h3, h4, h5⟩ => ⟨⟨⟨⟨h1, h2⟩, h3⟩, h4⟩, h5⟩⟩
/-- what is filled is good, and elsewhere as it was -/
theorem fill_all {xs : List Int} {c : Int × Int} {a b : Int} (h : fillV xs a b c = true) :
    (fillL xs a b c).length = xs.length ∧ goV (fillL xs a b c) c = true ∧ ∀ i : Nat, (i : Int) ≠ a → (i : Int) ≠ b → (fillL xs a b c).getD i 0 = xs.getD i 0 := by
  unfold fillV at h
  rw [Bool.and_eq_true] at h
  obtain ⟨hw, hs⟩ := h
  obtain ⟨hx, hc, ha, hb, hab⟩ := fillW_iff.1 hw
  obtain ⟨v, hv⟩ := Option.isSome_iff_exists.1 hs
  obtain ⟨g1, g2, g3⟩ := fill_good hx hv
  have e1 : fillL xs a b c = fillR xs a.toNat b.toNat c.1 v := by simp [fillL, hw, hv]
  rw [e1]
  exact ⟨fillR_len _ _ _ _ _, goV_iff.2 ⟨g1, g2⟩, fun i h1 h2 => fill_else (by omega) (by omega)⟩
/-- values at both places have no influence -/
theorem fill_other {xs : List Int} {c : Int × Int} {a b : Nat} (h : fillV xs a b c = true) {u v : Int} (hu : 0 ≤ u ∧ u ≤ 99) (hv : 0 ≤ v ∧ v ≤ 99) :
    fillV ((xs.set a u).set b v) a b c = true ∧ fillL ((xs.set a u).set b v) a b c = fillL xs a b c := by
  unfold fillV at h
  rw [Bool.and_eq_true] at h
  obtain ⟨hw, hs⟩ := h
  obtain ⟨hx, hc, ha, hb, hab⟩ := fillW_iff.1 hw
  have hab' : a ≠ b := fun e => hab (by rw [e])
  have hs2 := fill_same xs hab' u v c
  rw [Int.toNat_natCast, Int.toNat_natCast] at hs
  have hw2 : fillW ((xs.set a u).set b v) a b c = true := fillW_iff.2 ⟨colV_set (colV_set hx a hu.1 hu.2) b hv.1 hv.2, hc, by simpa using ha, by simpa using hb, hab⟩
  obtain ⟨w, hw9⟩ := Option.isSome_iff_exists.1 hs
  have hf : fillF ((xs.set a u).set b v) a b c = some w := hs2.1.trans hw9
  refine ⟨by unfold fillV; rw [hw2, Int.toNat_natCast, Int.toNat_natCast, hf]; rfl, ?_⟩
  have e1 : fillL xs a b c = fillR xs a b c.1 w := by simp [fillL, hw, hw9]
  have e2 : fillL ((xs.set a u).set b v) a b c = fillR ((xs.set a u).set b v) a b c.1 w := by simp [fillL, hw2, hf]
  rw [e1, e2, hs2.2]
/-- two lost columns are found -/
theorem fill_found {xs : List Int} (hx : colV xs = true) {a b : Nat} (ha : a < xs.length) (hb : b < xs.length) (hab : a ≠ b) :
    fillV ((xs.set a 0).set b 0) a b (chk xs) = true ∧ fillL ((xs.set a 0).set b 0) a b (chk xs) = xs := by
  obtain ⟨f1, f2⟩ := fill_two hx ha hb hab
  have hw : fillW xs a b (chk xs) = true := fillW_iff.2 ⟨hx, chk_rng xs, by omega, by omega, by omega⟩
  have hv : fillV xs a b (chk xs) = true := by unfold fillV; rw [hw, Int.toNat_natCast, Int.toNat_natCast, f1]; rfl
  obtain ⟨g1, g2⟩ := fill_other hv (u := 0) (v := 0) (by omega) (by omega)
  refine ⟨g1, g2.trans ?_⟩
  have e1 : fillL xs a b (chk xs) = fillR xs a b (chk xs).1 ((xs.getD a 0).toNat : Nat) := by simp [fillL, hw, f1]
  rw [e1, f2]
theorem fill_found2 {xs : List Int} (hx : colV xs = true) {a b : Nat} (ha : a < xs.length) (hb : b < xs.length) (hab : a ≠ b) :
    fillV ((xs.set a 0).set b 0) b a (chk xs) = true ∧ fillL ((xs.set a 0).set b 0) b a (chk xs) = xs := by
  rw [List.set_comm _ _ hab]
  exact fill_found hx hb ha (fun e => hab e.symm)
theorem drewN0K (w : World) (q : Nat) : (w.drewN 0).drewN q = w.drewN q := rfl
end Go.Proofs.Ytldbcenipahkfaa
