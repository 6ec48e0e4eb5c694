/-
  The program's lists of values: slices.Min, slices.Max, slices.Equal, valuesFit.
-/
import Derived.Test.YtiopbgenkalfaaaMods
import Derived.Test.YtiopbgenkalfaaaInts
import Derived.Test.YtiopbgenkalfaaaQo
namespace Go.Proofs.Ytiopbgenkalfaaa
open Go.RowKit
set_option linter.unusedVariables false
set_option maxRecDepth 100000

/-- the smallest of the first k -/
def LeastP (xs : List Int) (k : Nat) (v : Int) : Prop := (∀ j, j < k → v ≤ xs.getD j 0) ∧ ∃ j, j < k ∧ xs.getD j 0 = v
def MostP (xs : List Int) (k : Nat) (v : Int) : Prop := (∀ j, j < k → xs.getD j 0 ≤ v) ∧ ∃ j, j < k ∧ xs.getD j 0 = v
theorem LeastP.keep {xs : List Int} {k : Nat} {v : Int} (h : LeastP xs k v) (hv : v ≤ xs.getD k 0) : LeastP xs (k + 1) v :=
  ⟨fun j hj => by rcases Nat.lt_or_ge j k with h1 | h1; exact h.1 j h1; (have e : j = k := by omega); rw [e]; exact hv, by obtain ⟨j, h1, h2⟩ := h.2; exact ⟨j, by omega, h2⟩⟩
theorem LeastP.turn {xs : List Int} {k : Nat} {v : Int} (h : LeastP xs k v) (hv : xs.getD k 0 ≤ v) : LeastP xs (k + 1) (xs.getD k 0) :=
  ⟨fun j hj => by rcases Nat.lt_or_ge j k with h1 | h1; exact Int.le_trans hv (h.1 j h1); (have e : j = k := by omega); rw [e]; exact Int.le_refl _, ⟨k, by omega, rfl⟩⟩
theorem MostP.keep {xs : List Int} {k : Nat} {v : Int} (h : MostP xs k v) (hv : xs.getD k 0 ≤ v) : MostP xs (k + 1) v :=
  ⟨fun j hj => by rcases Nat.lt_or_ge j k with h1 | h1; exact h.1 j h1; (have e : j = k := by omega); rw [e]; exact hv, by obtain ⟨j, h1, h2⟩ := h.2; exact ⟨j, by omega, h2⟩⟩
theorem MostP.turn {xs : List Int} {k : Nat} {v : Int} (h : MostP xs k v) (hv : v ≤ xs.getD k 0) : MostP xs (k + 1) (xs.getD k 0) :=
  ⟨fun j hj => by rcases Nat.lt_or_ge j k with h1 | h1; exact Int.le_trans (h.1 j h1) hv; (have e : j = k := by omega); rw [e]; exact Int.le_refl _, ⟨k, by omega, rfl⟩⟩

set_option maxHeartbeats 800000 in
theorem min_any (A : Option Addr) (n c B : Nat) (xs : List Int) (w : World) (hr : Ints w B A n xs) (hn : n ≤ maxLen) (h1 : 1 ≤ n) :
    Calls Try.prog 59 #[.slice A n c] w fun e w' => ∃ v, e = .returned (.int .i64 v) ∧ LeastP xs n v ∧ w = w' := by
  unfold maxLen at hn
  have HR := hide hr
  obtain ⟨ad0, e0, _, hc0⟩ := hr.at_ (k := 0) (by omega)
  have hc0' : w.cell? ad0 = some (.int .i64 (xs.getD 0 0)) := hc0
  have HL0 := hide (show LeastP xs 1 (xs.getD 0 0) from ⟨fun j hj => by rw [show j = 0 from by omega]; exact Int.le_refl _, ⟨0, by omega, rfl⟩⟩)
  generalize xs.getD 0 0 = v0 at hc0 hc0' HL0
  subst e0
  clear hr
  go_enter Try.func59, Try.ntmps59
  go_wp2_with fail
  go_loop [3, 4] (fun m i => ∃ (k : Nat) (v : Int), k ≤ n ∧ 1 ≤ k ∧ i = .int .i64 k ∧ m = .int .i64 v ∧ Hid (LeastP xs k v)) (fun _ i => n - (intOf i).toNat)
  case atStart => exact ⟨1, v0, h1, Nat.le_refl _, rfl, rfl, HL0⟩
  case round =>
    clear HL0 hc0 hc0'
    obtain ⟨k, v, hk, hk1, rfl, rfl, HL⟩ := hrel
    by_cases hlt : k < n
    · obtain ⟨ad, e1, hb, hc⟩ := HR.out.at_ hlt
      injection e1 with e1
      subst e1
      have HKE := hide (HL.out.keep (k := k))
      have HTU := hide (HL.out.turn (k := k))
      generalize xs.getD k 0 = y at hc HKE HTU
      by_cases hvy : v ≤ y
      · have H2 := hide (HKE.out hvy)
        have n1 : ¬ y < v := by omega
        have n2 : min v y = v := Int.min_eq_left hvy
        go_wp2
        go_round
        case rel => exact ⟨k + 1, v, by omega, by omega, by go_num, rfl, H2⟩
        case measure => simp [intOf]; omega
      · have H2 := hide (HTU.out (by omega))
        have n1 : y < v := by omega
        have n2 : min v y = y := Int.min_eq_right (by omega)
        go_wp2
        go_round
        case rel => exact ⟨k + 1, y, by omega, by omega, by go_num, rfl, H2⟩
        case measure => simp [intOf]; omega
    · obtain rfl : k = n := by omega
      go_wp2
      go_ret
      exact ⟨v, rfl, HL.out, rfl⟩

set_option maxHeartbeats 800000 in
theorem max_any (A : Option Addr) (n c B : Nat) (xs : List Int) (w : World) (hr : Ints w B A n xs) (hn : n ≤ maxLen) (h1 : 1 ≤ n) :
    Calls Try.prog 60 #[.slice A n c] w fun e w' => ∃ v, e = .returned (.int .i64 v) ∧ MostP xs n v ∧ w = w' := by
  unfold maxLen at hn
  have HR := hide hr
  obtain ⟨ad0, e0, _, hc0⟩ := hr.at_ (k := 0) (by omega)
  have hc0' : w.cell? ad0 = some (.int .i64 (xs.getD 0 0)) := hc0
  have HL0 := hide (show MostP xs 1 (xs.getD 0 0) from ⟨fun j hj => by rw [show j = 0 from by omega]; exact Int.le_refl _, ⟨0, by omega, rfl⟩⟩)
  generalize xs.getD 0 0 = v0 at hc0 hc0' HL0
  subst e0
  clear hr
  go_enter Try.func60, Try.ntmps60
  go_wp2_with fail
  go_loop [3, 4] (fun m i => ∃ (k : Nat) (v : Int), k ≤ n ∧ 1 ≤ k ∧ i = .int .i64 k ∧ m = .int .i64 v ∧ Hid (MostP xs k v)) (fun _ i => n - (intOf i).toNat)
  case atStart => exact ⟨1, v0, h1, Nat.le_refl _, rfl, rfl, HL0⟩
  case round =>
    clear HL0 hc0 hc0'
    obtain ⟨k, v, hk, hk1, rfl, rfl, HL⟩ := hrel
    by_cases hlt : k < n
    · obtain ⟨ad, e1, hb, hc⟩ := HR.out.at_ hlt
      injection e1 with e1
      subst e1
      have HKE := hide (HL.out.keep (k := k))
      have HTU := hide (HL.out.turn (k := k))
      generalize xs.getD k 0 = y at hc HKE HTU
      by_cases hvy : y ≤ v
      · have H2 := hide (HKE.out hvy)
        have n1 : ¬ v < y := by omega
        have n2 : max v y = v := Int.max_eq_left hvy
        go_wp2
        go_round
        case rel => exact ⟨k + 1, v, by omega, by omega, by go_num, rfl, H2⟩
        case measure => simp [intOf]; omega
      · have H2 := hide (HTU.out (by omega))
        have n1 : v < y := by omega
        have n2 : max v y = y := Int.max_eq_right (by omega)
        go_wp2
        go_round
        case rel => exact ⟨k + 1, y, by omega, by omega, by go_num, rfl, H2⟩
        case measure => simp [intOf]; omega
    · obtain rfl : k = n := by omega
      go_wp2
      go_ret
      exact ⟨v, rfl, HL.out, rfl⟩

theorem allN_iff (xs : List Int) : allN xs = true ↔ ∀ j, j < xs.length → 0 ≤ xs.getD j 0 ∧ xs.getD j 0 ≤ 99 := by
  unfold allN
  rw [List.all_eq_true]
  constructor
  · intro h j hj
    have := inB_iff.1 (h xs[j] (List.getElem_mem hj))
    simpa [List.getD, hj] using this
  · intro h x hx
    obtain ⟨j, hj, rfl⟩ := List.getElem_of_mem hx
    have := h j hj
    exact inB_iff.2 (by simpa [List.getD, hj] using this)
theorem nowV_of {xs : List Int} {v u : Int} (hl : xs.length = 12) (h1 : LeastP xs 12 v) (h2 : MostP xs 12 u) : nowV xs = (decide (0 ≤ v) && decide (u ≤ 99)) := by
  rw [Bool.eq_iff_iff]
  unfold nowV
  rw [hl]
  simp only [Bool.and_eq_true, decide_eq_true_eq, and_true]
  rw [allN_iff, hl]
  constructor
  · intro h
    obtain ⟨j, hj, e1⟩ := h1.2
    obtain ⟨i, hi, e2⟩ := h2.2
    have := h j hj
    have := h i hi
    omega
  · rintro ⟨h3, h4⟩ j hj
    have := h1.1 j hj
    have := h2.1 j hj
    omega
set_option maxHeartbeats 800000 in
theorem implFit (A : Option Addr) (n c B : Nat) (xs : List Int) (w : World) (hr : Ints w B A n xs) (hn : n ≤ maxLen) :
    Calls Try.prog 33 #[.slice A n c] w fun e w' => e = .returned (.bool (nowV xs)) ∧ w = w' := by
  by_cases h12 : n = 12
  · subst h12
    have HMI := hide (min_any A 12 c B xs w hr hn (by omega))
    have HMA := hide (max_any A 12 c B xs w hr hn (by omega))
    have HL := hide hr.1
    go_enter Try.func33, Try.ntmps33
    go_wp2_with fail
    refine HMI.out.mono ?_
    rintro e w' ⟨v, rfl, hv, rfl⟩
    have HV := hide hv
    clear hv
    by_cases h0 : 0 ≤ v
    · have h0' : decide (0 ≤ v) = true := decide_eq_true h0
      go_wp2_with fail
      refine HMA.out.mono ?_
      rintro e w' ⟨u, rfl, hu, rfl⟩
      have HE := hide (nowV_of HL.out HV.out hu)
      clear hu
      by_cases h9 : u ≤ 99
      · have h9' : decide (u ≤ 99) = true := decide_eq_true h9
        go_wp2
        go_ret
        exact ⟨ret_bool (by rw [HE.out, h0', h9']; rfl), rfl⟩
      · have h9' : decide (u ≤ 99) = false := decide_eq_false h9
        go_wp2
        go_ret
        exact ⟨ret_bool (by rw [HE.out, h9']; simp), rfl⟩
    · have h0' : decide (0 ≤ v) = false := decide_eq_false h0
      have HE := hide (show nowV xs = false by
        rcases h : nowV xs with _ | _
        · rfl
        · obtain ⟨j, hj, e1⟩ := HV.out.2
          have := (allN_iff xs).1 (nowV_all h) j (by rw [HL.out]; exact hj)
          omega)
      go_wp2
      go_ret
      exact ⟨ret_bool HE.out.symm, rfl⟩
  · have h12' : ((n : Int) == 12) = false := by simp; omega
    have HE := hide (show nowV xs = false by unfold nowV; rw [hr.1, decide_eq_false h12, Bool.and_false])
    go_enter Try.func33, Try.ntmps33
    go_wp2
    go_ret
    exact ⟨ret_bool HE.out.symm, rfl⟩

set_option maxHeartbeats 800000 in
theorem equal_any (A A' : Option Addr) (n c m d B B' : Nat) (xs ys : List Int) (w : World) (hx : Ints w B A n xs) (hy : Ints w B' A' m ys) (hn : n ≤ maxLen) (hm : m ≤ maxLen) :
    Calls Try.prog 69 #[.slice A n c, .slice A' m d] w fun e w' => e = .returned (.bool (decide (xs = ys))) ∧ ∃ q, w' = w.drewN q := by
  unfold maxLen at hn hm
  have HX := hide hx
  have HY := hide hy
  clear hx hy
  by_cases hnm : n = m
  · subst hnm
    go_enter Try.func69, Try.ntmps69
    go_wp2_with fail
    go_loopw [13] (fun i wr => ∃ k q : Nat, k ≤ n ∧ i = .int .i64 k ∧ wr = w.drewN q ∧ Hid (xs.take k = ys.take k)) (fun i _ => n - (intOf i).toNat)
    case atStart => exact ⟨0, 0, Nat.zero_le _, rfl, rfl, rfl⟩
    case round =>
      obtain ⟨k, q, hk, rfl, rfl, HT⟩ := hrel
      by_cases hlt : k < n
      · obtain ⟨ad, rfl, hb, hc⟩ := HX.out.at_ hlt
        obtain ⟨ad', rfl, hb', hc'⟩ := HY.out.at_ hlt
        have HE := hide (take_eq_succ xs ys k (by rw [HX.out.1]; exact hlt) (by rw [HY.out.1]; exact hlt) HT.out)
        have k0 : (0 : Int) ≤ (k : Int) := by omega
        have k1 : (k : Int) < (n : Int) := by omega
        generalize xs.getD k 0 = x at hc HE
        generalize ys.getD k 0 = y at hc' HE
        by_cases hxy : x = y
        · subst hxy
          go_wp2_with fail
          go_quiet (fail)
          go_wp2
          go_roundw
          case rel => exact ⟨k + 1, _, by omega, by go_num, rfl, HE.out.1 (by trivial)⟩
          case measure => simp [intOf]; omega
        · have hxy' : (x != y) = true := by simpa using hxy
          go_wp2_with fail
          go_quiet (fail)
          go_wp2
          go_ret
          exact ⟨ret_bool (by simpa using HE.out.2 hxy), _, World.drewN_drewN _ _ _⟩
      · obtain rfl : k = n := by omega
        go_wp2
        go_ret
        refine ⟨ret_bool ?_, q, rfl⟩
        have h := HT.out
        rw [List.take_of_length_le (by rw [HX.out.1]; exact Nat.le_refl _), List.take_of_length_le (by rw [HY.out.1]; exact Nat.le_refl _)] at h
        simpa using h
  · have h' : ((n : Int) != (m : Int)) = true := by simp; omega
    have hne : xs ≠ ys := fun e => hnm (by rw [← HX.out.1, ← HY.out.1, e])
    have HN := hide hne
    clear hne
    go_enter Try.func69, Try.ntmps69
    go_wp2
    go_ret
    exact ⟨ret_bool (by simpa using HN.out), 0, rfl⟩
end Go.Proofs.Ytiopbgenkalfaaa
