/-
  The laws' helpers on lists of integers: a copy (toIntS), equality (eqIntS, sameInts), marks (markIntS, heldIntS), a count (szIntS).
-/
import Derived.Test.YtiopbgenkalfaaaBase
namespace Go.Proofs.Ytiopbgenkalfaaa
open Go.RowKit
set_option linter.unusedVariables false
set_option maxRecDepth 100000

theorem replicate_set_succ (n k : Nat) (xs : List Int) (h : k < xs.length) (hn : xs.length = n) :
    (xs.take k ++ List.replicate (n - k) 0).set k (xs.getD k 0) = xs.take (k + 1) ++ List.replicate (n - (k + 1)) 0 := by
  have hl : (xs.take k).length = k := by rw [List.length_take]; omega
  rw [List.set_append_right _ _ (by omega), hl, Nat.sub_self]
  have : n - k = (n - (k + 1)) + 1 := by omega
  have e : xs.getD k 0 = xs[k] := by simp [List.getD, h]
  rw [this, List.replicate_succ, List.set_cons_zero, List.take_succ_eq_append_getElem h, e, List.append_assoc]
  rfl

set_option maxHeartbeats 800000 in
theorem toInts_any (A : Option Addr) (n c B : Nat) (xs : List Int) (w : World) (hr : Ints w B A n xs) (hB : B ≤ w.heap.size) (hn : n ≤ 17592186044416) :
    Calls Try.prog 19 #[.slice A n c] w fun e w' => ∃ A2 c2, e = .returned (.slice A2 n c2) ∧ Own w' w.heap.size A2 n c2 xs ∧ Below w.heap.size w w' := by
  obtain ⟨i0, hi, hz0, hz1, hz2⟩ := info_parts info_int
  have HR := hide hr
  clear hr
  go_enter Try.func19, Try.ntmps19
  go_wp2_with (at_make; refine wpList_make_full _ rfl _ _ 23 rfl w.heap.size 3 i0 (.int .i64 0) 1 Try.underlying23 hi hz0 hz1 .i64 .i64 _ _ n rfl rfl rfl rfl (by rw [hz2]; omega) (by unfold maxLen; omega) (Nat.le_refl _) ?_; intro w1 hown hgrow)
  have ho : Own w1 w.heap.size (some ⟨w.heap.size, 0, none⟩) n n (List.replicate n 0) := by
    refine ⟨by simp, ?_⟩
    have e : (madeCells (Value.int .i64 0).cells (n * 1)).toList = (List.replicate n (0 : Int)).map (Value.int .i64) := by
      rw [Nat.mul_one]
      show (madeCells #[Value.int .i64 0] n).toList = _
      rw [toList_madeCells_one, List.map_replicate]
    rw [← e]
    exact hown
  have hB1 : Below w.heap.size w w1 := below_of_grown hgrow
  clear hown hgrow hi hz0 hz1 hz2
  go_loopw [4] (fun i wr => ∃ k : Nat, k ≤ n ∧ i = .int .i64 k ∧ Own wr w.heap.size (some ⟨w.heap.size, 0, none⟩) n n (xs.take k ++ List.replicate (n - k) 0) ∧ Below w.heap.size w wr)
    (fun i _ => n - (intOf i).toNat)
  case atStart => exact ⟨0, Nat.zero_le _, rfl, by simpa using ho, hB1⟩
  case round =>
    clear ho hB1
    obtain ⟨k, hk, rfl, hown, hbel⟩ := hrel
    have HL := hide HR.out.1
    by_cases hlt : k < n
    · have hI := HR.out.below hbel hB
      obtain ⟨ad, rfl, hb, hc⟩ := hI.at_ hlt
      have hfree := hown.free (g := w.heap.size) (j := k)
      have hcell := hown.cell (g := w.heap.size) (j := k) hlt
      have hst := hown.stored (g := w.heap.size) (j := k) (xs.getD k 0)
      have hset := replicate_set_succ n k xs (by rw [HL.out]; exact hlt) HL.out
      rw [hset] at hst
      have HS := hide hst
      have HB := hide (hbel.grown hst.2 hbel.size (by intro g hg; injection hg with hg; omega))
      clear hst hset hown hbel hI HR
      generalize xs.getD k 0 = x at hc HS HB
      generalize (List.take k xs ++ List.replicate (n - k) 0).getD k 0 = y at hcell
      go_wp2
      go_roundw
      case rel => exact ⟨k + 1, by omega, by go_num, HS.out.1, HB.out⟩
      case measure => simp [intOf]; omega
    · obtain rfl : k = n := by omega
      go_wp2
      go_ret
      refine ⟨_, _, rfl, ?_, hbel⟩
      rw [List.take_of_length_le (by rw [HL.out]; exact Nat.le_refl _)] at hown
      simpa using hown

theorem take_eq_succ (xs ys : List Int) (k : Nat) (hx : k < xs.length) (hy : k < ys.length) (h : xs.take k = ys.take k) :
    (xs.getD k 0 = ys.getD k 0 → xs.take (k + 1) = ys.take (k + 1)) ∧ (xs.getD k 0 ≠ ys.getD k 0 → xs ≠ ys) := by
  refine ⟨fun e => ?_, fun e h => e (by rw [h])⟩
  rw [List.take_succ_eq_append_getElem hx, List.take_succ_eq_append_getElem hy, h]
  have : xs[k] = ys[k] := by simpa [List.getD, hx, hy] using e
  rw [this]

set_option maxHeartbeats 800000 in
theorem eqIntS_any (A A' : Option Addr) (n c m d B B' : Nat) (xs ys : List Int) (w : World) (hx : Ints w B A n xs) (hy : Ints w B' A' m ys) (hn : n ≤ maxLen) (hm : m ≤ maxLen) :
    Calls Try.prog 21 #[.slice A n c, .slice A' m d] w fun e w' => e = .returned (.bool (decide (xs = ys))) ∧ ∃ q, w' = w.drewN q := by
  unfold maxLen at hn hm
  have HX := hide hx
  have HY := hide hy
  clear hx hy
  by_cases hnm : n = m
  · subst hnm
    go_enter Try.func21, Try.ntmps21
    go_wp2
    go_loopw [5] (fun i wr => ∃ k q : Nat, k ≤ n ∧ i = .int .i64 k ∧ wr = w.drewN q ∧ Hid (xs.take k = ys.take k)) (fun i _ => n - (intOf i).toNat)
    case atStart => exact ⟨0, 0, Nat.zero_le _, rfl, rfl, rfl⟩
    case round =>
      obtain ⟨k, q, hk, rfl, rfl, HT⟩ := hrel
      by_cases hlt : k < n
      · obtain ⟨ad, rfl, hb, hc⟩ := HX.out.at_ hlt
        obtain ⟨ad', rfl, hb', hc'⟩ := HY.out.at_ hlt
        have HE := hide (take_eq_succ xs ys k (by rw [HX.out.1]; exact hlt) (by rw [HY.out.1]; exact hlt) HT.out)
        have k0 : (0 : Int) ≤ (k : Int) := by omega
        have k1 : (k : Int) < (n : Int) := by omega
        generalize xs.getD k 0 = x at hc HE
        generalize ys.getD k 0 = y at hc' HE
        by_cases hxy : x = y
        · subst hxy
          go_wp2_with fail
          go_quiet (fail)
          go_wp2
          go_roundw
          case rel => exact ⟨k + 1, _, by omega, by go_num, rfl, HE.out.1 (by trivial)⟩
          case measure => simp [intOf]; omega
        · have hxy' : (x != y) = true := by simpa using hxy
          go_wp2_with fail
          go_quiet (fail)
          go_wp2
          go_ret
          exact ⟨ret_bool (by simpa using HE.out.2 hxy), _, World.drewN_drewN _ _ _⟩
      · obtain rfl : k = n := by omega
        go_wp2
        go_ret
        refine ⟨ret_bool ?_, q, rfl⟩
        have h := HT.out
        rw [List.take_of_length_le (by rw [HX.out.1]; exact Nat.le_refl _), List.take_of_length_le (by rw [HY.out.1]; exact Nat.le_refl _)] at h
        simpa using h
  · have h' : ((n : Int) != (m : Int)) = true := by simp; omega
    have hne : xs ≠ ys := fun e => hnm (by rw [← HX.out.1, ← HY.out.1, e])
    have HN := hide hne
    clear hne
    go_enter Try.func21, Try.ntmps21
    go_wp2
    go_ret
    exact ⟨ret_bool (by simpa using HN.out), 0, rfl⟩
theorem eqIntS_yes (A A' : Option Addr) (n c m d B B' : Nat) (xs ys : List Int) (w : World) (hx : Ints w B A n xs) (hy : Ints w B' A' m ys) (hn : n ≤ maxLen) (hm : m ≤ maxLen) (h : xs = ys) :
    Calls Try.prog 21 #[.slice A n c, .slice A' m d] w fun e w' => e = .returned (.bool true) ∧ ∃ q, w' = w.drewN q :=
  (eqIntS_any A A' n c m d B B' xs ys w hx hy hn hm).mono fun e w' ⟨he, hw⟩ => ⟨by rw [he, decide_eq_true h], hw⟩
theorem eqIntS_no (A A' : Option Addr) (n c m d B B' : Nat) (xs ys : List Int) (w : World) (hx : Ints w B A n xs) (hy : Ints w B' A' m ys) (hn : n ≤ maxLen) (hm : m ≤ maxLen) (h : xs ≠ ys) :
    Calls Try.prog 21 #[.slice A n c, .slice A' m d] w fun e w' => e = .returned (.bool false) ∧ ∃ q, w' = w.drewN q :=
  (eqIntS_any A A' n c m d B B' xs ys w hx hy hn hm).mono fun e w' ⟨he, hw⟩ => ⟨by rw [he, decide_eq_false h], hw⟩

set_option maxHeartbeats 800000 in
theorem sameInts_any (A A' : Option Addr) (n c m d B B' : Nat) (xs ys : List Int) (w : World) (hx : Ints w B A n xs) (hy : Ints w B' A' m ys) (hn : n ≤ maxLen) (hm : m ≤ maxLen) :
    Calls Try.prog 14 #[.slice A n c, .slice A' m d] w fun e w' => e = .returned (.bool (decide (xs = ys))) ∧ ∃ q, w' = w.drewN q := by
  unfold maxLen at hn hm
  have HX := hide hx
  have HY := hide hy
  clear hx hy
  by_cases hnm : n = m
  · subst hnm
    go_enter Try.func14, Try.ntmps14
    go_wp2
    go_loopw [5] (fun i wr => ∃ k q : Nat, k ≤ n ∧ i = .int .i64 k ∧ wr = w.drewN q ∧ Hid (xs.take k = ys.take k)) (fun i _ => n - (intOf i).toNat)
    case atStart => exact ⟨0, 0, Nat.zero_le _, rfl, rfl, rfl⟩
    case round =>
      obtain ⟨k, q, hk, rfl, rfl, HT⟩ := hrel
      by_cases hlt : k < n
      · obtain ⟨ad, rfl, hb, hc⟩ := HX.out.at_ hlt
        obtain ⟨ad', rfl, hb', hc'⟩ := HY.out.at_ hlt
        have HE := hide (take_eq_succ xs ys k (by rw [HX.out.1]; exact hlt) (by rw [HY.out.1]; exact hlt) HT.out)
        have k0 : (0 : Int) ≤ (k : Int) := by omega
        have k1 : (k : Int) < (n : Int) := by omega
        generalize xs.getD k 0 = x at hc HE
        generalize ys.getD k 0 = y at hc' HE
        by_cases hxy : x = y
        · subst hxy
          go_wp2_with fail
          go_quiet (fail)
          go_wp2
          go_roundw
          case rel => exact ⟨k + 1, _, by omega, by go_num, rfl, HE.out.1 (by trivial)⟩
          case measure => simp [intOf]; omega
        · have hxy' : (x != y) = true := by simpa using hxy
          go_wp2_with fail
          go_quiet (fail)
          go_wp2
          go_ret
          exact ⟨ret_bool (by simpa using HE.out.2 hxy), _, World.drewN_drewN _ _ _⟩
      · obtain rfl : k = n := by omega
        go_wp2
        go_ret
        refine ⟨ret_bool ?_, q, rfl⟩
        have h := HT.out
        rw [List.take_of_length_le (by rw [HX.out.1]; exact Nat.le_refl _), List.take_of_length_le (by rw [HY.out.1]; exact Nat.le_refl _)] at h
        simpa using h
  · have h' : ((n : Int) != (m : Int)) = true := by simp; omega
    have hne : xs ≠ ys := fun e => hnm (by rw [← HX.out.1, ← HY.out.1, e])
    have HN := hide hne
    clear hne
    go_enter Try.func14, Try.ntmps14
    go_wp2
    go_ret
    exact ⟨ret_bool (by simpa using HN.out), 0, rfl⟩
theorem sameInts_yes (A A' : Option Addr) (n c m d B B' : Nat) (xs ys : List Int) (w : World) (hx : Ints w B A n xs) (hy : Ints w B' A' m ys) (hn : n ≤ maxLen) (hm : m ≤ maxLen) (h : xs = ys) :
    Calls Try.prog 14 #[.slice A n c, .slice A' m d] w fun e w' => e = .returned (.bool true) ∧ ∃ q, w' = w.drewN q :=
  (sameInts_any A A' n c m d B B' xs ys w hx hy hn hm).mono fun e w' ⟨he, hw⟩ => ⟨by rw [he, decide_eq_true h], hw⟩
theorem sameInts_no (A A' : Option Addr) (n c m d B B' : Nat) (xs ys : List Int) (w : World) (hx : Ints w B A n xs) (hy : Ints w B' A' m ys) (hn : n ≤ maxLen) (hm : m ≤ maxLen) (h : xs ≠ ys) :
    Calls Try.prog 14 #[.slice A n c, .slice A' m d] w fun e w' => e = .returned (.bool false) ∧ ∃ q, w' = w.drewN q :=
  (sameInts_any A A' n c m d B B' xs ys w hx hy hn hm).mono fun e w' ⟨he, hw⟩ => ⟨by rw [he, decide_eq_false h], hw⟩

set_option maxHeartbeats 800000 in
theorem l42Same_any (A A' : Option Addr) (n c m d B B' : Nat) (xs ys : List Int) (w : World) (hx : Ints w B A n xs) (hy : Ints w B' A' m ys) (hn : n ≤ maxLen) (hm : m ≤ maxLen) :
    Calls Try.prog 46 #[.slice A n c, .slice A' m d] w fun e w' => e = .returned (.bool (decide (xs = ys))) ∧ ∃ q, w' = w.drewN q := by
  unfold maxLen at hn hm
  have HX := hide hx
  have HY := hide hy
  clear hx hy
  by_cases hnm : n = m
  · subst hnm
    go_enter Try.func46, Try.ntmps46
    go_wp2
    go_loopw [5] (fun i wr => ∃ k q : Nat, k ≤ n ∧ i = .int .i64 k ∧ wr = w.drewN q ∧ Hid (xs.take k = ys.take k)) (fun i _ => n - (intOf i).toNat)
    case atStart => exact ⟨0, 0, Nat.zero_le _, rfl, rfl, rfl⟩
    case round =>
      obtain ⟨k, q, hk, rfl, rfl, HT⟩ := hrel
      by_cases hlt : k < n
      · obtain ⟨ad, rfl, hb, hc⟩ := HX.out.at_ hlt
        obtain ⟨ad', rfl, hb', hc'⟩ := HY.out.at_ hlt
        have HE := hide (take_eq_succ xs ys k (by rw [HX.out.1]; exact hlt) (by rw [HY.out.1]; exact hlt) HT.out)
        have k0 : (0 : Int) ≤ (k : Int) := by omega
        have k1 : (k : Int) < (n : Int) := by omega
        generalize xs.getD k 0 = x at hc HE
        generalize ys.getD k 0 = y at hc' HE
        by_cases hxy : x = y
        · subst hxy
          go_wp2_with fail
          go_quiet (fail)
          go_wp2
          go_roundw
          case rel => exact ⟨k + 1, _, by omega, by go_num, rfl, HE.out.1 (by trivial)⟩
          case measure => simp [intOf]; omega
        · have hxy' : (x != y) = true := by simpa using hxy
          go_wp2_with fail
          go_quiet (fail)
          go_wp2
          go_ret
          exact ⟨ret_bool (by simpa using HE.out.2 hxy), _, World.drewN_drewN _ _ _⟩
      · obtain rfl : k = n := by omega
        go_wp2
        go_ret
        refine ⟨ret_bool ?_, q, rfl⟩
        have h := HT.out
        rw [List.take_of_length_le (by rw [HX.out.1]; exact Nat.le_refl _), List.take_of_length_le (by rw [HY.out.1]; exact Nat.le_refl _)] at h
        simpa using h
  · have h' : ((n : Int) != (m : Int)) = true := by simp; omega
    have hne : xs ≠ ys := fun e => hnm (by rw [← HX.out.1, ← HY.out.1, e])
    have HN := hide hne
    clear hne
    go_enter Try.func46, Try.ntmps46
    go_wp2
    go_ret
    exact ⟨ret_bool (by simpa using HN.out), 0, rfl⟩
theorem l42Same_yes (A A' : Option Addr) (n c m d B B' : Nat) (xs ys : List Int) (w : World) (hx : Ints w B A n xs) (hy : Ints w B' A' m ys) (hn : n ≤ maxLen) (hm : m ≤ maxLen) (h : xs = ys) :
    Calls Try.prog 46 #[.slice A n c, .slice A' m d] w fun e w' => e = .returned (.bool true) ∧ ∃ q, w' = w.drewN q :=
  (l42Same_any A A' n c m d B B' xs ys w hx hy hn hm).mono fun e w' ⟨he, hw⟩ => ⟨by rw [he, decide_eq_true h], hw⟩
theorem l42Same_no (A A' : Option Addr) (n c m d B B' : Nat) (xs ys : List Int) (w : World) (hx : Ints w B A n xs) (hy : Ints w B' A' m ys) (hn : n ≤ maxLen) (hm : m ≤ maxLen) (h : xs ≠ ys) :
    Calls Try.prog 46 #[.slice A n c, .slice A' m d] w fun e w' => e = .returned (.bool false) ∧ ∃ q, w' = w.drewN q :=
  (l42Same_any A A' n c m d B B' xs ys w hx hy hn hm).mono fun e w' ⟨he, hw⟩ => ⟨by rw [he, decide_eq_false h], hw⟩

end Go.Proofs.Ytiopbgenkalfaaa
