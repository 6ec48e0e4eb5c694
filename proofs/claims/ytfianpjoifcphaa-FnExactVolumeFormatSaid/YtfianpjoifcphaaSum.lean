/-
  Sums of words: impl.SumWords and the model's own: each returns sumFrom 7 of the words that it reads.
-/
import Derived.Test.YtfianpjoifcphaaBase
namespace Go.Proofs.Ytfianpjoifcphaa
open Go.RowKit
set_option linter.unusedVariables false
set_option maxRecDepth 100000

def sumFrom (s : Int) : List Int → Int
  | [] => s
  | x :: xs => if x < 0 ∨ 9999 < x then -1 else sumFrom ((31 * s + x + 1) % 9973) xs

theorem sumFrom_drop (s : Int) (xs : List Int) (k : Nat) (h : k < xs.length) :
    sumFrom s (xs.drop k) = if xs.getD k 0 < 0 ∨ 9999 < xs.getD k 0 then -1 else sumFrom ((31 * s + xs.getD k 0 + 1) % 9973) (xs.drop (k + 1)) := by
  rw [List.drop_eq_getElem_cons h, sumFrom]
  simp [List.getD, h]

def okW (x : Int) : Bool := decide (0 ≤ x ∧ x ≤ 9999)
def allW (xs : List Int) : Bool := xs.all okW

theorem allW_drop (xs : List Int) (k : Nat) (h : k < xs.length) : allW (xs.drop k) = (okW (xs.getD k 0) && allW (xs.drop (k + 1))) := by
  rw [List.drop_eq_getElem_cons h]
  unfold allW
  rw [List.all_cons]
  simp [List.getD, h]

theorem sumFrom_allW (xs : List Int) : ∀ s, allW xs = false → sumFrom s xs = -1 := by
  induction xs with
  | nil => intro s h; simp [allW] at h
  | cons x xs ih =>
    intro s h
    unfold sumFrom
    by_cases hx : x < 0 ∨ 9999 < x
    · rw [if_pos hx]
    · rw [if_neg hx]
      refine ih _ ?_
      have h' : okW x = true := by simp [okW]; omega
      simpa [allW, h'] using h

theorem sumFrom_rng (xs : List Int) : ∀ s, 0 ≤ s → s < 9973 → allW xs = true → 0 ≤ sumFrom s xs ∧ sumFrom s xs < 9973 := by
  induction xs with
  | nil => intro s h0 h1 _; exact ⟨h0, h1⟩
  | cons x xs ih =>
    intro s h0 h1 h
    have h' : okW x = true ∧ allW xs = true := by simpa [allW] using h
    have hx : 0 ≤ x ∧ x ≤ 9999 := by simpa [okW] using h'.1
    unfold sumFrom
    rw [if_neg (by omega)]
    exact ih _ (by omega) (by omega) h'.2

theorem sumFrom_lt (xs : List Int) : -1 ≤ sumFrom 7 xs ∧ sumFrom 7 xs < 9973 := by
  by_cases h : allW xs = true
  · have := sumFrom_rng xs 7 (by omega) (by omega) h
    omega
  · have := sumFrom_allW xs 7 (by simpa using h)
    omega

set_option maxHeartbeats 400000 in
theorem implSum (A : Option Addr) (n c B : Nat) (xs : List Int) (w : World) (hr : Ints w B A n xs) (hn : n ≤ maxLen) :
    Calls Try.prog 42 #[.slice A n c] w fun e w' => e = .returned (.int .i64 (sumFrom 7 xs)) ∧ w = w' := by
  unfold maxLen at hn
  have HL := hide hr.1
  go_enter Try.func42, Try.ntmps42
  go_wp2
  go_loop [3, 8] (fun s i => ∃ (k : Nat) (t : Int), k ≤ n ∧ i = .int .i64 k ∧ 0 ≤ t ∧ t < 9973 ∧ s = .int .i64 t ∧ Hid (sumFrom 7 xs = sumFrom t (xs.drop k))) (fun _ i => n - (intOf i).toNat)
  case atStart => exact ⟨0, 7, Nat.zero_le _, rfl, by omega, by omega, rfl, rfl⟩
  case round =>
    obtain ⟨k, t, hk, rfl, ht0, ht1, rfl, HS⟩ := hrel
    by_cases hlt : k < n
    · have hl := HL.out
      have hd := sumFrom_drop t xs k (by omega)
      obtain ⟨ad, rfl, hb, hc⟩ := hr.at_ hlt
      have HX : Hid (_ = _) := HS.out.trans hd
      clear hd hl hr HS
      generalize xs.getD k 0 = x at hc HX
      by_cases h1 : x < 0
      · go_wp2
        go_ret
        exact ⟨ret_int (by rw [HX.out, if_pos (.inl h1)]), rfl⟩
      · by_cases h2 : 9999 < x
        · go_wp2
          go_ret
          exact ⟨ret_int (by rw [HX.out, if_pos (.inr h2)]), rfl⟩
        · go_wp2
          go_round
          case rel => exact ⟨k + 1, _, by omega, by go_num, by omega, by omega, rfl, by rw [HX.out, if_neg (by omega)]; rfl⟩
          case measure => simp [intOf]; omega
    · go_wp2
      go_ret
      exact ⟨ret_int (by rw [HS.out, List.drop_of_length_le (by have := HL.out; omega)]; rfl), rfl⟩

def inB (n lo hi : Int) : Bool := decide (lo ≤ n) && decide (n ≤ hi)
theorem inB_true {n lo hi : Int} (h1 : lo ≤ n) (h2 : n ≤ hi) : inB n lo hi = true := by simp [inB, h1, h2]
theorem inB_iff {n lo hi : Int} : inB n lo hi = true ↔ lo ≤ n ∧ n ≤ hi := by simp [inB]

set_option maxHeartbeats 400000 in
theorem in_any (n lo hi : Int) (w : World) :
    Calls Try.prog 31 #[.int .i64 n, .int .i64 lo, .int .i64 hi] w fun e w' => e = .returned (.bool (inB n lo hi)) ∧ w = w' := by
  by_cases h1 : lo ≤ n
  · by_cases h2 : n ≤ hi
    · go_enter Try.func31, Try.ntmps31
      go_wp2
      go_ret
      exact ⟨ret_bool (by simp [inB, h1, h2]), rfl⟩
    · have h2' : decide (n ≤ hi) = false := by simpa using h2
      go_enter Try.func31, Try.ntmps31
      go_wp2
      go_ret
      exact ⟨ret_bool (by simp [inB, h2']), rfl⟩
  · have h1' : decide (lo ≤ n) = false := by simpa using h1
    go_enter Try.func31, Try.ntmps31
    go_wp2
    go_ret
    exact ⟨ret_bool (by simp [inB, h1']), rfl⟩
theorem in_yes (n lo hi : Int) (w : World) (h : inB n lo hi = true) :
    Calls Try.prog 31 #[.int .i64 n, .int .i64 lo, .int .i64 hi] w fun e w' => e = .returned (.bool true) ∧ w = w' := h ▸ in_any n lo hi w
theorem in_no (n lo hi : Int) (w : World) (h : inB n lo hi = false) :
    Calls Try.prog 31 #[.int .i64 n, .int .i64 lo, .int .i64 hi] w fun e w' => e = .returned (.bool false) ∧ w = w' := h ▸ in_any n lo hi w

theorem okW_inB (x : Int) : okW x = inB x 0 9999 := by simp [okW, inB]

set_option maxHeartbeats 400000 in
theorem words_any (A : Option Addr) (n c B : Nat) (xs : List Int) (w : World) (hr : Ints w B A n xs) (hn : n ≤ maxLen) :
    Calls Try.prog 30 #[.slice A n c] w fun e w' => e = .returned (.bool (allW xs)) ∧ w = w' := by
  unfold maxLen at hn
  have HL := hide hr.1
  go_enter Try.func30, Try.ntmps30
  go_wp2
  go_loop [3] (fun i => ∃ (k : Nat), k ≤ n ∧ i = .int .i64 k ∧ Hid (allW xs = allW (xs.drop k))) (fun i => n - (intOf i).toNat)
  case atStart => exact ⟨0, Nat.zero_le _, rfl, rfl⟩
  case round =>
    obtain ⟨k, hk, rfl, HS⟩ := hrel
    by_cases hlt : k < n
    · have hl := HL.out
      have hd := allW_drop xs k (by omega)
      obtain ⟨ad, rfl, hb, hc⟩ := hr.at_ hlt
      have HX : Hid (_ = _) := HS.out.trans hd
      clear hd hl hr HS
      generalize xs.getD k 0 = x at hc HX
      by_cases h1 : inB x 0 9999 = true
      · have H1 := hide h1
        clear h1
        go_wp2_with (go_at_call 31; refine (in_yes _ _ _ _ H1.out).mono ?_; rintro e w' ⟨rfl, rfl⟩)
        go_round
        case rel => exact ⟨k + 1, by omega, by go_num, by rw [HX.out, okW_inB, H1.out]; rfl⟩
        case measure => simp [intOf]; omega
      · have H1 := hide (Bool.eq_false_iff.2 h1)
        clear h1
        go_wp2_with (go_at_call 31; refine (in_no _ _ _ _ H1.out).mono ?_; rintro e w' ⟨rfl, rfl⟩)
        go_ret
        exact ⟨ret_bool (by rw [HX.out, okW_inB, H1.out]; rfl), rfl⟩
    · go_wp2
      go_ret
      exact ⟨ret_bool (by rw [HS.out, List.drop_of_length_le (by have := HL.out; omega)]; rfl), rfl⟩


end Go.Proofs.Ytfianpjoifcphaa
