/-
  Frames: which are valid (impl.FrameValid and the model's), their words (impl.FramePut and the model's).
-/
import Derived.Test.YtcocboigjfjnfabSum
namespace Go.Proofs.Ytcocboigjfjnfab
open Go.RowKit
set_option linter.unusedVariables false
set_option maxRecDepth 100000

def validF (k s : Int) (body : List Int) : Bool := inB k 1 2 && inB s 1 999 && inB body.length 1 18 && allW body
theorem validF_iff {k s : Int} {body : List Int} : validF k s body = true ↔ (1 ≤ k ∧ k ≤ 2) ∧ (1 ≤ s ∧ s ≤ 999) ∧ (1 ≤ (body.length : Int) ∧ (body.length : Int) ≤ 18) ∧ allW body = true := by
  simp [validF, inB, and_assoc]

theorem below_box (w : World) (o : Obj) : Below w.heap.size w (w.alloc o) := (Below.refl _ _).alloc (Nat.le_refl _) o

theorem sum_ge (xs : List Int) : decide (0 ≤ sumFrom 7 xs) = allW xs := by
  rcases h : allW xs with _ | _
  · rw [sumFrom_allW _ _ h]; rfl
  · have := (sumFrom_rng xs 7 (by omega) (by omega) h).1
    simpa using this

set_option maxHeartbeats 1000000 in
theorem implValid (k s : Int) (A : Option Addr) (n c B : Nat) (xs : List Int) (w : World) (hr : Ints w B A n xs) (hB : B ≤ w.heap.size) (hn : n ≤ maxLen) :
    Calls Try.prog 53 #[.agg #[.int .i64 k, .int .i64 s, .slice A n c]] w fun e w' => e = .returned (.bool (validF k s xs)) ∧ Below w.heap.size w w' := by
  have hn' : n ≤ 9223372036854775807 := by unfold maxLen at hn; omega
  have HR := hide hr
  have HL := hide hr.1
  have hrest : ∀ (b : Bool), Hid (b = (inB k 1 2 && inB s 1 999 && inB xs.length 1 18 && allW xs)) → Hid (validF k s xs = b) := fun b h => h.out.symm
  clear hr
  by_cases hk : 1 ≤ k ∧ k ≤ 2
  · have hk1 := inB_true hk.1 hk.2
    by_cases hs0 : s < 1
    · have hX : validF k s xs = false := by rw [Bool.eq_false_iff]; intro h; have := validF_iff.1 h; omega
      have HX := hide hX
      clear hX hrest hk1
      have hk3 : k = 1 ∨ k = 2 := by omega
      clear hk
      rcases hk3 with rfl | rfl
      all_goals
        go_enter Try.func53, Try.ntmps53
        go_wp2
        go_ret
        exact ⟨ret_bool HX.out.symm, below_box _ _⟩
    · by_cases hs1 : 999 < s
      · have hX : validF k s xs = false := by rw [Bool.eq_false_iff]; intro h; have := validF_iff.1 h; omega
        have HX := hide hX
        clear hX hrest hk1
        have hk3 : k = 1 ∨ k = 2 := by omega
        clear hk
        rcases hk3 with rfl | rfl
        all_goals
          go_enter Try.func53, Try.ntmps53
          go_wp2
          go_ret
          exact ⟨ret_bool HX.out.symm, below_box _ _⟩
      · by_cases hn0 : n < 1
        · have hX : validF k s xs = false := by rw [Bool.eq_false_iff]; intro h; have := validF_iff.1 h; have := HL.out; omega
          have HX := hide hX
          clear hX hrest hk1
          have hk3 : k = 1 ∨ k = 2 := by omega
          clear hk
          rcases hk3 with rfl | rfl
          all_goals
            go_enter Try.func53, Try.ntmps53
            go_wp2
            go_ret
            exact ⟨ret_bool HX.out.symm, below_box _ _⟩
        · by_cases hn1 : 18 < n
          · have hX : validF k s xs = false := by rw [Bool.eq_false_iff]; intro h; have := validF_iff.1 h; have := HL.out; omega
            have HX := hide hX
            clear hX hrest hk1
            have hk3 : k = 1 ∨ k = 2 := by omega
            clear hk
            rcases hk3 with rfl | rfl
            all_goals
              go_enter Try.func53, Try.ntmps53
              go_wp2
              go_ret
              exact ⟨ret_bool HX.out.symm, below_box _ _⟩
          · have hX : validF k s xs = decide (0 ≤ sumFrom 7 xs) := by
              rw [sum_ge]; unfold validF; rw [hk1, inB_true (by omega) (by omega), inB_true (by have := HL.out; omega) (by have := HL.out; omega)]; rfl
            have HX := hide hX
            clear hX hrest hk1
            have hk3 : k = 1 ∨ k = 2 := by omega
            clear hk
            have hI := fun o : Obj => (HR.out.alloc hB o)
            have HI := hide hI
            have HC : Hid (∀ W : World, Ints W B A n xs → Calls Try.prog 74 #[.slice A n c] W fun e w' => e = .returned (.int .i64 (sumFrom 7 xs)) ∧ W = w') := fun W h => implSum A n c B xs W h hn
            generalize sumFrom 7 xs = t at HX HC
            clear hI
            rcases hk3 with rfl | rfl
            all_goals
              go_enter Try.func53, Try.ntmps53
              go_wp2_with (go_at_call 74; refine (HC.out _ (HI.out _)).mono ?_; rintro e w' ⟨rfl, rfl⟩)
              go_ret
              exact ⟨ret_bool HX.out.symm, below_box _ _⟩
  · have hX : validF k s xs = false := by rw [Bool.eq_false_iff]; intro h; have := validF_iff.1 h; omega
    have HX := hide hX
    have h1 : (k != 1) = true := by simp; omega
    have h2 : (k != 2) = true := by simp; omega
    clear hX hrest hk
    go_enter Try.func53, Try.ntmps53
    go_wp2
    go_ret
    exact ⟨ret_bool HX.out.symm, below_box _ _⟩

set_option maxHeartbeats 1000000 in
theorem specValid (k s : Int) (A : Option Addr) (n c B : Nat) (xs : List Int) (w : World) (hr : Ints w B A n xs) (hB : B ≤ w.heap.size) (hn : n ≤ maxLen) :
    Calls Try.prog 50 #[.agg #[.int .i64 k, .int .i64 s, .slice A n c]] w fun e w' => e = .returned (.bool (validF k s xs)) ∧ Below w.heap.size w w' := by
  have hn' : n ≤ 9223372036854775807 := by unfold maxLen at hn; omega
  have HI := hide fun o : Obj => (hr.alloc hB o)
  have hX : validF k s xs = (inB k 1 2 && inB s 1 999 && inB n 1 18 && allW xs) := by rw [← hr.1]; rfl
  have HX := hide hX
  have HC : Hid (∀ W : World, Ints W B A n xs → Calls Try.prog 60 #[.slice A n c] W fun e w' => e = .returned (.bool (allW xs)) ∧ W = w') := fun W h => words_any A n c B xs W h hn
  generalize allW xs = t at HX HC
  clear hX hr
  rcases hk : inB k 1 2 with _ | _
  · have H1 := hide hk
    clear hk
    go_enter Try.func50, Try.ntmps50
    go_wp2_with (go_at_call 51; refine (in_no _ _ _ _ H1.out).mono ?_; rintro e w' ⟨rfl, rfl⟩)
    go_ret
    exact ⟨ret_bool (by rw [HX.out, H1.out]; rfl), below_box _ _⟩
  · have H1 := hide hk
    clear hk
    rcases hs : inB s 1 999 with _ | _
    · have H2 := hide hs
      clear hs
      go_enter Try.func50, Try.ntmps50
      go_wp2_with fail
      refine (in_yes _ _ _ _ H1.out).mono ?_; rintro e w' ⟨rfl, rfl⟩
      go_wp2_with fail
      refine (in_no _ _ _ _ H2.out).mono ?_; rintro e w' ⟨rfl, rfl⟩
      go_wp2_with fail
      go_ret
      exact ⟨ret_bool (by rw [HX.out, H1.out, H2.out]; rfl), below_box _ _⟩
    · have H2 := hide hs
      clear hs
      rcases hm : inB n 1 18 with _ | _
      · have H3 := hide hm
        clear hm
        go_enter Try.func50, Try.ntmps50
        go_wp2_with fail
        refine (in_yes _ _ _ _ H1.out).mono ?_; rintro e w' ⟨rfl, rfl⟩
        go_wp2_with fail
        refine (in_yes _ _ _ _ H2.out).mono ?_; rintro e w' ⟨rfl, rfl⟩
        go_wp2_with fail
        refine (in_no _ _ _ _ H3.out).mono ?_; rintro e w' ⟨rfl, rfl⟩
        go_wp2_with fail
        go_ret
        exact ⟨ret_bool (by rw [HX.out, H1.out, H2.out, H3.out]; rfl), below_box _ _⟩
      · have H3 := hide hm
        clear hm
        go_enter Try.func50, Try.ntmps50
        go_wp2_with fail
        refine (in_yes _ _ _ _ H1.out).mono ?_; rintro e w' ⟨rfl, rfl⟩
        go_wp2_with fail
        refine (in_yes _ _ _ _ H2.out).mono ?_; rintro e w' ⟨rfl, rfl⟩
        go_wp2_with fail
        refine (in_yes _ _ _ _ H3.out).mono ?_; rintro e w' ⟨rfl, rfl⟩
        go_wp2_with fail
        refine (HC.out _ (HI.out _)).mono ?_; rintro e w' ⟨rfl, rfl⟩
        go_wp2_with fail
        go_ret
        exact ⟨ret_bool (by rw [HX.out, H1.out, H2.out, H3.out]; rfl), below_box _ _⟩
end Go.Proofs.Ytcocboigjfjnfab
