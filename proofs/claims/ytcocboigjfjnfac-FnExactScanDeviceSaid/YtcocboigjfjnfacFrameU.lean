/-
  The model's FrameGet in two contracts, in the form of impl.FrameGet's: a valid frame lies at the place, or none does.
-/
import Derived.Test.YtcocboigjfjnfacFrameS
namespace Go.Proofs.Ytcocboigjfjnfac
open Go.RowKit
set_option linter.unusedVariables false
set_option maxRecDepth 100000

theorem specGet_no (A : Option Addr) (n c : Nat) (p : Int) (xs : List Int) (w : World) (hi : Ints w w.heap.size A n xs) (hn : n ≤ c) (hc : c ≤ 9223372036854775807) (hn2 : n ≤ 17592186044416)
    (hp : p ≤ 9223372036854775807) (hno : ¬ goodF xs n p) :
    Calls Try.prog 87 #[.slice A n c, .int .i64 p] w fun e w' => e = .returned noFrame ∧ Below w.heap.size w w' := by
  by_cases h1 : p < 0 ∨ (n : Int) - 5 < p ∨ inB (xs.getD (p.toNat + 2) 0) 1 18 = false
  · exact specGet_early A n c p xs w hi hn hc hn2 hp h1
  · obtain ⟨a, rfl⟩ := Int.eq_ofNat_of_zero_le (show 0 ≤ p by omega)
    have h2 : inB (xs.getD (a + 2) 0) 1 18 = true := by
      rcases hb : inB (xs.getD (a + 2) 0) 1 18 with _ | _
      · exact absurd (.inr (.inr (by simpa using hb))) h1
      · rfl
    have h3 := inB_iff.1 h2
    obtain ⟨m, hm⟩ := Int.eq_ofNat_of_zero_le (show 0 ≤ xs.getD (a + 2) 0 by omega)
    rw [hm] at h2
    by_cases h4 : n < a + 4 + m
    · exact specGet_long A n c a m xs w hi hn hc hn2 (by omega) hm h2 h4
    · refine (specGet_deep A n c a m xs w hi hn hc hn2 hm h2 (by omega) _ _ _ rfl rfl rfl).mono ?_
      intro e w' h
      unfold DeepPost at h
      rw [if_neg (fun h' => hno ((good_parts hm (by omega)).2 h'))] at h
      exact h

theorem specGet_yes (A : Option Addr) (n c a m : Nat) (p : Int) (xs : List Int) (w : World) (hp : p = a) (hi : Ints w w.heap.size A n xs) (hn : n ≤ c) (hc : c ≤ 9223372036854775807) (hn2 : n ≤ 17592186044416)
    (hm : xs.getD (a + 2) 0 = (m : Int)) (hl : a + 4 + m ≤ n) (x0 x1 x3 : Int) (hx0 : xs.getD a 0 = x0) (hx1 : xs.getD (a + 1) 0 = x1) (hx3 : xs.getD (a + 3 + m) 0 = x3)
    (hv : validF x0 x1 (cutW xs (a + 3) m) = true) (hs : x3 = sumFrom 7 (cutW xs a (3 + m))) :
    Calls Try.prog 87 #[.slice A n c, .int .i64 p] w fun e w' => ∃ A2 c2, e = .returned (.tuple #[.agg #[.int .i64 x0, .int .i64 x1, .slice A2 m c2], .int .i64 ((a : Int) + 4 + m), .bool true]) ∧
      Own w' w.heap.size A2 m c2 (cutW xs (a + 3) m) ∧ Below w.heap.size w w' := by
  subst hp
  have h18 := (validF_iff.1 hv).2.2.1
  rw [cutW_length _ _ _ (by rw [hi.1]; omega)] at h18
  refine (specGet_deep A n c a m xs w hi hn hc hn2 hm (inB_true h18.1 h18.2) hl x0 x1 x3 hx0 hx1 hx3).mono ?_
  intro e w' h
  unfold DeepPost at h
  rw [if_pos ⟨hv, hs⟩] at h
  exact h
end Go.Proofs.Ytcocboigjfjnfac
