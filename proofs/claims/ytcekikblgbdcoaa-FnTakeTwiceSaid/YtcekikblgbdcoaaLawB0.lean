/-
  What the laws on buckets ask: the contracts' cases, and plain facts on taking and waiting.
-/
import Derived.Test.YtcekikblgbdcoaaSpecB3
import Derived.Test.YtcekikblgbdcoaaImpB8
namespace Go.Proofs.Ytcekikblgbdcoaa
open Go.RowKit
set_option linter.unusedVariables false
set_option maxRecDepth 100000

theorem implBA_no {l m r t T : Int} (h : ¬ inT ⟨l, m, r, t⟩ T) (w : World) :
    Calls Try.prog 16 #[.agg #[.int .i64 l, .int .i64 m, .int .i64 r, .int .i64 t], .int .i64 T] w fun e w' => e = .returned (.tuple #[.agg #[.int .i64 0, .int .i64 0, .int .i64 0, .int .i64 0], .bool false]) ∧ Below w.heap.size w w' := by
  have := implBA l m r t T w
  rwa [show atB ⟨l, m, r, t⟩ T = (⟨0, 0, 0, 0⟩, false) from if_neg h] at this
theorem specBA_no {l m r t T : Int} (h : ¬ inT ⟨l, m, r, t⟩ T) (w : World) :
    Calls Try.prog 17 #[.agg #[.int .i64 l, .int .i64 m, .int .i64 r, .int .i64 t], .int .i64 T] w fun e w' => e = .returned (.tuple #[.agg #[.int .i64 0, .int .i64 0, .int .i64 0, .int .i64 0], .bool false]) ∧ Below w.heap.size w w' := by
  have := specBA l m r t T w
  rwa [show atB ⟨l, m, r, t⟩ T = (⟨0, 0, 0, 0⟩, false) from if_neg h] at this
theorem implBA_yes {l m r t T : Int} (h : inT ⟨l, m, r, t⟩ T) (w : World) :
    Calls Try.prog 16 #[.agg #[.int .i64 l, .int .i64 m, .int .i64 r, .int .i64 t], .int .i64 T] w fun e w' => e = .returned (.tuple #[.agg #[.int .i64 (lvl ⟨l, m, r, t⟩ (T - t)), .int .i64 m, .int .i64 r, .int .i64 T], .bool true]) ∧ Below w.heap.size w w' := by
  have := implBA l m r t T w
  rwa [show atB ⟨l, m, r, t⟩ T = (⟨lvl ⟨l, m, r, t⟩ (T - t), m, r, T⟩, true) from if_pos h] at this
theorem specBA_yes {l m r t T : Int} (h : inT ⟨l, m, r, t⟩ T) (w : World) :
    Calls Try.prog 17 #[.agg #[.int .i64 l, .int .i64 m, .int .i64 r, .int .i64 t], .int .i64 T] w fun e w' => e = .returned (.tuple #[.agg #[.int .i64 (lvl ⟨l, m, r, t⟩ (T - t)), .int .i64 m, .int .i64 r, .int .i64 T], .bool true]) ∧ Below w.heap.size w w' := by
  have := specBA l m r t T w
  rwa [show atB ⟨l, m, r, t⟩ T = (⟨lvl ⟨l, m, r, t⟩ (T - t), m, r, T⟩, true) from if_pos h] at this

theorem takB_do {b : Bk} {T many : Int} (hin : inT b T) (hm : mayT many) (hle : many ≤ lvl b (T - b.t)) : takB b T many = (⟨lvl b (T - b.t) - many, b.m, b.r, T⟩, true) :=
  (if_pos ⟨hin, hm⟩).trans (if_neg (by omega))
theorem takB_low {b : Bk} {T many : Int} (h : lvl b (T - b.t) < many) : (takB b T many).2 = false := by
  unfold takB
  split
  · rfl
  · rfl
theorem takB_yes {b : Bk} {T many : Int} (h : (takB b T many).2 = true) : inT b T ∧ mayT many ∧ many ≤ lvl b (T - b.t) ∧ takB b T many = (⟨lvl b (T - b.t) - many, b.m, b.r, T⟩, true) := by
  unfold takB at h ⊢
  by_cases h1 : inT b T ∧ mayT many
  · rw [if_pos h1] at h ⊢
    by_cases h2 : lvl b (T - b.t) < many
    · rw [if_pos h2] at h; cases h
    · rw [if_neg h2]
      exact ⟨h1.1, h1.2, by omega, rfl⟩
  · rw [if_neg h1] at h; cases h
theorem wait_none {b : Bk} {many X : Int} (hok : okK b) (hm : mayT many) (h : waitB b many X) : (b.m < many → X = -1) ∧ (many ≤ b.l → X = b.t) := by
  have h0 : 0 ≤ b.t := hok.2.2.2.2.2.2.1
  have h9 : b.t ≤ 999 := hok.2.2.2.2.2.2.2
  rcases h with ⟨hn, e⟩ | ⟨_, _, ⟨e, h⟩ | ⟨h1, h2, h3, h4⟩⟩
  · exact absurd ⟨hok, hm⟩ hn
  · refine ⟨fun _ => e, fun hl => ?_⟩
    have := h b.t (Int.le_refl _) h9
    rw [Int.sub_self, lvl_0 hok] at this
    omega
  · refine ⟨fun hl => ?_, fun hl => ?_⟩
    · have := (lvl_rng hok (k := X - b.t) (by omega) (by omega)).2
      omega
    · rcases Int.lt_or_le b.t X with hlt | hge
      · have := h4 b.t (Int.le_refl _) hlt
        rw [Int.sub_self, lvl_0 hok] at this
        omega
      · omega
end Go.Proofs.Ytcekikblgbdcoaa
