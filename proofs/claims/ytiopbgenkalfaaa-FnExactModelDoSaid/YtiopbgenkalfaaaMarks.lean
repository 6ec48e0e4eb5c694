/-
  Marks: markIntS, heldIntS, szIntS.
-/
import Derived.Test.YtiopbgenkalfaaaBase
namespace Go.Proofs.Ytiopbgenkalfaaa
open Go.RowKit
set_option linter.unusedVariables false
set_option maxRecDepth 100000

/-- the marks k, k+1, .. -/
def marks (k : Int) (n : Nat) : List Int := (List.range n).map fun (i : Nat) => k + (i : Int)
theorem marks_length (k : Int) (n : Nat) : (marks k n).length = n := by simp [marks]
theorem marks_getD (k : Int) (n j : Nat) (h : j < n) : (marks k n).getD j 0 = k + j := by simp [marks, List.getD, h]

def markTo (k : Int) (xs : List Int) (j : Nat) : List Int := (marks k j) ++ xs.drop j
theorem markTo_succ (k : Int) (xs : List Int) (j : Nat) (h : j < xs.length) : (markTo k xs j).set j (k + j) = markTo k xs (j + 1) := by
  unfold markTo
  rw [List.set_append_right _ _ (by rw [marks_length]; exact Nat.le_refl _), marks_length, Nat.sub_self, List.drop_eq_getElem_cons h, List.set_cons_zero]
  simp [marks, List.range_succ]
theorem markTo_all (k : Int) (xs : List Int) : markTo k xs xs.length = marks k xs.length := by simp [markTo]
theorem markTo_zero (k : Int) (xs : List Int) : markTo k xs 0 = xs := by simp [markTo, marks]

set_option maxHeartbeats 800000 in
theorem mark_any (A : Option Addr) (n c base : Nat) (k : Int) (xs : List Int) (w : World) (ho : Own w base A n c xs) (hk0 : 0 ≤ k) (hk : k ≤ 4000000000000000) (hn : n ≤ 1000000000) :
    Calls Try.prog 22 #[.slice A n c, .int .i64 k] w fun e w' => e = .returned (.int .i64 (k + n)) ∧ Own w' base A n c (marks k n) ∧ w.grownBy w' (Value.slice A n c).ownBlock := by
  by_cases hn0 : n = 0
  · subst hn0
    have hx : xs = [] := List.eq_nil_of_length_eq_zero ho.1
    subst hx
    go_enter Try.func22, Try.ntmps22
    go_wp2
    refine wp_loop_rounds 1 ?_
    rw [rounds_succ]
    go_wp2
    go_ret
    exact ⟨ret_int (by simp), ho, grown_refl w _⟩
  · obtain ⟨g, rfl, hgb, hgl⟩ := ho.shape (by omega)
    have HL := hide ho.1
    go_enter Try.func22, Try.ntmps22
    go_wp2
    go_loopw [1, 5] (fun kk i wr => ∃ j : Nat, j ≤ n ∧ i = .int .i64 j ∧ kk = .int .i64 (k + j) ∧ Own wr base (some ⟨g, 0, none⟩) n c (markTo k xs j) ∧ w.grownBy wr (some g)) (fun _ i _ => n - (intOf i).toNat)
    case atStart => exact ⟨0, Nat.zero_le _, rfl, by simp, by rw [markTo_zero]; exact ho, grown_refl w _⟩
    case round =>
      obtain ⟨j, hj, rfl, rfl, hown, hg⟩ := hrel
      by_cases hlt : j < n
      · have hfree := hown.free (g := g) (j := j)
        have hcell := hown.cell (g := g) (j := j) hlt
        have hst := hown.stored (g := g) (j := j) (k + j)
        rw [markTo_succ _ _ _ (by rw [HL.out]; exact hlt)] at hst
        have HS := hide hst.1
        have HG := hide (grown_trans' hg hst.2)
        clear hst hg hown
        generalize (markTo k xs j).getD j 0 = y at hcell
        go_wp2
        go_roundw
        case rel => exact ⟨j + 1, by omega, by go_num, by go_num, HS.out, HG.out⟩
        case measure => simp [intOf]; omega
      · obtain rfl : j = n := by omega
        have hm : markTo k xs j = marks k j := by rw [← HL.out]; exact markTo_all k xs
        rw [hm] at hown
        clear hm
        go_wp2
        go_ret
        exact ⟨rfl, hown, hg⟩

set_option maxHeartbeats 800000 in
theorem held_any (A : Option Addr) (n c B : Nat) (k : Int) (w : World) (hi : Ints w B A n (marks k n)) (hk0 : 0 ≤ k) (hk : k ≤ 4000000000000000) (hn : n ≤ 1000000000) :
    Calls Try.prog 50 #[.slice A n c, .int .i64 k] w fun e w' => e = .returned (.int .i64 (k + n)) ∧ w = w' := by
  have HI := hide hi
  clear hi
  go_enter Try.func50, Try.ntmps50
  go_wp2
  go_loop [1, 5] (fun kk i => ∃ j : Nat, j ≤ n ∧ i = .int .i64 j ∧ kk = .int .i64 (k + j)) (fun _ i => n - (intOf i).toNat)
  case atStart => exact ⟨0, Nat.zero_le _, rfl, by simp⟩
  case round =>
    obtain ⟨j, hj, rfl, rfl⟩ := hrel
    by_cases hlt : j < n
    · obtain ⟨ad, rfl, hb, hc⟩ := HI.out.at_ hlt
      rw [marks_getD _ _ _ hlt] at hc
      go_wp2
      go_round
      case rel => exact ⟨j + 1, by omega, by go_num, by go_num⟩
      case measure => simp [intOf]; omega
    · obtain rfl : j = n := by omega
      go_wp2
      go_ret
      exact ⟨rfl, rfl⟩

set_option maxHeartbeats 400000 in
theorem szInts_any (A : Option Addr) (n c : Nat) (l : Int) (w : World) (hn : n ≤ 9223372036854775807) (h0 : 0 ≤ l) (hl : l ≤ 9223372036854775807) :
    Calls Try.prog 52 #[.slice A n c, .int .i64 l] w fun e w' => e = .returned (.int .i64 (if l < n then -1 else l - n)) ∧ w = w' := by
  by_cases h : l < n
  · have h' : l - n < 0 := by omega
    go_enter Try.func52, Try.ntmps52
    go_wp2
    go_ret
    exact ⟨ret_int (by first | rfl | rw [if_pos h]), rfl⟩
  · have h' : ¬ l - n < 0 := by omega
    go_enter Try.func52, Try.ntmps52
    go_wp2
    go_ret
    exact ⟨ret_int (by first | rfl | rw [if_neg h]), rfl⟩
end Go.Proofs.Ytiopbgenkalfaaa
