/-
  Quiet calls in a region; putF's length; laws.sameFrame.
-/
import Derived.Test.YtcocboigjfjnfaaFrameP
import Derived.Test.YtcocboigjfjnfaaInts
namespace Go.Proofs.Ytcocboigjfjnfaa
open Go.RowKit
set_option linter.unusedVariables false
set_option maxRecDepth 100000

/-- a quiet call in a region whose world has drawn before -/
theorem calls_again {P : Program} {f : FuncId} {args : Array Value} {W : World} {i j : Nat} {r : Value} (c : Calls P f args (W.drewN (i + j)) fun e U => e = .returned r ∧ ∃ z, U = (W.drewN (i + j)).drewN z) :
    Calls P f args (W.drewN (i + j)) fun e U => e = .returned r ∧ ∃ z, U = W.drewN (i + z) := by
  refine c.mono ?_
  rintro e U ⟨he, z, hz⟩
  exact ⟨he, j + z, by rw [hz, World.drewN_drewN, Nat.add_assoc]⟩
theorem calls_again0 {P : Program} {f : FuncId} {args : Array Value} {W : World} {i j : Nat} {r : Value} (c : Calls P f args (W.drewN (i + j)) fun e U => e = .returned r ∧ U = W.drewN (i + j)) :
    Calls P f args (W.drewN (i + j)) fun e U => e = .returned r ∧ ∃ z, U = W.drewN (i + z) := by
  refine c.mono ?_
  rintro e U ⟨he, hz⟩
  exact ⟨he, j, hz⟩

/-- two new numbers read -/
theorem Ints.two (w : World) (a b : Int) : Ints (w.alloc (.cells #[.int .i64 a, .int .i64 b] 3)) (w.heap.size + 1) (some ⟨w.heap.size, 0, none⟩) 2 [a, b] := by
  refine ⟨rfl, fun _ => ⟨_, rfl, by simp, fun j hj => ?_⟩⟩
  rw [add_plain']
  have h := (Blk.new w 3 #[.int .i64 a, .int .i64 b]).cell j
  rw [h]
  rcases j with _ | _ | j
  · rfl
  · rfl
  · omega

theorem putF_bad {k s : Int} {xs : List Int} (h : validF k s xs = false) : putF k s xs = [] := by rw [putF, if_neg (by rw [h]; simp)]
theorem putF_good {k s : Int} {xs : List Int} (h : validF k s xs = true) : putF k s xs = headF k s xs ++ [sumFrom 7 (headF k s xs)] := by rw [putF, if_pos h]
theorem putF_length {k s : Int} {xs : List Int} (h : validF k s xs = true) : (putF k s xs).length = 3 + xs.length + 1 := by rw [putF_good h]; simp [headF]; omega

set_option maxHeartbeats 1600000 in
theorem sameFrame_yes (k s : Int) (A A' : Option Addr) (n c c' B B' : Nat) (xs : List Int) (w : World) (h1 : Ints w B A n xs) (hB : B ≤ w.heap.size) (h2 : Ints w B' A' n xs) (hB' : B' ≤ w.heap.size) (hn : n ≤ maxLen) :
    Calls Try.prog 28 #[.agg #[.int .i64 k, .int .i64 s, .slice A n c], .agg #[.int .i64 k, .int .i64 s, .slice A' n c']] w fun e w' => e = .returned (.bool true) ∧ Below w.heap.size w w' := by
  have HI1 := hide fun (o o' : Obj) => (h1.alloc hB o).alloc (by simp; omega) o'
  have HI2 := hide fun (o o' : Obj) => (h2.alloc hB' o).alloc (by simp; omega) o'
  clear h1 h2
  go_enter Try.func28, Try.ntmps28
  go_wp2_with (go_at_call 13; refine (sameInts_yes A A' n c n c' B B' xs xs _ (HI1.out _ _) (HI2.out _ _) hn hn rfl).mono ?_; rintro e w1 ⟨rfl, q, rfl⟩)
  go_ret
  exact ⟨rfl, below_drewN ((below_box w _).alloc (by simp) _) q⟩

end Go.Proofs.Ytcocboigjfjnfaa
