/-
  The exact laws' helpers on frames and on lists: copies (toFrame), equality (eqFrame), marks (markIntS, heldIntS, markFrame, heldFrame), counts (szIntS, szFrame).
-/
import Derived.Test.YtcocboigjfjnfabFrameP
import Derived.Test.YtcocboigjfjnfabInts
import Derived.Test.YtcocboigjfjnfabMarks
namespace Go.Proofs.Ytcocboigjfjnfab
open Go.RowKit
set_option linter.unusedVariables false
set_option maxRecDepth 100000

set_option maxHeartbeats 400000 in
theorem szFrame_any (k s : Int) (A : Option Addr) (n c : Nat) (w : World) (hn : n ≤ 9223372036854775807) :
    Calls Try.prog 57 #[.agg #[.int .i64 k, .int .i64 s, .slice A n c], .int .i64 1048576] w fun e w' => e = .returned (.int .i64 (if 1048576 < n then -1 else 1048576 - (n : Int))) ∧ Below w.heap.size w w' := by
  by_cases h : 1048576 < n
  · have hi : (1048576 : Int) < n := by omega
    go_enter Try.func57, Try.ntmps57
    go_wp2_with (go_at_call 81; refine (szInts_any _ _ _ _ _ hn (by omega) (by omega)).mono ?_; rw [if_pos hi]; rintro e w' ⟨rfl, rfl⟩)
    go_ret
    exact ⟨ret_int (by first | rfl | rw [if_pos h]), below_box _ _⟩
  · have hi : ¬ (1048576 : Int) < n := by omega
    go_enter Try.func57, Try.ntmps57
    go_wp2_with (go_at_call 81; refine (szInts_any _ _ _ _ _ hn (by omega) (by omega)).mono ?_; rw [if_neg hi]; rintro e w' ⟨rfl, rfl⟩)
    go_ret
    exact ⟨ret_int (by first | rfl | rw [if_neg h]), below_box _ _⟩

set_option maxHeartbeats 800000 in
theorem eqFrame_yes (k s : Int) (A A' : Option Addr) (n c c' B B' : Nat) (xs : List Int) (w : World) (h1 : Ints w B A n xs) (hB : B ≤ w.heap.size) (h2 : Ints w B' A' n xs) (hB' : B' ≤ w.heap.size) (hn : n ≤ maxLen) :
    Calls Try.prog 59 #[.agg #[.int .i64 k, .int .i64 s, .slice A n c], .agg #[.int .i64 k, .int .i64 s, .slice A' n c']] w fun e w' => e = .returned (.bool true) ∧ Below w.heap.size w w' := by
  have HI1 := hide fun (o o' : Obj) => (h1.alloc hB o).alloc (by simp; omega) o'
  have HI2 := hide fun (o o' : Obj) => (h2.alloc hB' o).alloc (by simp; omega) o'
  clear h1 h2
  go_enter Try.func59, Try.ntmps59
  go_wp2_with (go_at_call 83; refine (eqIntS_yes A A' n c n c' B B' xs xs _ (HI1.out _ _) (HI2.out _ _) hn hn rfl).mono ?_; rintro e w1 ⟨rfl, q, rfl⟩)
  go_ret
  exact ⟨rfl, below_drewN ((below_box w _).alloc (by simp) _) q⟩

set_option maxHeartbeats 1600000 in
theorem toFrame_any (k s : Int) (A : Option Addr) (n c B : Nat) (xs : List Int) (w : World) (h : Ints w B A n xs) (hB : B ≤ w.heap.size) (hn : n ≤ 17592186044416) :
    Calls Try.prog 58 #[.agg #[.int .i64 k, .int .i64 s, .slice A n c]] w fun e w' => ∃ A2 c2, e = .returned (.agg #[.int .i64 k, .int .i64 s, .slice A2 n c2]) ∧ Own w' w.heap.size A2 n c2 xs ∧ Below w.heap.size w w' := by
  go_enter Try.func58, Try.ntmps58
  go_wp2_with fail
  refine (toInts_any A n c B xs _ ?_ ?_ hn).mono ?_
  · exact ((h.alloc hB _).alloc (by simp; omega) _).alloc (by simp; omega) _
  · simp; omega
  rintro e w1 ⟨A2, c2, rfl, ho, hb⟩
  have hs := hb.size
  simp at hs
  have hq := ((blk_new' (w := w.alloc (.cells #[.int .i64 k, .int .i64 s, .slice A n c] 67)) (g := w.heap.size + 1) (by simp) 32 #[.int .i64 0, .int .i64 0, .slice none 0 0]).alloc (.cells #[.int .i64 k, .int .i64 s, .slice none 0 0] 32)).below hb (by simp)
  have hf := (blk_new' (w := (w.alloc (.cells #[.int .i64 k, .int .i64 s, .slice A n c] 67)).alloc (.cells #[.int .i64 0, .int .i64 0, .slice none 0 0] 32)) (g := w.heap.size + 1 + 1) (by simp) 32 #[.int .i64 k, .int .i64 s, .slice none 0 0]).below hb (by simp)
  obtain ⟨r0, r1, r2⟩ := blk_cells3 hq
  obtain ⟨t0, t1, t2⟩ := blk_cells3 hf
  have f0 := hq.frozen 0
  have f1 := hq.frozen 1
  have f2 := hq.frozen 2
  have g2 := hf.frozen 2
  have hset := set_grown (grown_refl w1 (some (w.heap.size + 1 + 1))) 2 (.slice A2 n c2)
  have hq2 := hq.grown hset (by simp)
  obtain ⟨q0, q1, q2⟩ := blk_cells3 (frame_new (w.heap.size + 1) _ _ _ hq2 (.int .i64 k) (.int .i64 s) (.slice A2 n c2))
  have hset2 := set3_grown (w1.setCell ⟨w.heap.size + 1 + 1, 2, none⟩ (.slice A2 n c2)) (w.heap.size + 1) (.int .i64 k) (.int .i64 s) (.slice A2 n c2)
  have hrow : ∀ g, (Value.slice A2 n c2).ownBlock = some g → w.heap.size + 1 + 1 < g := fun g hg => by have := (ho.block g hg).1; simp at this; omega
  have HO := hide (((ho.kept hset (by intro g e he; injection e with e; have := hrow _ he; omega)).kept hset2 (by intro g e he; injection e with e; have := hrow _ he; omega)).mono (b' := w.heap.size) (by simp; omega))
  have hb3 : Below w.heap.size w w1 := (((below_box w _).alloc (by simp) _).alloc (by simp; omega) _).trans (hb.mono (by simp; omega))
  have HB := hide ((hb3.trans (below_of_grown' hset (by omega) (by intro g e; injection e with e; omega))).trans (below_of_grown' hset2 (by simp [World.setCell]; omega) (by intro g e; injection e with e; omega)))
  clear ho hb hq hf hset hset2 hq2 hrow hb3
  go_wp2
  refine bodyPost_ret (v := .agg #[.int .i64 k, .int .i64 s, .slice A2 n c2]) (by simp [results, Try.results58, go_sem, q0, q1, q2]) rfl ?_
  exact ⟨A2, c2, rfl, HO.out, HB.out⟩


end Go.Proofs.Ytcocboigjfjnfab
