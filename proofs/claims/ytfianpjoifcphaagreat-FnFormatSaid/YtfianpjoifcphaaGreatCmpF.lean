/-
  The program's compareFound: number, zone, word.
-/
import Derived.Test.YtfianpjoifcphaaGreatG5
import Derived.Deep.RegionHeld3
import Derived.Sort.Grow
import Derived.Handy
namespace Go.Proofs.YtfianpjoifcphaaGreat
open Go.RowKit Go.Sort
set_option linter.unusedVariables false
set_option maxRecDepth 100000

def or3 (x y z : Int) : Int := if x = 0 then (if y = 0 then z else y) else x
theorem or_any (g : Nat) (x y z : Int) (w : World) (hb : Blk w g 3 #[.int .i64 x, .int .i64 y, .int .i64 z]) :
    Calls Tryz.prog 164 #[.slice (some ⟨g, 0, none⟩) 3 3] w fun e w' => e = .returned (.int .i64 (or3 x y z)) ∧ w' = w := by
  have c0 := hb.cell 0
  have c1 := hb.cell 1
  have c2 := hb.cell 2
  simp only [List.getElem?_toArray, List.getElem?_cons_zero, List.getElem?_cons_succ] at c0 c1 c2
  clear hb
  unfold or3
  by_cases h1 : x = 0
  · subst h1
    rw [if_pos rfl]
    by_cases h2 : y = 0
    · subst h2
      rw [if_pos rfl]
      by_cases h3 : z = 0
      · subst h3
        go_enter Tryz.func164, Tryz.ntmps164
        go_wp2
        go_rounds 4
        try simp only [Exit.inBlock, Exit.then]
        go_ret
        exact ⟨rfl, rfl⟩
      · go_enter Tryz.func164, Tryz.ntmps164
        go_wp2
        go_rounds 4
        try simp only [Exit.inBlock, Exit.then]
        go_ret
        exact ⟨rfl, rfl⟩
    · rw [if_neg h2]
      go_enter Tryz.func164, Tryz.ntmps164
      go_wp2
      go_rounds 4
      try simp only [Exit.inBlock, Exit.then]
      go_ret
      exact ⟨rfl, rfl⟩
  · rw [if_neg h1]
    go_enter Tryz.func164, Tryz.ntmps164
    go_wp2
    go_rounds 4
    try simp only [Exit.inBlock, Exit.then]
    go_ret
    exact ⟨rfl, rfl⟩
theorem or3_cmp (f g : Fn) : or3 (cmpI (seqOf f) (seqOf g)) (cmpI f.1 g.1) (cmpI f.2.1 g.2.1) = cmpF f g := by unfold or3 cmpF; rfl

set_option maxHeartbeats 3200000 in
theorem compareF_any (q r : Fq) (w : World) :
    Calls Tryz.prog 111 #[.agg #[.int .i64 q.zone, .int .i64 q.word, .int .i64 q.kind, .int .i64 q.seq, q.sl], .agg #[.int .i64 r.zone, .int .i64 r.word, .int .i64 r.kind, .int .i64 r.seq, r.sl]] w
      fun e w' => e = .returned (.int .i64 (cmpF q.fn r.fn)) ∧ ∃ i os, w' = grow (w.drewN i) os := by
  rw [← or3_cmp]
  obtain ⟨z, a, x0, x1, vs, qa, qc⟩ := q
  obtain ⟨z', a', x0', x1', vs', qa', qc'⟩ := r
  simp only [Fq.sl, Fq.fn, seqOf]
  generalize vs.length = l
  generalize vs'.length = l'
  obtain ⟨W1, hW1⟩ : ∃ W1, w.alloc (.cells #[.int .i64 z, .int .i64 a, .int .i64 x0, .int .i64 x1, .slice qa l qc] 156) = W1 := ⟨_, rfl⟩
  obtain ⟨W2, hW2⟩ : ∃ W2, W1.alloc (.cells #[.int .i64 z', .int .i64 a', .int .i64 x0', .int .i64 x1', .slice qa' l' qc'] 156) = W2 := ⟨_, rfl⟩
  have hs1 : W1.heap.size = w.heap.size + 1 := by rw [← hW1]; simp
  have hs2 : W2.heap.size = w.heap.size + 2 := by rw [← hW2]; simp; omega
  have hb1 : Blk W2 w.heap.size 156 #[.int .i64 z, .int .i64 a, .int .i64 x0, .int .i64 x1, .slice qa l qc] := by rw [← hW2, ← hW1]; exact (Blk.new w _ _).alloc _
  have hb2 : Blk W2 (w.heap.size + 1) 156 #[.int .i64 z', .int .i64 a', .int .i64 x0', .int .i64 x1', .slice qa' l' qc'] := by rw [← hW2, ← hs1]; exact Blk.new W1 _ _
  have HG : Hid (W2 = grow w (#[.cells #[.int .i64 z, .int .i64 a, .int .i64 x0, .int .i64 x1, .slice qa l qc] 156] ++ #[.cells #[.int .i64 z', .int .i64 a', .int .i64 x0', .int .i64 x1', .slice qa' l' qc'] 156])) := by
    show _ = _
    rw [← hW2, ← hW1, alloc_eq_grow, alloc_eq_grow, grow_grow]
  have c0 : W2.cell? ⟨w.heap.size, 0, none⟩ = some (.int .i64 z) := hb1.cell 0
  have c1 : W2.cell? ⟨w.heap.size, 1, none⟩ = some (.int .i64 a) := hb1.cell 1
  have c3 : W2.cell? ⟨w.heap.size, 3, none⟩ = some (.int .i64 x1) := hb1.cell 3
  have d0 : W2.cell? ⟨w.heap.size + 1, 0, none⟩ = some (.int .i64 z') := hb2.cell 0
  have d1 : W2.cell? ⟨w.heap.size + 1, 1, none⟩ = some (.int .i64 a') := hb2.cell 1
  have d3 : W2.cell? ⟨w.heap.size + 1, 3, none⟩ = some (.int .i64 x1') := hb2.cell 3
  clear hb1 hb2
  go_enter Tryz.func111, Tryz.ntmps111
  go_wp2_with fail
  try rw [hW1]
  try rw [hW2]
  have HCP := fun x y w => compare_any x y w
  generalize hr1 : cmpI x1 x1' = r1 at *
  generalize hr2 : cmpI z z' = r2 at *
  generalize hr3 : cmpI a a' = r3 at *
  have HOR2 := hide (or_any (w.heap.size + 2) r1 r2 r3 (W2.alloc (.cells #[.int .i64 r1, .int .i64 r2, .int .i64 r3] 3)).drew (by rw [← hs2]; exact Blk.new W2 _ _))
  go_region_held3 (fun W => W.cell? ⟨w.heap.size, 0, none⟩ = some (.int .i64 z) ∧ W.cell? ⟨w.heap.size, 1, none⟩ = some (.int .i64 a) ∧ W.cell? ⟨w.heap.size, 3, none⟩ = some (.int .i64 x1) ∧
      W.cell? ⟨w.heap.size + 1, 0, none⟩ = some (.int .i64 z') ∧ W.cell? ⟨w.heap.size + 1, 1, none⟩ = some (.int .i64 a') ∧ W.cell? ⟨w.heap.size + 1, 3, none⟩ = some (.int .i64 x1'))
    (first
      | go_keep)
    ((first
      | (go_at_call 165; refine (compare_any _ _ _).mono ?_; rintro e w' ⟨rfl, rfl⟩)
      | (go_at_call 164; refine HOR2.out.mono ?_; rintro e w' ⟨rfl, rfl⟩)))
  all_goals
    go_wp2
    go_ret
    exact ⟨by rw [hr1, hr2, hr3]; rfl, grow_of HG.out _⟩
end Go.Proofs.YtfianpjoifcphaaGreat
