/-
  slices.Collect over whatever iterator of integers.
-/
import Derived.Test.YtnkflcibbhoedaaAsc
import Derived.Maps.AppendAt
namespace Go.Proofs.Ytnkflcibbhoedaa
open Go.RowKit Go.Shelf
set_option linter.unusedVariables false
set_option maxRecDepth 100000

attribute [local go_sem] Oper.semAt_some

theorem one_cellsI (W : World) (x : Int) : ∀ (j : Nat) (u : Value), [Value.int .i64 x][j]? = some u → (W.alloc (.cells #[.int .i64 x] 3)).cell? ((⟨W.heap.size, 0, none⟩ : Addr).add j) = some u := by
  intro j u hu
  rw [add_plain', (Blk.new W 3 #[.int .i64 x]).cell j]
  simpa using hu

set_option maxHeartbeats 4000000 in
theorem appendSeqI_in (g : Nat) (lb : Array Value) (S Sp : List Int → Prop) (n₀ N m : Nat) (hn : 4 ≤ m) (hN : N ≤ 1000000000) (w : World) (hn0 : n₀ ≤ w.heap.size) (eg : ∀ args w, (callFunc g args).run Try.prog w = .ok (.enter g args) w)
    (hseq : SeqStopsK Fence.wide (m - 1) Try.prog g lb (fun x : Int => #[Value.int .i64 x]) (Below n₀) S Sp N w) :
    CallsIn Fence.wide m Try.prog 53 #[.slice none 0 0, .func (.func g) #[] lb] w fun e W' => ∃ v ys, e = .returned v ∧ S ys ∧ W'.ownsRow w.heap.size 3 1 v ys.length (ys.map (Value.int .i64)) ∧ Below w.heap.size w W' := by
  have h1 : 1 ≤ m := by omega
  obtain ⟨i0, hi, hz0, hz1, hz2⟩ := info_parts info_int
  refine callsIn_of_wp_marks Try.func53 rfl trivial ?_ rfl
  simp only [Try.ntmps53, List.size_toArray, List.length_cons, List.length_nil, Nat.reduceAdd, Nat.reduceSub, Array.replicate_succ, Array.replicate_zero, List.push_toArray, List.append_toArray, List.nil_append, List.cons_append]
  gi_wp2
  have b0 := Boxed.new w 23 (.slice none 0 0)
  have hB0 : Below w.heap.size w (w.alloc (.cells #[.slice none 0 0] 23)) := (Below.refl _ w).alloc (Nat.le_refl _) _
  refine wpIn_rangeFunc_ownH rfl h1 (gf := g) (lb := lb) rfl trivial eg hseq belowK_t (belowK_b (by simp; omega)) hB0 (fun _ => rfl)
    (fun pre W => (∃ v, Boxed W w.heap.size 23 v ∧ W.ownsRow w.heap.size 3 1 v pre.length (pre.map (Value.int .i64)) ∧ True) ∧ Below w.heap.size w W)
    (fun _ _ _ => False)
    (OwnFrom.and (Own.from (holdsRow_own w.heap.size w.heap.size 23 3 1 (fun pre : List Int => pre.length) (fun pre => pre.map (Value.int .i64)) (fun _ _ => True)) _) (ownFrom_below (Nat.le_refl _) (by simp)))
    (fun _ _ _ _ _ hs _ _ => hs)
    ⟨⟨_, b0, World.ownsRow_nil _ _ _ _, trivial⟩, hB0⟩
    (fun x a' W => a' = { tmps := #[.slice none 0 0, .func (.func g) #[] lb, .pointer (some ⟨w.heap.size, 0, none⟩), undef, .slice none 0 0, .int .i64 x, .func (.func g) #[] lb, .int .i64 x, undef, undef, undef, undef, undef], defers := [] })
    (fun x a' s X Y row hs hg hr => hs)
    ?assign ?body ?done ?stop
  case assign =>
    rintro l pre x W K ⟨⟨v, hv, hr, _⟩, hB⟩ hK
    gi_wp2
    exact hK _ _ (KeepsFrom.refl _ _) (Below.refl n₀ W) ⟨⟨v, hv, hr, trivial⟩, hB⟩ rfl
  case body =>
    rintro l pre x a' W hl ⟨r, hrl⟩ ⟨⟨v, hv, hrow, _⟩, hB⟩ rfl hlen
    have hc := hv.cell
    have hBs := hB.size
    gi_wp2_with (gi_at_builtin; refine wpListIn_append_own _ rfl _ _ 23 rfl w.heap.size 3 i0 (.int .i64 0) 1 8 Try.underlying23 hi hz0 hz1 hz2 rfl (by decide) _ _ _ rfl (hrow.alloc _) ⟨W.heap.size, 0, none⟩ 1 1 [.int .i64 x] rfl rfl (one_cellsI W x) (by simp [Value.oneCell']) (by unfold maxLen; omega) (by omega) (by simp; omega) ?_; intro v' w1 hown' hgrow _; obtain ⟨g', cap', rfl⟩ := ownsRow_succ hown'; obtain ⟨hv1, hv2, hr2, hk2, hb2⟩ := hv.appended (by decide) hrow hB.size (Nat.le_refl _) hown' hgrow; have hc1 := hv1.cell; have hf1 := hv1.frozen)
    refine ⟨hk2.from _, hb2.mono hn0, ⟨_, hv2, ?_, trivial⟩, hB.trans hb2⟩
    simpa using hr2
  case done =>
    rintro D ys W hD hS ⟨⟨v, hv, hrow, _⟩, hB⟩ hK
    have hc := hv.cell
    gi_wp2
    refine ⟨by simp, .inl ⟨_, _, rfl, run_takeDeferred hK, ?_⟩⟩
    exact ⟨_, results_tmp rfl _ _ _, v, ys, rfl, hS, ownsRow_putObj hrow _ hK rfl, hB.trans (belowK_b (w := w) (Nat.le_refl _) W D _ _ (by simp at hD; omega) hK rfl rfl)⟩
  case stop =>
    rintro D c pre W _ _ h _
    exact h.elim

set_option maxHeartbeats 1000000 in
theorem collectI (g : Nat) (lb : Array Value) (S Sp : List Int → Prop) (n₀ N : Nat) (hN : N ≤ 1000000000) (w : World) (hn0 : n₀ ≤ w.heap.size) (eg : ∀ args w, (callFunc g args).run Try.prog w = .ok (.enter g args) w)
    (hseq : SeqStopsK Fence.wide 3 Try.prog g lb (fun x : Int => #[Value.int .i64 x]) (Below n₀) S Sp N w) :
    Calls Try.prog 46 #[.func (.func g) #[] lb] w fun e W' => ∃ A2 c2 ys, e = .returned (.slice A2 ys.length c2) ∧ S ys ∧ Own W' w.heap.size A2 ys.length c2 ys ∧ Below w.heap.size w W' := by
  have HS := hide (callsIn_wide.1 (appendSeqI_in g lb S Sp n₀ N 4 (Nat.le_refl _) hN w hn0 eg hseq))
  clear hseq eg
  go_enter Try.func46, Try.ntmps46
  go_wp2_with fail
  refine HS.out.mono ?_
  rintro e W ⟨v, ys, rfl, hS, hrow, hB⟩
  obtain ⟨A2, c2, rfl⟩ := slice_of_own hrow
  have HO := hide (show Own W w.heap.size A2 ys.length c2 ys from ⟨rfl, hrow⟩)
  go_wp2
  go_ret
  exact ⟨A2, c2, ys, rfl, hS, HO.out, hB⟩
end Go.Proofs.Ytnkflcibbhoedaa
