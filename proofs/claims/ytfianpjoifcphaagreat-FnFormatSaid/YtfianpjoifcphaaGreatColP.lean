/-
  slices.Collect over whatever iterator of records; impl.PairsGet.
-/
import Derived.Test.YtfianpjoifcphaaGreatInP
import Derived.Test.YtfianpjoifcphaaGreatG3
import Derived.Maps.AppendAt
namespace Go.Proofs.YtfianpjoifcphaaGreat
open Go.RowKit Go.Shelf
set_option linter.unusedVariables false
set_option maxRecDepth 100000

attribute [local go_sem] Oper.semAt_some

theorem rec_cellsP (W : World) (x : Int × Int) : ∀ (j : Nat) (u : Value), [.int .i64 x.1, .int .i64 x.2][j]? = some u → (W.alloc (.cells #[.int .i64 x.1, .int .i64 x.2] 221)).cell? ((⟨W.heap.size, 0, none⟩ : Addr).add j) = some u := by
  intro j u hu
  rw [add_plain', (Blk.new W 221 #[.int .i64 x.1, .int .i64 x.2]).cell j]
  simpa using hu

set_option maxHeartbeats 4000000 in
theorem appendSeqP_in (g : Nat) (lb : Array Value) (S Sp : List (Int × Int) → Prop) (n₀ N m : Nat) (hn : 4 ≤ m) (hN : N ≤ 1000000000) (w : World) (hn0 : n₀ ≤ w.heap.size) (eg : ∀ args w, (callFunc g args).run Tryz.prog w = .ok (.enter g args) w)
    (hseq : SeqStopsK Fence.wide (m - 1) Tryz.prog g lb (fun x : Int × Int => #[.agg #[.int .i64 x.1, .int .i64 x.2]]) (Below n₀) S Sp N w) :
    CallsIn Fence.wide m Tryz.prog 274 #[.slice none 0 0, .func (.func g) #[] lb] w fun e W' => ∃ v ys, e = .returned v ∧ S ys ∧ W'.ownsRow w.heap.size 221 2 v ys.length ((flatP ys).map (Value.int .i64)) ∧ Below w.heap.size w W' := by
  have h1 : 1 ≤ m := by omega
  obtain ⟨i0, hi, hz0, hz1, hz2⟩ := info_parts pairT.info
  refine callsIn_of_wp_marks Tryz.func274 rfl trivial ?_ rfl
  simp only [Tryz.ntmps274, List.size_toArray, List.length_cons, List.length_nil, Nat.reduceAdd, Nat.reduceSub, Array.replicate_succ, Array.replicate_zero, List.push_toArray, List.append_toArray, List.nil_append, List.cons_append]
  gi_wp2
  have b0 := Boxed.new w 115 (.slice none 0 0)
  have hB0 : Below w.heap.size w (w.alloc (.cells #[.slice none 0 0] 115)) := (Below.refl _ w).alloc (Nat.le_refl _) _
  refine wpIn_rangeFunc_ownH rfl h1 (gf := g) (lb := lb) rfl trivial eg hseq belowK_t (belowK_b (by simp; omega)) hB0 (fun _ => rfl)
    (fun pre W => (∃ v, Boxed W w.heap.size 115 v ∧ W.ownsRow w.heap.size 221 2 v pre.length ((flatP pre).map (Value.int .i64)) ∧ True) ∧ Below w.heap.size w W)
    (fun _ _ _ => False)
    (OwnFrom.and (Own.from (holdsRow_own w.heap.size w.heap.size 115 221 2 (fun pre : List (Int × Int) => pre.length) (fun pre => (flatP pre).map (Value.int .i64)) (fun _ _ => True)) _) (ownFrom_below (Nat.le_refl _) (by simp)))
    (fun _ _ _ _ _ hs _ _ => hs)
    ⟨⟨_, b0, World.ownsRow_nil _ _ _ _, trivial⟩, hB0⟩
    (fun x a' W => ∃ Bx, w.heap.size < Bx ∧ Blk W Bx 221 #[.int .i64 x.1, .int .i64 x.2] ∧ a' = { tmps := #[.slice none 0 0, .func (.func g) #[] lb, .pointer (some ⟨w.heap.size, 0, none⟩), undef, .slice none 0 0, .pointer (some ⟨Bx, 0, none⟩), .func (.func g) #[] lb, .agg #[.int .i64 x.1, .int .i64 x.2], undef, undef, undef, undef, undef], defers := [] })
    (fun x a' s X Y row hs hg hr => by
      obtain ⟨Bx, h1, h2, rfl⟩ := hs
      refine ⟨Bx, h1, h2.grown hg (fun e => ?_), rfl⟩
      obtain ⟨_, o, ho, hc⟩ := hr Bx e.symm
      rw [show X.heap[Bx]? = _ from h2] at ho
      cases ho
      cases hc)
    ?assign ?body ?done ?stop
  case assign =>
    rintro l pre x W K ⟨⟨v, hv, hr, _⟩, hB⟩ hK
    gi_wp2
    exact hK _ _ ((KeepsOthers.alloc _ _).from _) ((Below.refl n₀ W).alloc (Nat.le_trans hn0 hB.size) _) ⟨⟨v, hv.alloc _, hr.alloc _, trivial⟩, hB.alloc hB.size _⟩ ⟨W.heap.size, hv.lt, Blk.new W _ _, rfl⟩
  case body =>
    rintro l pre x a' W hl ⟨r, hrl⟩ ⟨⟨v, hv, hrow, _⟩, hB⟩ ⟨Bx, hlt, hbx, rfl⟩ hlen
    have hc := hv.cell
    have hx0 := hbx.cell 0
    have hx1 := hbx.cell 1
    simp at hx0 hx1
    have hBs := hB.size
    gi_wp2_with (gi_at_builtin; refine wpListIn_append_own _ rfl _ _ 115 rfl w.heap.size 221 i0 (.agg #[.int .i64 0, .int .i64 0]) 2 16 Tryz.underlying115 hi hz0 hz1 hz2 rfl (by decide) _ _ _ rfl (hrow.alloc _) ⟨W.heap.size, 0, none⟩ 1 1 [.int .i64 x.1, .int .i64 x.2] rfl rfl (rec_cellsP W x) (by simp [Value.oneCell']) (by unfold maxLen; omega) (by omega) (by simp; omega) ?_; intro v' w1 hown' hgrow _; obtain ⟨g', cap', rfl⟩ := ownsRow_succ hown'; obtain ⟨hv1, hv2, hr2, hk2, hb2⟩ := hv.appended (by decide) hrow hB.size (Nat.le_refl _) hown' hgrow; have hc1 := hv1.cell; have hf1 := hv1.frozen)
    refine ⟨hk2.from _, hb2.mono hn0, ⟨_, hv2, ?_, trivial⟩, hB.trans hb2⟩
    rw [flatP_snoc]
    simpa using hr2
  case done =>
    rintro D ys W hD hS ⟨⟨v, hv, hrow, _⟩, hB⟩ hK
    have hc := hv.cell
    gi_wp2
    refine ⟨by simp, .inl ⟨_, _, rfl, run_takeDeferred hK, ?_⟩⟩
    exact ⟨_, results_tmp rfl _ _ _, v, ys, rfl, hS, ownsRow_putObj hrow _ hK rfl, hB.trans (belowK_b (w := w) (Nat.le_refl _) W D _ _ (by simp at hD; omega) hK rfl rfl)⟩
  case stop =>
    rintro D c pre W _ _ h _
    exact h.elim

set_option maxHeartbeats 1000000 in
theorem collectP (g : Nat) (lb : Array Value) (S Sp : List (Int × Int) → Prop) (n₀ N : Nat) (hN : N ≤ 1000000000) (w : World) (hn0 : n₀ ≤ w.heap.size) (eg : ∀ args w, (callFunc g args).run Tryz.prog w = .ok (.enter g args) w)
    (hseq : SeqStopsK Fence.wide 3 Tryz.prog g lb (fun x : Int × Int => #[.agg #[.int .i64 x.1, .int .i64 x.2]]) (Below n₀) S Sp N w) :
    Calls Tryz.prog 259 #[.func (.func g) #[] lb] w fun e W' => ∃ A2 c2 ys, e = .returned (.slice A2 ys.length c2) ∧ S ys ∧ OwnR W' w.heap.size 221 2 A2 ys.length c2 (flatP ys) ∧ Below w.heap.size w W' := by
  have HS := hide (callsIn_wide.1 (appendSeqP_in g lb S Sp n₀ N 4 (Nat.le_refl _) hN w hn0 eg hseq))
  clear hseq eg
  go_enter Tryz.func259, Tryz.ntmps259
  go_wp2_with fail
  refine HS.out.mono ?_
  rintro e W ⟨v, ys, rfl, hS, hrow, hB⟩
  obtain ⟨A2, c2, rfl⟩ := slice_of_own hrow
  have HO := hide (show OwnR W w.heap.size 221 2 A2 ys.length c2 (flatP ys) from ⟨flatP_length ys, hrow⟩)
  go_wp2
  go_ret
  exact ⟨A2, c2, ys, rfl, hS, HO.out, hB⟩

set_option maxHeartbeats 1600000 in
theorem implGetP (A : Option Addr) (n c B : Nat) (xs : List Int) (w : World) (hr : Ints w B A n xs) (hB : B ≤ w.heap.size) (hn : n ≤ 1000000000) (hnc : n ≤ c) (hcm : c ≤ 9223372036854775807) :
    Calls Tryz.prog 239 #[.slice A n c] w (GetPost w 221 2 (okG 2 9 fldP xs n) xs) := by
  have HR := hide hr
  have HB := hide hB
  clear hr
  have HL := hide HR.out.1
  obtain ⟨v, hv⟩ : ∃ v, okG 2 9 fldP xs n = v := ⟨_, rfl⟩
  rw [hv]
  by_cases hm : n % 2 = 0
  · have hv2 : validP xs (n / 2) = v := by rw [← hv]; unfold okG; rw [decide_eq_true hm, Bool.true_and]
    have HV := hide hv2
    have z0 : ((n : Int) % 2 != 0) = false := by simp; omega
    have HM := hide (show (n / 2) * 2 = n by omega)
    have hd9 : n / 2 ≤ 1000000000 := by omega
    obtain ⟨d, hd⟩ : ∃ d, n / 2 = d := ⟨_, rfl⟩
    rw [hd] at HV HM hd9
    have HD := hide hd
    clear hv hv2 hm hd
    go_enter Tryz.func239, Tryz.ntmps239
    go_wp2_with fail
    refine (pairsIn_any A n c _).mono ?_
    rintro e w1 ⟨rfl, rfl⟩
    have HC := hide (collectP _ _ _ _ w.heap.size (n / 2) (by rw [HD.out]; exact hd9) (w.alloc (.cells #[.slice A n c] 27)) (by simp) (enters_of Tryz.func275 (by kernel_rfl) rfl)
      (pairsIn_stops A n c 3 w.heap.size w.heap.size xs _ (by omega) (by simp) (by simp) ((Blk.new w 27 #[.slice A n c]).cell 0) ((HR.out.more HB.out).alloc (Nat.le_refl _) _) hn hnc hcm))
    go_wp2_with fail
    refine HC.out.mono ?_
    rintro e w2 ⟨A2, c2, ys, rfl, hys, ho2, hb2⟩
    have hyl : ys.length = d := by rw [hys, recsP_length, HD.out]
    rw [hys, flatP_recs xs _ (by rw [HD.out, HL.out, HM.out]; exact Nat.le_refl _), HD.out, HM.out, List.take_of_length_le (by rw [HL.out]; exact Nat.le_refl _)] at ho2
    rw [hyl]
    rw [recsP_length] at ho2
    have HO2 := hide ho2
    have HB2 := hide ((below_new w (.cells #[.slice A n c] 27)).trans (hb2.mono (by simp)))
    have HVV := hide (implValidP A2 d c2 w2.heap.size xs w2 ho2.ints (Nat.le_refl _) hd9)
    rw [HV.out] at HVV
    have hs2 := hb2.size
    simp at hs2
    clear ho2 hb2 hys hyl HC
    go_wp2_with fail
    refine HVV.out.mono ?_
    rintro e w3 ⟨rfl, hb3⟩
    have HB3 := hide (HB2.out.trans (hb3.mono HB2.out.size))
    have HO3 := hide ((HO2.out.below hb3).mono (show w.heap.size ≤ (w.alloc (.cells #[.slice A n c] 27)).heap.size by simp))
    clear hb3 HVV
    rcases v with _ | _
    · go_wp2
      go_ret2
      exact ⟨_, _, _, rfl, OwnR.nil_ _ _ _ _, HB3.out⟩
    · go_wp2
      go_ret2
      exact ⟨_, _, _, rfl, HO3.out, HB3.out⟩
  · have hv2 : v = false := by rw [← hv]; unfold okG; rw [decide_eq_false hm, Bool.false_and]
    subst hv2
    have z0 : ((n : Int) % 2 != 0) = true := by simp; omega
    clear hv hm
    go_enter Tryz.func239, Tryz.ntmps239
    go_wp2
    go_ret2
    exact ⟨_, _, _, rfl, OwnR.nil_ _ _ _ _, Below.refl _ _⟩
end Go.Proofs.YtfianpjoifcphaaGreat
