/-
  slices.Backward over trees, as the program bears it; the program's valueIn.
-/
import Derived.Test.YtapfbkjgmfmepaaImpL6
namespace Go.Proofs.Ytapfbkjgmfmepaa
open Go.RowKit Go.Shelf
set_option linter.unusedVariables false
set_option maxRecDepth 100000

attribute [local go_sem] Oper.semAt_some

set_option maxHeartbeats 400000 in
theorem backward_any (A : Option Addr) (n c : Nat) (w : World) :
    Calls Try.prog 64 #[.slice A n c] w fun e w' => e = .returned (.func (.func 71) #[] #[.pointer (some ⟨w.heap.size, 0, none⟩)]) ∧ w' = w.alloc (.cells #[.slice A n c] 61) := by
  go_enter Try.func64, Try.ntmps64
  go_wp2
  go_ret
  exact ⟨rfl, rfl⟩

/-- pointers to trees that can be read -/
def PtI (w : World) (B : Nat) (A : Option Addr) (n : Nat) (ts : List Tr) : Prop :=
  ts.length = n ∧ (0 < n → ∃ ad, A = some ad ∧ ad.block < B ∧ ∀ j t, ts[j]? = some t → w.cell? (ad.add j) = some (.pointer t.pt))
theorem PtI.below {w w' : World} {B B2 n : Nat} {A : Option Addr} {ts : List Tr} (h : PtI w B A n ts) (hb : Below B2 w w') (hB : B ≤ B2) : PtI w' B A n ts :=
  ⟨h.1, fun hn => by
    obtain ⟨ad, e, hb', hc⟩ := h.2 hn
    exact ⟨ad, e, hb', fun j t hj => (hb.cell (by rw [block_of_add]; omega)).trans (hc j t hj)⟩⟩
theorem PtI.more {w : World} {B B2 n : Nat} {A : Option Addr} {ts : List Tr} (h : PtI w B A n ts) (hB : B ≤ B2) : PtI w B2 A n ts :=
  ⟨h.1, fun hn => by
    obtain ⟨ad, e, hb', hc⟩ := h.2 hn
    exact ⟨ad, e, by omega, hc⟩⟩
theorem Trs.pti {w : World} {base n c : Nat} {A : Option Addr} {ts : List Tr} (h : Trs w base A n c ts) : PtI w w.heap.size A n ts := by
  refine ⟨h.len, fun hn => ?_⟩
  obtain ⟨g, rfl, h1, h2⟩ := h.shape hn
  exact ⟨_, rfl, h2, fun j t hj => by rw [add_plain']; exact h.cell hj⟩
theorem PtI.firsts {w : World} {B n m : Nat} {A : Option Addr} {ts : List Tr} (h : PtI w B A n ts) (hm : m ≤ n) : PtI w B A m (ts.take m) := by
  refine ⟨by rw [List.length_take, h.1]; omega, fun hn => ?_⟩
  obtain ⟨ad, e, hb', hc⟩ := h.2 (by omega)
  exact ⟨ad, e, hb', fun j t hj => hc j t (by rw [List.getElem?_take] at hj; split at hj; exact hj; cases hj)⟩

/-- the trees from the last one on -/
def bwd {σ : Type} (ss : List σ) : Nat → List (Nat × σ)
  | 0 => []
  | n + 1 => match ss[n]? with
    | some s => (n, s) :: bwd ss n
    | none => bwd ss n
theorem bwd_succ {σ : Type} {ss : List σ} {n : Nat} {s : σ} (h : ss[n]? = some s) : bwd ss (n + 1) = (n, s) :: bwd ss n := by
  show (match ss[n]? with | some s => (n, s) :: bwd ss n | none => bwd ss n) = _
  rw [h]
section
variable {σ : Type} (tr : σ → Tr)
def goB (b : Int) : List (Nat × σ) → Int
  | [] => -1
  | x :: r => if 0 ≤ findL (tr x.2).vals b then findL (tr x.2).vals b else goB b r
variable {tr : σ → Tr}
theorem goB_snoc {b : Int} {pre : List (Nat × σ)} {x : Nat × σ} (h : goB tr b pre = -1) : goB tr b (pre ++ [x]) = if 0 ≤ findL (tr x.2).vals b then findL (tr x.2).vals b else -1 := by
  induction pre with
  | nil => rfl
  | cons y r ih =>
    unfold goB at h
    rw [List.cons_append]
    by_cases hy : 0 ≤ findL (tr y.2).vals b
    · rw [if_pos hy] at h; omega
    · rw [if_neg hy] at h
      show (if 0 ≤ findL (tr y.2).vals b then findL (tr y.2).vals b else goB tr b (r ++ [x])) = _
      rw [if_neg hy, ih h]
theorem goB_prefix {b : Int} {pre l : List (Nat × σ)} (hp : pre <+: l) (h : 0 ≤ goB tr b pre) : goB tr b l = goB tr b pre := by
  obtain ⟨post, rfl⟩ := hp
  induction pre with
  | nil => unfold goB at h; omega
  | cons y r ih =>
    rw [List.cons_append]
    unfold goB at h ⊢
    by_cases hy : 0 ≤ findL (tr y.2).vals b
    · rw [if_pos hy, if_pos hy]
    · rw [if_neg hy] at h ⊢
      rw [if_neg hy]
      exact ih h
theorem readN_goB (ss : List σ) (b : Int) : ∀ n, n ≤ ss.length → readN (tvs (ss.map tr)) b n = gotV (goB tr b (bwd ss n))
  | 0, _ => rfl
  | n + 1, hn => by
    have hl : n < ss.length := by omega
    have e2 : (tvs (ss.map tr)).getD n [] = (tr ss[n]).vals := tvs_getD (by rw [List.getElem?_map, List.getElem?_eq_getElem hl]; rfl)
    rw [bwd_succ (List.getElem?_eq_getElem hl)]
    unfold readN goB
    rw [e2]
    by_cases h : 0 ≤ findL (tr ss[n]).vals b
    · rw [if_pos h, if_pos h]; unfold gotV; rw [if_pos h]
    · rw [if_neg h, if_neg h]; exact readN_goB ss b n (by omega)

set_option maxHeartbeats 4000000 in
theorem backward_stops (A : Option Addr) (n c m Bs n₀ : Nat) (ss : List σ) (w : World) (hm : 1 ≤ m) (hBs : Bs < n₀) (hn₀ : n₀ ≤ w.heap.size) (hc : w.cell? ⟨Bs, 0, none⟩ = some (.slice A n c)) (hI : PtI w n₀ A n (ss.map tr)) (hn : n ≤ 1000000000) :
    SeqStopsK Fence.wide m Try.prog 71 #[.pointer (some ⟨Bs, 0, none⟩)] (fun x : Nat × σ => #[.int .i64 (x.1 : Int), .pointer (tr x.2).pt]) (Below n₀) (fun ys => ys = bwd ss n) (fun pre => pre <+: bwd ss n) n w := fun l J Jx W hW hJ hJx hY h0 => by
  have hc' := (hW.cell (p := ⟨Bs, 0, none⟩) (by show Bs < _; omega)).trans hc
  have HI := hide (hI.below (hW.mono hn₀) (Nat.le_refl _))
  have HC := hide hc'
  have hn1 : n₀ ≤ W.heap.size := Nat.le_trans hn₀ hW.size
  have wn : IntKind.i64.wrap ((n : Int) - 1) = (n : Int) - 1 := IntWalk.i64_in _ (by omega)
  clear hI hc
  refine callsIn_of_wp Try.func71 rfl trivial ?_ rfl
  simp only [Try.ntmps71, List.size_toArray, List.length_cons, List.length_nil, Nat.reduceAdd, Nat.reduceSub, Array.replicate_succ, Array.replicate_zero, List.push_toArray, List.append_toArray, List.nil_append, List.cons_append]
  gi_wp2
  gi_loopw [3] (fun i wr => ∃ (k : Nat) (pre : List (Nat × σ)), k ≤ n ∧ i = .int .i64 ((k : Int) - 1) ∧ Hid (pre ++ bwd ss k = bwd ss n) ∧ Hid (pre.length + k = n) ∧ J pre wr ∧ Below n₀ W wr) (fun i _ => (intOf i + 1).toNat)
  case atStart => exact ⟨n, [], Nat.le_refl _, rfl, rfl, by simp [Hid], h0, Below.refl _ _⟩
  case round =>
    obtain ⟨k, pre, hk, rfl, HE, HP, hJs, hB⟩ := hrel
    rcases k with _ | k
    · gi_wp2
      go_end0
      have he := HE.out
      rw [show bwd ss 0 = [] from rfl, List.append_nil] at he
      exact ⟨⟨_, rfl⟩, .inl ⟨_, he, hJs⟩⟩
    · have hl : k < ss.length := by have := HI.out.1; rw [List.length_map] at this; omega
      have hc2 := (hB.cell (p := ⟨Bs, 0, none⟩) hBs).trans HC.out
      obtain ⟨ad, rfl, hb, hcell⟩ := (HI.out.below hB (Nat.le_refl _)).2 (by omega)
      have hc0 := hcell k (tr ss[k]) (by rw [List.getElem?_map, List.getElem?_eq_getElem hl]; rfl)
      have hbs := bwd_succ (List.getElem?_eq_getElem hl)
      generalize ss[k] = t at *
      obtain ⟨fn, tmps, assign, body, hy, hR⟩ := hY pre (k, t) _ hJs (by have := HP.out; omega)
      have HBA := hide hB
      have HE2 := hide (show (pre ++ [(k, t)]) ++ bwd ss k = bwd ss n by rw [← HE.out, List.append_assoc, hbs]; rfl)
      have HP2 := hide (show (pre ++ [(k, t)]).length + k = n by have := HP.out; simp; omega)
      have k0 : (0 : Int) ≤ (k : Int) := by omega
      have k1 : (k : Int) < (n : Int) := by omega
      have k2 : ((k + 1 : Nat) : Int) - 1 = (k : Int) := by omega
      have k3 : IntKind.i64.wrap ((k : Int) - 1) = (k : Int) - 1 := IntWalk.i64_in _ (by omega)
      rw [k2]
      clear hB hJs hcell hbs HE HP
      gi_wp2
      refine hR.mono ?_
      rintro e W3 (⟨rfl, hJ3, hk3⟩ | ⟨rfl, hJx3⟩)
      · gi_wp2
        go_roundw
        case rel => exact ⟨k, _, by omega, rfl, HE2.out, HP2.out, hJ3, HBA.out.trans hk3⟩
        case measure => simp [intOf]
      · gi_wp2
        refine bodyPost_ret (results_none rfl _ _ _) rfl ?_
        exact ⟨⟨_, rfl⟩, .inr ⟨_, ⟨_, HE2.out⟩, hJx3⟩⟩
end

set_option maxHeartbeats 4000000 in
theorem value_in (A : Option Addr) (n c m : Nat) (hm : 4 ≤ m) (ts : List Tr) (b : Int) (w : World) (hI : PtI w w.heap.size A n ts) (hT : ∀ t ∈ ts, TrI w t ∧ layV t.vals = true) (hn : n ≤ 1000000000) :
    CallsIn Fence.wide m Try.prog 48 #[.slice A n c, .int .i64 b] w fun e W' => e = .returned (.int .i64 (readN (tvs ts) b n)) ∧ Below w.heap.size w W' := by
  have h1 : 1 ≤ m := by omega
  have hrd := readN_goB (tr := Subtype.val) ts.attach b n (by rw [List.length_attach, hI.1]; exact Nat.le_refl _)
  rw [List.attach_map_subtype_val] at hrd
  refine callsIn_of_wp_marks Try.func48 rfl trivial ?_ rfl
  simp only [Try.ntmps48, List.size_toArray, List.length_cons, List.length_nil, Nat.reduceAdd, Nat.reduceSub, Array.replicate_succ, Array.replicate_zero, List.push_toArray, List.append_toArray, List.nil_append, List.cons_append]
  gi_wp2_with (refine ⟨trivial, ?_⟩; gi_at_call 64; refine (callsIn_wide.2 (backward_any A n c _)).mono ?_; rintro e w' ⟨rfl, rfl⟩)
  have bx := (Boxed.new w 3 (.int .i64 b)).alloc (.cells #[.int .i64 0] 3) |>.alloc (.cells #[.slice A n c] 61)
  have br := (Boxed.new (w.alloc (.cells #[.int .i64 b] 3)) 3 (.int .i64 0)).alloc (.cells #[.slice A n c] 61)
  have bs := Boxed.new ((w.alloc (.cells #[.int .i64 b] 3)).alloc (.cells #[.int .i64 0] 3)) 61 (.slice A n c)
  have hB3 : Below w.heap.size w (((w.alloc (.cells #[.int .i64 b] 3)).alloc (.cells #[.int .i64 0] 3)).alloc (.cells #[.slice A n c] 61)) := (((Below.refl _ w).alloc (Nat.le_refl _) _).alloc (by simp) _).alloc (by simp; omega) _
  have hsz : (((w.alloc (.cells #[.int .i64 b] 3)).alloc (.cells #[.int .i64 0] 3)).alloc (.cells #[.slice A n c] 61)).heap.size = w.heap.size + 3 := by simp
  rw [World.size_alloc] at br
  rw [World.size_alloc, World.size_alloc] at bs
  generalize (((w.alloc (.cells #[.int .i64 b] 3)).alloc (.cells #[.int .i64 0] 3)).alloc (.cells #[.slice A n c] 61)) = W3 at bx br bs hB3 hsz ⊢
  have hI3 : PtI W3 W3.heap.size A n (ts.attach.map Subtype.val) := by rw [List.attach_map_subtype_val]; exact (hI.below hB3 (Nat.le_refl _)).more (by omega)
  have HT := hide fun (t : Tr) (ht : t ∈ ts) => (⟨(hT t ht).1.below hB3, (hT t ht).2⟩ : TrI W3 t ∧ layV t.vals = true)
  refine wpIn_rangeFunc_ownF rfl h1 (gf := 71) (lb := #[.pointer (some ⟨w.heap.size + 1 + 1, 0, none⟩)]) rfl trivial
    (enters_of Try.func71 (by kernel_rfl) rfl)
    (backward_stops (tr := (Subtype.val : {t // t ∈ ts} → Tr)) A n c (m - 1) (w.heap.size + 1 + 1) W3.heap.size ts.attach W3 (by omega) (by omega) (Nat.le_refl _) bs.cell hI3 hn) belowK_t (belowK_b (Nat.le_refl _)) (Below.refl _ _) (fun _ => rfl)
    (fun pre W => goB Subtype.val b pre = -1 ∧ Below W3.heap.size W3 W)
    (fun c pre W => ((c = .ret ∧ 0 ≤ goB Subtype.val b pre) ∧ Boxed W (w.heap.size + 1) 3 (.int .i64 (goB Subtype.val b pre))) ∧ Below w.heap.size w W)
    (OwnFrom.and (ownFrom_pure _ _) (ownFrom_below (Nat.le_refl _) (Nat.le_refl _)))
    (fun c => OwnFrom.and (OwnFrom.and (ownFrom_pure _ _) (Own.from (boxed_own _ _ (fun pre => .int .i64 (goB Subtype.val b pre))) _)) (ownFrom_below (Nat.le_refl _) (by omega)))
    ⟨rfl, Below.refl _ _⟩
    (fun x => { tmps := #[.slice A n c, .int .i64 b, undef, .pointer (some ⟨w.heap.size, 0, none⟩), .pointer (some ⟨w.heap.size + 1, 0, none⟩), undef, .pointer x.2.1.pt, undef, undef, .slice A n c,
      .func (.func 71) #[] #[.pointer (some ⟨w.heap.size + 1 + 1, 0, none⟩)], .int .i64 (x.1 : Int), .pointer x.2.1.pt, undef, undef, undef, undef, undef, undef, undef, undef], defers := [] }) ?assign ?body ?done ?stop
  case assign =>
    intro l x W K hK
    gi_wp2
    exact hK
  case body =>
    rintro l pre ⟨k, t, ht⟩ W ⟨hg, hB⟩ _
    have hs := goB_snoc (tr := (Subtype.val : {t // t ∈ ts} → Tr)) (x := (k, ⟨t, ht⟩)) hg
    simp only at hs
    have hcx := (hB.cell (p := ⟨w.heap.size, 0, none⟩) (by show w.heap.size < _; omega)).trans bx.cell
    have hbr : Boxed W (w.heap.size + 1) 3 (.int .i64 0) := (hB.block _ (by omega)).trans br
    have hcr := hbr.cell
    have hfr := hbr.frozen
    have HG := hide (get_any t b W (-1) ((HT.out t ht).1.below hB) (HT.out t ht).2)
    generalize findL t.vals b = z at HG hs
    have HS := hide hs
    have HR := hide hbr
    have HB := hide hB
    clear hs hbr hB hg
    have HW := hide (hB3.trans (HB.out.mono (by omega)))
    dsimp only
    generalize t.pt = tp at HG ⊢
    by_cases hz : 0 ≤ z
    · have g1 : gotV z = z := by unfold gotV; rw [if_pos hz]
      have g2 : gotB z = true := by unfold gotB; rw [decide_eq_true hz]
      rw [g1, g2] at HG
      rw [if_pos hz] at HS
      clear g1 g2
      gi_wp2_with fail
      refine ⟨trivial, fun _ => by omega, ?_⟩
      refine (CallsIn.inRound l (callsIn_wide.2 HG.out)).mono ?_
      rintro e w' ⟨rfl, rfl⟩
      gi_wp2
      exact ⟨KeepsOthers.setCell _ _ _, ⟨⟨rfl, by rw [HS.out]; exact hz⟩, by rw [HS.out]; exact HR.out.set _⟩, HW.out.setCell (p := ⟨w.heap.size + 1, 0, none⟩) (by show w.heap.size ≤ w.heap.size + 1; omega) _⟩
    · have g1 : gotV z = 0 := by unfold gotV; rw [if_neg hz]
      have g2 : gotB z = false := by unfold gotB; rw [decide_eq_false hz]
      rw [g1, g2] at HG
      rw [if_neg hz] at HS
      clear g1 g2
      gi_wp2_with fail
      refine ⟨trivial, fun _ => by omega, ?_⟩
      refine (CallsIn.inRound l (callsIn_wide.2 HG.out)).mono ?_
      rintro e w' ⟨rfl, rfl⟩
      gi_wp2
      exact ⟨KeepsOthers.refl _, Below.refl _ _, HS.out, HB.out⟩
  case done =>
    rintro D ys W hD rfl ⟨hg, hB⟩ hK
    have hbr : Boxed W (w.heap.size + 1) 3 (.int .i64 0) := (hB.block _ (by omega)).trans br
    have hcr := hbr.cell
    have hfr := hbr.frozen
    have hB' := hB3.trans (hB.mono (by omega))
    rw [hg] at hrd
    have e0 : readN (tvs ts) b n = 0 := by rw [hrd]; rfl
    gi_wp2
    have hK' := (KeepsOthers.setCell W ⟨w.heap.size + 1, 0, none⟩ (.int .i64 0)).same D _ hK rfl
    refine ⟨by simp, .inl ⟨_, _, rfl, run_takeDeferred hK', ?_⟩⟩
    have hc5 := cell_kept (hbr.set (.int .i64 0)).cell (grownBy_putObj' _ D (.deferred none)) (fun r e => by cases e; exact ⟨_, hK', rfl⟩)
    refine ⟨.int .i64 0, ?_, by rw [e0], (hB'.setCell (p := ⟨w.heap.size + 1, 0, none⟩) (by show w.heap.size ≤ w.heap.size + 1; omega) _).trans (belowK_b (w := w) (Nat.le_refl _) _ D _ _ (by omega) hK' rfl rfl)⟩
    simp [results, Try.f48, go_sem, hc5]
  case stop =>
    rintro D c pre W hD hpre ⟨⟨⟨rfl, hin⟩, hr⟩, hB⟩ hK
    rw [goB_prefix hpre hin] at hrd
    have e0 : readN (tvs ts) b n = goB Subtype.val b pre := by rw [hrd]; unfold gotV; rw [if_pos hin]
    gi_wp2
    refine ⟨by simp, .inl ⟨_, _, rfl, run_takeDeferred hK, ?_⟩⟩
    have hc5 := cell_kept hr.cell (grownBy_putObj' _ D (.deferred none)) (fun r e => by cases e; exact ⟨_, hK, rfl⟩)
    refine ⟨.int .i64 (goB Subtype.val b pre), ?_, by rw [e0], hB.trans (belowK_b (w := w) (Nat.le_refl _) W D _ _ (by omega) hK rfl rfl)⟩
    simp [results, Try.f48, go_sem, hc5]

theorem value_any (A : Option Addr) (n c : Nat) (ts : List Tr) (b : Int) (w : World) (hI : PtI w w.heap.size A n ts) (hT : ∀ t ∈ ts, TrI w t ∧ layV t.vals = true) (hn : n ≤ 1000000000) :
    Calls Try.prog 48 #[.slice A n c, .int .i64 b] w fun e W' => e = .returned (.int .i64 (readN (tvs ts) b n)) ∧ Below w.heap.size w W' :=
  callsIn_wide.1 (value_in A n c 4 (Nat.le_refl _) ts b w hI hT hn)
end Go.Proofs.Ytapfbkjgmfmepaa
