/-
  Texts in one: DrawA, Make, FrameP, Marks, OPut, NewH, SumMath, AscM, HeatM, SpecM1. Plain.
-/
import Derived.Test.YtfianpjoifcphaaGreatG1
import Derived.Test.YtfianpjoifcphaaGreatBase
/- DrawA -/
namespace Go.Proofs.YtfianpjoifcphaaGreat
open Go.RowKit
set_option linter.unusedVariables false
set_option maxRecDepth 100000

theorem grown_cell {w w' : World} {R : Nat} {p : Addr} (h : w.grownBy w' (some R)) (hp : p.block < w.heap.size) (hne : p.block ≠ R) : w'.cell? p = w.cell? p :=
  World.cell?_of_block (h.block p.block hp (by intro e; exact hne (by injection e)))

def four (v : Int) : Int := ([-1, 0, 9999, 10000] : List Int).getD v.toNat 0
theorem four_rng (v : Int) : -1 ≤ four v ∧ four v ≤ 10000 := by
  unfold four
  rcases h : v.toNat with _ | _ | _ | _ | n <;> simp

set_option maxHeartbeats 800000 in
theorem word_any (R : Nat) (p : Int) (w : World) (hr : Rd w R p) (hp : p < 29990) :
    Calls Tryz.prog 95 #[.pointer (some ⟨R, 0, none⟩)] w fun e w' => ∃ x p', e = .returned (.int .i64 x) ∧ -1 ≤ x ∧ x ≤ 10000 ∧ p ≤ p' ∧ p' ≤ p + 2 ∧ Rd w' R p' ∧ w.grownBy w' (some R) := by
  have hRw : R < w.heap.size := by obtain ⟨_, _, A, m, c, bs, _, _, hb, _⟩ := hr; exact hb.lt
  go_enter Tryz.func95, Tryz.ntmps95
  go_wp2_with fail
  refine (pick_any R p 16 _ hr (by omega) (by omega)).mono ?_
  rintro e w1 ⟨v, rfl, hv0, hv1, hr1, hg1⟩
  have hs1 := hg1.size
  by_cases h0 : v = 0
  · subst h0
    go_wp2_with fail
    have hr1' : Rd (w1.alloc (.cells #[.int .i64 (-1), .int .i64 0, .int .i64 9999, .int .i64 10000] 3)) R (p + 1) := by
      obtain ⟨a, b, A, m, c, bs, d, e, hb, hbs⟩ := hr1
      exact ⟨a, b, A, m, c, bs, d, e, hb.alloc _, hbs.keep fun q hq => World.cell?_alloc_lt w1 _ q (by omega)⟩
    refine (pick_any R (p + 1) 4 _ hr1' (by omega) (by omega)).mono ?_
    rintro e w2 ⟨u, rfl, hu0, hu1, hr2, hg2⟩
    have hc : w2.cell? ⟨w1.heap.size, u.toNat, none⟩ = some (.int .i64 (four u)) := by
      rw [grown_cell hg2 (by simp) (by simp; omega), (Blk.new w1 3 _).cell]
      have : u = 0 ∨ u = 1 ∨ u = 2 ∨ u = 3 := by omega
      rcases this with rfl | rfl | rfl | rfl <;> rfl
    have hf := four_rng u
    have HG := hide hg2
    clear hg2
    go_wp2
    go_ret
    exact ⟨_, _, rfl, hf.1, hf.2, by omega, by omega, hr2, grown_trans' (grown_alloc hg1 _) HG.out⟩
  · by_cases h1 : v = 1
    · subst h1
      go_wp2_with fail
      refine (pick_any R (p + 1) 100 _ hr1 (by omega) (by omega)).mono ?_
      rintro e w2 ⟨u, rfl, hu0, hu1, hr2, hg2⟩
      go_wp2
      go_ret
      exact ⟨_, _, rfl, by omega, by omega, by omega, by omega, hr2, grown_trans' hg1 hg2⟩
    · have h0' : (v == 0) = false := by simpa using h0
      have h1' : (v == 1) = false := by simpa using h1
      go_wp2_with fail
      refine (pick_any R (p + 1) 20 _ hr1 (by omega) (by omega)).mono ?_
      rintro e w2 ⟨u, rfl, hu0, hu1, hr2, hg2⟩
      go_wp2
      go_ret
      exact ⟨_, _, rfl, by omega, by omega, by omega, by omega, hr2, grown_trans' hg1 hg2⟩

theorem Rd.lt {w : World} {R : Nat} {p : Int} (h : Rd w R p) : R < w.heap.size := by obtain ⟨_, _, A, m, c, bs, _, _, hb, _⟩ := h; exact hb.lt
theorem Rd.grown {w w' : World} {R : Nat} {p : Int} {row : Option Nat} (h : Rd w R p) (hg : w.grownBy w' row) (hr : ∀ g, row = some g → R < g) : Rd w' R p := by
  have hl := h.lt
  obtain ⟨a, b, A, m, c, bs, d, e, hb, hbs⟩ := h
  exact ⟨a, b, A, m, c, bs, d, e, hb.grown hg (fun e => by have := hr R e.symm; omega), hbs.keep fun q hq => World.cell?_of_block (hg.block q.block (by omega) (fun e => by have := hr _ e.symm; omega))⟩
theorem Rd.alloc {w : World} {R : Nat} {p : Int} (h : Rd w R p) (o : Obj) : Rd (w.alloc o) R p := h.grown (World.grownBy_alloc w o none) (by simp)
theorem Rd.drewN {w : World} {R : Nat} {p : Int} (h : Rd w R p) (n : Nat) : Rd (w.drewN n) R p := h
theorem Rd.below {w w' : World} {R : Nat} {p : Int} (h : Rd w R p) (hg : Below w.heap.size w w') : Rd w' R p := h.grown (grown_of_below hg none) (by simp)

theorem Blk.ne_ {w : World} {g g' : Nat} {t t' : TypeId} {cs cs' : Array Value} (h : Blk w g t cs) (h' : Blk w g' t' cs') (hne : t ≠ t') : g ≠ g' := by
  rintro rfl
  unfold Blk at h h'
  rw [h] at h'
  injection h' with h'
  injection h' with _ ht
  exact hne ht
theorem own_blk_ne {w : World} {g base n c : Nat} {t : TypeId} {cs : Array Value} {A : Option Addr} {xs : List Int} (h : Own w base A n c xs) (hg : Blk w g t cs) (hne : 3 ≠ t) : (Value.slice A n c).ownBlock ≠ some g := by
  rcases h.2.2 with ⟨hv, _⟩ | ⟨g', cap, cur, hv, _, hh, _⟩
  · rw [hv]; simp [Value.ownBlock]
  · rw [hv]
    intro he
    have : g' = g := by simpa [Value.ownBlock] using he
    subst this
    exact Blk.ne_ (t := 3) hh hg hne rfl
theorem Own.firsts {w : World} {base n c m : Nat} {A : Option Addr} {xs : List Int} (h : Own w base A n c xs) (hm : m ≤ n) : Own w base A m c (xs.take m) := by
  refine ⟨by rw [List.length_take, h.1]; omega, by simp [h.1]; omega, ?_⟩
  rcases h.2.2 with ⟨hv, h0⟩ | ⟨g, cap, cur, hv, hb, hh, hc, hmx, hs, ht⟩
  · injection hv with e1 e2 e3
    subst e1 e2 e3
    exact .inl ⟨by rw [show m = 0 by omega], by omega⟩
  · injection hv with e1 e2 e3
    subst e1 e3
    refine .inr ⟨g, c, cur, rfl, hb, hh, by omega, hmx, hs, ?_⟩
    have : (cur.toList.take (n * 1)).take (m * 1) = (xs.map (Value.int .i64)).take (m * 1) := by rw [ht]
    rw [List.take_take] at this
    rw [show min (m * 1) (n * 1) = m * 1 by omega] at this
    rw [this, Nat.mul_one, List.map_take]

set_option maxHeartbeats 1000000 in
theorem words91_any (R : Nat) (p n : Int) (w : World) (hr : Rd w R p) (hn0 : 0 ≤ n) (hn : n ≤ 200) (hp : p < 29000) :
    Calls Tryz.prog 93 #[.pointer (some ⟨R, 0, none⟩), .int .i64 n] w fun e w' => ∃ A k c xs p', e = .returned (.slice A k c) ∧ Own w' w.heap.size A k c xs ∧ k ≤ n ∧ Rng (-1) 10000 xs ∧
      p ≤ p' ∧ p' ≤ p + n + 5 ∧ Rd w' R p' ∧ w.grownBy w' (some R) := by
  have hRw := hr.lt
  go_enter Tryz.func93, Tryz.ntmps93
  go_wp2_with fail
  refine (pick_any R p (n + 1) _ (hr.alloc _) (by omega) (by omega)).mono ?_
  rintro e w1 ⟨m, rfl, hm0, hm1, hr1, hg1⟩
  have hs1 : w.heap.size < w1.heap.size := by have := hg1.size; simp at this; omega
  have ho1 : Own w1 w.heap.size (some ⟨w.heap.size, 0, none⟩) 0 0 [] := (Own.lit0 w w.heap.size (Nat.le_refl _)).kept hg1 (by
    intro k hk; injection hk with hk; subst hk; simp [Value.ownBlock]; omega)
  have hG1 : w.grownBy w1 (some R) := grown_trans' (grown_alloc (grown_refl w _) _) hg1
  clear hg1
  obtain ⟨K, rfl⟩ := Int.eq_ofNat_of_zero_le hm0
  go_wp2_with fail
  go_loopw [5, 7] (fun v i wr => ∃ (k c : Nat) (A : Option Addr) (xs : List Int), k ≤ K ∧ i = .int .i64 k ∧ v = .slice A k c ∧ Own wr w.heap.size A k c xs ∧ Rng (-1) 10000 xs ∧ Rd wr R (p + 1 + k) ∧ w.grownBy wr (some R))
    (fun _ i _ => K - (intOf i).toNat)
  case atStart => exact ⟨0, 0, _, [], Nat.zero_le _, rfl, rfl, ho1, by simp [Rng], by simpa using hr1, hG1⟩
  case round =>
    clear ho1 hr1 hG1
    obtain ⟨k, c, Ao, xs, hk, rfl, rfl, hown, hrng, hrd, hG⟩ := hrel
    have HO := hide hown
    have HG := hide hG
    have HR := hide hrd
    have hsz := hG.size
    clear hown hG hrd
    by_cases hlt : k < K
    · go_wp2_with fail
      refine (pick_any R (p + 1 + k) 100 _ HR.out (by omega) (by omega)).mono ?_
      rintro e w2 ⟨u, rfl, hu0, hu1, hr2, hg2⟩
      have hs2 := hg2.size
      have ho2 := HO.out.kept hg2 (by intro g hg; injection hg with hg; subst hg; intro e; have := HO.out.block _ e; omega)
      have HO2 := hide ho2
      have HR2 := hide hr2
      have HG2 := hide (grown_trans' HG.out hg2)
      clear hr2 hg2 ho2
      go_wp2_with (at_builtin; refine wpList_append_ints rfl _ _ rfl w.heap.size k c _ 1 _ Ao _ xs [u] rfl (HO2.out.alloc _) rfl (Ints.one _ u) (by omega) (by simp; omega) ?_; intro A2 c2 w3 ho3 hg3 hat3)
      have hb := (HO2.out.block)
      have HO3 := hide ho3
      have hrow : ∀ g, (Value.slice Ao k c).ownBlock = some g → w.heap.size ≤ g := fun g hg => (hb g hg).1
      have HR3 := hide ((HR2.out.alloc (.cells #[.int .i64 u] 3)).grown hg3 (fun g hg => by have := hrow g hg; omega))
      have HG3 := hide (grown_own (grown_alloc HG2.out (.cells #[.int .i64 u] 3)) hg3 hrow)
      clear ho3 hg3 hat3 hb hrow
      go_roundw
      case rel => exact ⟨k + 1, c2, A2, xs ++ [u], by omega, by go_num, rfl, HO3.out, hrng.snoc (by omega) (by omega), by have := HR3.out; rw [show p + 1 + ((k + 1 : Nat) : Int) = p + 1 + k + 1 from by omega]; exact this, HG3.out⟩
      case measure => simp [intOf]; omega
    · obtain rfl : k = K := by omega
      by_cases hk0 : k = 0
      · subst hk0
        have h00 : decide ((0 : Int) < 0) = false := by decide
        go_wp2
        go_ret
        exact ⟨_, _, _, xs, p + 1, rfl, HO.out, by omega, hrng, by omega, by omega, by simpa using HR.out, HG.out⟩
      · have hkp : decide ((0 : Int) < (k : Int)) = true := by simp; omega
        have hkp' : 0 < k := by omega
        go_wp2_with fail
        refine (pick_any R (p + 1 + k) 12 _ HR.out (by omega) (by omega)).mono ?_
        rintro e w2 ⟨u, rfl, hu0, hu1, hr2, hg2⟩
        have hs2 := hg2.size
        have ho2 := HO.out.kept hg2 (by intro g hg; injection hg with hg; subst hg; intro e; have := HO.out.block _ e; omega)
        have HO2 := hide ho2
        have HR2 := hide hr2
        have HG2 := hide (grown_trans' HG.out hg2)
        clear hr2 hg2 ho2
        by_cases hu : u = 0
        · subst hu
          go_wp2_with fail
          refine (pick_any R (p + 1 + k + 1) k _ HR2.out (by omega) (by omega)).mono ?_
          rintro e w3 ⟨j, rfl, hj0, hj1, hr3, hg3⟩
          have hs3 := hg3.size
          have ho3 := HO2.out.kept hg3 (by intro g hg; injection hg with hg; subst hg; intro e; have := HO2.out.block _ e; omega)
          have HO3 := hide ho3
          have HR3 := hide hr3
          have HG3 := hide (grown_trans' HG2.out hg3)
          clear hr3 hg3 ho3
          go_wp2_with fail
          refine (word_any R (p + 1 + k + 1 + 1) _ HR3.out (by omega)).mono ?_
          rintro e w4 ⟨x, p4, rfl, hx0, hx1, hp4, hp4', hr4, hg4⟩
          have hs4 := hg4.size
          have ho4 := HO3.out.kept hg4 (by intro g hg; injection hg with hg; subst hg; intro e; have := HO3.out.block _ e; omega)
          obtain ⟨g, rfl, hgb, hgl⟩ := ho4.shape hkp'
          obtain ⟨J, rfl⟩ := Int.eq_ofNat_of_zero_le hj0
          have hcell := ho4.cell (g := g) (j := J) (by omega)
          have hfree := ho4.free (g := g) (j := J)
          have hst := ho4.stored (g := g) (j := J) x
          have HG4 := hide (grown_own (grown_trans' HG3.out hg4) hst.2 (by intro q hq; injection hq with hq; omega))
          have HR4 := hide (hr4.grown hst.2 (by intro q hq; injection hq with hq; omega))
          have HO4 := hide hst.1
          clear ho4 hg4 hr4 hst HO HO2 HO3 HG HG2 HG3 HR HR2 HR3
          go_wp2
          go_ret
          exact ⟨_, _, _, _, p4, rfl, HO4.out, by omega, hrng.set _ hx0 hx1, by omega, by omega, HR4.out, HG4.out⟩
        · have hu' : (u == 0) = false := by simpa using hu
          go_wp2
          go_ret
          exact ⟨_, _, _, xs, p + 1 + k + 1, rfl, HO2.out, by omega, hrng, by omega, by omega, HR2.out, HG2.out⟩
end Go.Proofs.YtfianpjoifcphaaGreat

/- Make -/
namespace Go.Proofs.YtfianpjoifcphaaGreat
open Go.RowKit
set_option linter.unusedVariables false
set_option maxRecDepth 100000

/-- 'make([]int, 0, n)' -/
theorem wpList_make_ints0 {w : World} {ops : Array Oper} {rest : List Oper} {o : Oper} {a : Act} {Q : Exit → Act → World → Prop}
    (hg : o.guard = none) (l c : Operand) (hop : o.op = Op.makeSlice 27 l c) (L C : Int) (n : Nat) (hl : a.eval l = .int .i64 L) (hc : a.eval c = .int .i64 C) (hL : L = 0) (hC : C = (n : Int)) (hn : n ≤ 17592186044416)
    (hK : ∀ w', Own w' w.heap.size (some ⟨w.heap.size, 0, none⟩) 0 n [] → Below w.heap.size w w' → w'.heap.size = w.heap.size + 1 → wpList Tryz.prog ops Q rest (a.put o.dst (.slice (some ⟨w.heap.size, 0, none⟩) 0 n)) w') :
    wpList Tryz.prog ops Q (o :: rest) a w := by
  obtain ⟨i0, hi, hz0, hz1, hz2⟩ := info_parts info_int
  refine wpList_plain hg fun K hK' => ?_
  have hr := run_make (P := Tryz.prog) w 27 3 i0 (.int .i64 0) Tryz.underlying27 hi hz0 .i64 .i64 0 n (by omega) (by omega) (by rw [hz2]; omega) (by omega)
  subst hL
  subst hC
  unfold Oper.wp
  simp only [Int.toNat_natCast] at hr
  simp [execOp, hop, hl, hc, hr, Result.andThen]
  refine hK' _ _ (hK _ ?_ ?_ ?_)
  · refine ⟨rfl, ?_⟩
    exact World.ownsRow_made (e := 3) (size := 1) w _ n (Nat.le_refl _) (by unfold maxLen; omega) (by rw [size_madeCells, hz1])
  · exact (Below.refl _ _).alloc (Nat.le_refl _) _
  · simp

end Go.Proofs.YtfianpjoifcphaaGreat

/- FrameP -/
namespace Go.Proofs.YtfianpjoifcphaaGreat
open Go.RowKit
set_option linter.unusedVariables false
set_option maxRecDepth 100000

def headF (k s : Int) (body : List Int) : List Int := [k, s, (body.length : Int)] ++ body
def putF (k s : Int) (body : List Int) : List Int := if validF k s body = true then headF k s body ++ [sumFrom 7 (headF k s body)] else []

theorem allW_head {k s : Int} {body : List Int} (h : validF k s body = true) : allW (headF k s body) = true := by
  obtain ⟨h1, h2, h3, h4⟩ := validF_iff.1 h
  have e : headF k s body = k :: s :: (body.length : Int) :: body := rfl
  rw [e]
  unfold allW at h4 ⊢
  simp only [List.all_cons, h4, Bool.and_true, Bool.and_eq_true]
  simp [okW]
  omega

theorem Own.lit' {w : World} {base g : Nat} (hg : g = w.heap.size) (hb : base ≤ w.heap.size) (xs : List Int) (hm : xs.length ≤ maxLen) :
    Own (w.alloc (.cells (xs.map (Value.int .i64)).toArray 3)) base (some ⟨g, 0, none⟩) xs.length xs.length xs := by
  subst hg
  exact Own.lit w base hb xs hm

theorem Ints.three (w : World) (a b c : Int) : Ints (w.alloc (.cells #[.int .i64 a, .int .i64 b, .int .i64 c] 3)) (w.heap.size + 1) (some ⟨w.heap.size, 0, none⟩) 3 [a, b, c] := by
  have h := (Own.lit w w.heap.size (Nat.le_refl _) [a, b, c] (by unfold maxLen; simp)).ints
  exact h.more (by simp)

theorem below_app_any {B : Nat} {a w w' : World} {row : Option Nat} {o : Obj} (h : Below B a w) (hB : B ≤ w.heap.size) (hg : (w.alloc o).grownBy w' row) (hr : ∀ k, row = some k → B ≤ k) : Below B a w' :=
  (h.alloc hB o).grown hg (by simp; omega) hr
theorem below_app_bare {B : Nat} {a w w' : World} {row : Option Nat} (h : Below B a w) (hB : B ≤ w.heap.size) (hg : w.grownBy w' row) (hr : ∀ k, row = some k → B ≤ k) : Below B a w' :=
  h.grown hg hB hr

theorem set_grown {a w : World} {R : Nat} (h : a.grownBy w (some R)) (i : Nat) (u : Value) : a.grownBy (w.setCell ⟨R, i, none⟩ u) (some R) :=
  ⟨h.os, h.tape, h.output, by simpa [World.setCell] using h.size, fun k hk hne => (Below.heap_setCell w ⟨R, i, none⟩ u k (by rintro rfl; exact hne rfl)).trans (h.block k hk hne)⟩
theorem set3_grown (w : World) (R : Nat) (u0 u1 u2 : Value) : w.grownBy (((w.setCell ⟨R, 0, none⟩ u0).setCell ⟨R, 1, none⟩ u1).setCell ⟨R, 2, none⟩ u2) (some R) :=
  set_grown (set_grown (set_grown (grown_refl w _) 0 u0) 1 u1) 2 u2

theorem frame_new {w : World} (R : Nat) (u0 u1 u2 : Value) (h : Blk w R 128 #[u0, u1, u2]) (v0 v1 v2 : Value) :
    Blk (((w.setCell ⟨R, 0, none⟩ v0).setCell ⟨R, 1, none⟩ v1).setCell ⟨R, 2, none⟩ v2) R 128 #[v0, v1, v2] := by
  have := ((h.set_ 0 v0).set_ 1 v1).set_ 2 v2
  simpa using this

theorem blk_new' {w : World} {g : Nat} (hg : g = w.heap.size) (t : TypeId) (cs : Array Value) : Blk (w.alloc (.cells cs t)) g t cs := by subst hg; exact Blk.new w t cs
theorem blk_cells3 {w : World} {R : Nat} {t : TypeId} {u0 u1 u2 : Value} (h : Blk w R t #[u0, u1, u2]) :
    w.cell? ⟨R, 0, none⟩ = some u0 ∧ w.cell? ⟨R, 1, none⟩ = some u1 ∧ w.cell? ⟨R, 2, none⟩ = some u2 := by
  refine ⟨?_, ?_, ?_⟩ <;> rw [h.cell] <;> rfl

theorem grown_box {w w' : World} {C : Nat} {o : Obj} (h : (w.alloc o).grownBy w' (some C)) : w.grownBy w' (some C) := grown_trans' (grown_alloc (grown_refl w (some C)) o) h
theorem blk_grown {w w' : World} {C R : Nat} {t : TypeId} {cs : Array Value} (h : Blk w R t cs) (hg : w.grownBy w' (some C)) (hne : R ≠ C) : Blk w' R t cs := h.grown hg (by intro e; injection e with e; exact hne e)

set_option maxHeartbeats 1000000 in
theorem specPut0 (k s : Int) (A : Option Addr) (n c B : Nat) (xs : List Int) (w : World) (hr : Ints w B A n xs) (hB : B ≤ w.heap.size) (hv : validF k s xs = true) :
    Calls Tryz.prog 155 #[.agg #[.int .i64 k, .int .i64 s, .slice A n c]] w fun e w' => ∃ A2 m c2, e = .returned (.slice A2 m c2) ∧ Own w' w.heap.size A2 m c2 (putF k s xs) ∧ Below w.heap.size w w' := by
  have hlen := hr.1
  have hl18 : n ≤ 18 := by have := (validF_iff.1 hv).2.2.1; omega
  have hl0 : 1 ≤ n := by have := (validF_iff.1 hv).2.2.1; omega
  have HP := hide (show putF k s xs = [k, s, (n : Int)] ++ xs ++ [sumFrom 7 ([k, s, (n : Int)] ++ xs)] by rw [putF, if_pos hv, headF, hlen])
  have HA := hide (show allW ([k, s, (n : Int)] ++ xs) = true by have h := allW_head hv; rw [headF, hlen] at h; exact h)
  have HI1 := hide fun o : Obj => (hr.alloc hB o)
  clear hr hv hlen
  go_enter Tryz.func155, Tryz.ntmps155
  go_wp2_with (first
      | (at_builtin; refine wpList_append_ints rfl (.tmp 11) (.tmp 13) rfl w.heap.size 3 _ B n _ _ _ [k, s, (n : Int)] xs rfl (Own.lit' (w := w.alloc (.cells #[.int .i64 k, .int .i64 s, .slice A n c] 128)) (base := w.heap.size) (g := w.heap.size + 1) (by simp) (by simp) [k, s, (n : Int)] (by unfold maxLen; simp)) rfl ((HI1.out _).alloc (by simp; omega) _) (by omega) (by simp; omega) ?_; intro A4 c4 w4 ho4 hg4 hat4; clear hat4; have hB4 := below_app_bare (((below_box w (.cells #[.int .i64 k, .int .i64 s, .slice A n c] 128))).alloc (by simp) _) (by simp; omega) hg4 (by intro q hq; simp [Value.ownBlock] at hq; omega))
      | (go_at_call 194; refine (specSum0 A4 (3 + n) c4 _ _ _ ho4.ints (by unfold maxLen; omega) HA.out).mono ?_; rintro e w' ⟨rfl, rfl⟩)
      | (at_builtin; refine wpList_append_ints rfl (.tmp 15) (.tmp 18) rfl w.heap.size (3 + n) _ _ 1 _ _ _ ([k, s, (n : Int)] ++ xs) [sumFrom 7 ([k, s, (n : Int)] ++ xs)] rfl (ho4.alloc _) rfl (Ints.one _ _) (by omega) (by have := hB4.size; simp; omega) ?_; intro A5 c5 w5 ho5 hg5 hat5; clear hat5; have hB5 := below_app_any hB4 hB4.size hg5 (fun q hq => (ho4.block q hq).1)))
  go_ret
  refine ⟨_, _, _, rfl, ?_, hB5⟩
  rw [HP.out]
  exact ho5

set_option maxHeartbeats 1000000 in
theorem specPut (k s : Int) (A : Option Addr) (n c B : Nat) (xs : List Int) (w : World) (hr : Ints w B A n xs) (hB : B ≤ w.heap.size) (hn : n ≤ maxLen) :
    Calls Tryz.prog 92 #[.agg #[.int .i64 k, .int .i64 s, .slice A n c]] w fun e w' => ∃ A2 m c2, e = .returned (.slice A2 m c2) ∧ Own w' w.heap.size A2 m c2 (putF k s xs) ∧ Below w.heap.size w w' := by
  have HN := hide hn
  have HI := hide fun o : Obj => (hr.alloc hB o)
  rcases hv : validF k s xs with _ | _
  · have HV := hide hv
    clear hr hv
    go_enter Tryz.func92, Tryz.ntmps92
    go_wp2_with fail
    refine (specValid k s A n c B xs _ (HI.out _) (by simp; omega) HN.out).mono ?_
    rw [HV.out]
    rintro e w1 ⟨rfl, hb1⟩
    have HB1 := hide ((below_box w _).trans (hb1.mono (by simp)))
    go_wp2
    go_ret
    refine ⟨_, _, _, rfl, ?_, HB1.out.alloc HB1.out.size _⟩
    rw [putF, if_neg (by rw [HV.out]; simp)]
    exact Own.lit0 _ _ HB1.out.size
  · have HV := hide hv
    clear hr hv
    go_enter Tryz.func92, Tryz.ntmps92
    go_wp2_with fail
    refine (specValid k s A n c B xs _ (HI.out _) (by simp; omega) HN.out).mono ?_
    rw [HV.out]
    rintro e w1 ⟨rfl, hb1⟩
    have hbk : Blk w1 w.heap.size 128 #[.int .i64 k, .int .i64 s, .slice A n c] := (Blk.new w 128 _).below hb1 (by simp)
    have HB1 := hide ((below_box w _).trans (hb1.mono (by simp)))
    have HI1 := hide ((HI.out _).below hb1 (by simp; omega))
    have c0 := hbk.cell 0
    have c1 := hbk.cell 1
    have c2 := hbk.cell 2
    simp at c0 c1 c2
    clear hb1
    have hsz := HB1.out.size
    go_wp2_with fail
    refine (specPut0 k s A n c B xs _ HI1.out (by omega) HV.out).mono ?_
    rintro e w2 ⟨A2, m, c2, rfl, ho2, hb2⟩
    go_wp2
    go_ret
    exact ⟨_, _, _, rfl, ho2.mono hsz, HB1.out.trans (hb2.mono hsz)⟩
end Go.Proofs.YtfianpjoifcphaaGreat

/- Marks -/
namespace Go.Proofs.YtfianpjoifcphaaGreat
open Go.RowKit
set_option linter.unusedVariables false
set_option maxRecDepth 100000

/-- the marks k, k+1, .. -/
def marks (k : Int) (n : Nat) : List Int := (List.range n).map fun (i : Nat) => k + (i : Int)
theorem marks_length (k : Int) (n : Nat) : (marks k n).length = n := by simp [marks]
theorem marks_getD (k : Int) (n j : Nat) (h : j < n) : (marks k n).getD j 0 = k + j := by simp [marks, List.getD, h]

def markTo (k : Int) (xs : List Int) (j : Nat) : List Int := (marks k j) ++ xs.drop j
theorem markTo_succ (k : Int) (xs : List Int) (j : Nat) (h : j < xs.length) : (markTo k xs j).set j (k + j) = markTo k xs (j + 1) := by
  unfold markTo
  rw [List.set_append_right _ _ (by rw [marks_length]; exact Nat.le_refl _), marks_length, Nat.sub_self, List.drop_eq_getElem_cons h, List.set_cons_zero]
  simp [marks, List.range_succ]
theorem markTo_all (k : Int) (xs : List Int) : markTo k xs xs.length = marks k xs.length := by simp [markTo]
theorem markTo_zero (k : Int) (xs : List Int) : markTo k xs 0 = xs := by simp [markTo, marks]

set_option maxHeartbeats 800000 in
theorem mark_any (A : Option Addr) (n c base : Nat) (k : Int) (xs : List Int) (w : World) (ho : Own w base A n c xs) (hk0 : 0 ≤ k) (hk : k ≤ 4000000000000000) (hn : n ≤ 1000000000) :
    Calls Tryz.prog 28 #[.slice A n c, .int .i64 k] w fun e w' => e = .returned (.int .i64 (k + n)) ∧ Own w' base A n c (marks k n) ∧ w.grownBy w' (Value.slice A n c).ownBlock := by
  by_cases hn0 : n = 0
  · subst hn0
    have hx : xs = [] := List.eq_nil_of_length_eq_zero ho.1
    subst hx
    go_enter Tryz.func28, Tryz.ntmps28
    go_wp2
    refine wp_loop_rounds 1 ?_
    rw [rounds_succ]
    go_wp2
    go_ret
    exact ⟨ret_int (by simp), ho, grown_refl w _⟩
  · obtain ⟨g, rfl, hgb, hgl⟩ := ho.shape (by omega)
    have HL := hide ho.1
    go_enter Tryz.func28, Tryz.ntmps28
    go_wp2
    go_loopw [1, 5] (fun kk i wr => ∃ j : Nat, j ≤ n ∧ i = .int .i64 j ∧ kk = .int .i64 (k + j) ∧ Own wr base (some ⟨g, 0, none⟩) n c (markTo k xs j) ∧ w.grownBy wr (some g)) (fun _ i _ => n - (intOf i).toNat)
    case atStart => exact ⟨0, Nat.zero_le _, rfl, by simp, by rw [markTo_zero]; exact ho, grown_refl w _⟩
    case round =>
      obtain ⟨j, hj, rfl, rfl, hown, hg⟩ := hrel
      by_cases hlt : j < n
      · have hfree := hown.free (g := g) (j := j)
        have hcell := hown.cell (g := g) (j := j) hlt
        have hst := hown.stored (g := g) (j := j) (k + j)
        rw [markTo_succ _ _ _ (by rw [HL.out]; exact hlt)] at hst
        have HS := hide hst.1
        have HG := hide (grown_trans' hg hst.2)
        clear hst hg hown
        generalize (markTo k xs j).getD j 0 = y at hcell
        go_wp2
        go_roundw
        case rel => exact ⟨j + 1, by omega, by go_num, by go_num, HS.out, HG.out⟩
        case measure => simp [intOf]; omega
      · obtain rfl : j = n := by omega
        have hm : markTo k xs j = marks k j := by rw [← HL.out]; exact markTo_all k xs
        rw [hm] at hown
        clear hm
        go_wp2
        go_ret
        exact ⟨rfl, hown, hg⟩

set_option maxHeartbeats 800000 in
theorem held_any (A : Option Addr) (n c B : Nat) (k : Int) (w : World) (hi : Ints w B A n (marks k n)) (hk0 : 0 ≤ k) (hk : k ≤ 4000000000000000) (hn : n ≤ 1000000000) :
    Calls Tryz.prog 29 #[.slice A n c, .int .i64 k] w fun e w' => e = .returned (.int .i64 (k + n)) ∧ w = w' := by
  have HI := hide hi
  clear hi
  go_enter Tryz.func29, Tryz.ntmps29
  go_wp2
  go_loop [1, 5] (fun kk i => ∃ j : Nat, j ≤ n ∧ i = .int .i64 j ∧ kk = .int .i64 (k + j)) (fun _ i => n - (intOf i).toNat)
  case atStart => exact ⟨0, Nat.zero_le _, rfl, by simp⟩
  case round =>
    obtain ⟨j, hj, rfl, rfl⟩ := hrel
    by_cases hlt : j < n
    · obtain ⟨ad, rfl, hb, hc⟩ := HI.out.at_ hlt
      rw [marks_getD _ _ _ hlt] at hc
      go_wp2
      go_round
      case rel => exact ⟨j + 1, by omega, by go_num, by go_num⟩
      case measure => simp [intOf]; omega
    · obtain rfl : j = n := by omega
      go_wp2
      go_ret
      exact ⟨rfl, rfl⟩

set_option maxHeartbeats 400000 in
theorem szInts_any (A : Option Addr) (n c : Nat) (l : Int) (w : World) (hn : n ≤ 9223372036854775807) (h0 : 0 ≤ l) (hl : l ≤ 9223372036854775807) :
    Calls Tryz.prog 58 #[.slice A n c, .int .i64 l] w fun e w' => e = .returned (.int .i64 (if l < n then -1 else l - n)) ∧ w = w' := by
  by_cases h : l < n
  · have h' : l - n < 0 := by omega
    go_enter Tryz.func58, Tryz.ntmps58
    go_wp2
    go_ret
    exact ⟨ret_int (by first | rfl | rw [if_pos h]), rfl⟩
  · have h' : ¬ l - n < 0 := by omega
    go_enter Tryz.func58, Tryz.ntmps58
    go_wp2
    go_ret
    exact ⟨ret_int (by first | rfl | rw [if_neg h]), rfl⟩
end Go.Proofs.YtfianpjoifcphaaGreat

/- OPut -/
namespace Go.Proofs.YtfianpjoifcphaaGreat
open Go.RowKit
set_option linter.unusedVariables false
set_option maxRecDepth 100000

theorem OwnO.at_ {w : World} {base g n c k : Nat} {qs : List Oq} {q : Oq} (h : OwnO w base (some ⟨g, 0, none⟩) n c qs) (hk : qs[k]? = some q) :
    w.cell? ⟨g, k * 2, none⟩ = some (.int .i64 q.id) ∧ w.cell? ⟨g, k * 2 + 1, none⟩ = some q.sl := by
  obtain ⟨ad, p, e, hp, _, h0, h1⟩ := h.objs.at_ hk
  injection e with e
  subst e
  rw [add_plain'] at hp
  subst hp
  exact ⟨h0, h1⟩
theorem obs_set (qs : List Oq) (k : Nat) (q : Oq) : obs (qs.set k q) = (obs qs).set k q.ob := by unfold obs; rw [List.map_set]
theorem set_same {l : List Value} {i : Nat} {v : Value} (h : l[i]? = some v) : l.set i v = l := by
  apply List.ext_getElem?
  intro j
  rw [List.getElem?_set]
  split
  · next e =>
    subst e
    split
    · exact h.symm
    · next h2 => exact absurd ((List.getElem?_eq_some_iff.1 h).1) h2
  · rfl

theorem OwnO.put {w w3 : World} {base g n c k : Nat} {qs : List Oq} {q : Oq} {row : Option Nat} (h : OwnO w base (some ⟨g, 0, none⟩) n c qs) (hk : qs[k]? = some q) (hg : w.grownBy w3 row)
    (hrow : ∀ b, row = some b → b ≠ g ∧ ∀ (i : Nat) (r : Oq), qs[i]? = some r → i ≠ k → r.sl.ownBlock ≠ some b) (q' : Oq) (j : Nat) (v : Value) (hj : j < 2) (hv : q'.cells = q.cells.set j v)
    (hq' : Own w3 base q'.addr q'.vals.length q'.cap q'.vals) (hsep : ∀ (i : Nat) (r : Oq), qs[i]? = some r → i ≠ k → ∀ b, r.sl.ownBlock = some b → q'.sl.ownBlock ≠ some b) :
    OwnO (w3.setCell ⟨g, k * 2 + j, none⟩ v) base (some ⟨g, 0, none⟩) n c (qs.set k q') ∧ w3.grownBy (w3.setCell ⟨g, k * 2 + j, none⟩ v) (some g) := by
  have hob : (Value.slice (some (⟨g, 0, none⟩ : Addr)) n c).ownBlock = some g := rfl
  have hr := h.row.kept hg (by
    rcases row with _ | b
    · exact .inr (by rw [hob]; simp)
    · exact .inr (by rw [hob]; intro e; injection e with e; exact (hrow b rfl).1 e.symm))
  have hst := hr.stored (k * 2 + j) v
  rw [flatO_set hk j v hj hv] at hst
  refine ⟨⟨by rw [List.length_set]; exact h.len, hst.1, fun i r hi => ?_, fun i i' r r' hi hi' hii b hb => ?_⟩, hst.2⟩
  · rw [List.getElem?_set] at hi
    split at hi
    · split at hi
      · injection hi with hi
        subst hi
        exact hq'.kept hst.2 (fun b hb => by injection hb with hb; subst hb; exact rows_neO hr hq'.2 (by decide) hob)
      · cases hi
    · next hne =>
      have ho := (h.own i r hi).kept hg (fun b hb => (hrow b hb).2 i r hi (fun e => hne e.symm))
      exact ho.kept hst.2 (fun b hb => by injection hb with hb; subst hb; exact rows_neO hr ho.2 (by decide) hob)
  · rw [List.getElem?_set] at hi hi'
    split at hi
    · next e1 =>
      split at hi
      · injection hi with hi
        subst hi
        split at hi'
        · next e2 => exact absurd (e1.symm.trans e2) hii
        · next e2 => exact fun e => hsep i' r' hi' (fun e3 => e2 e3.symm) b e hb
      · cases hi
    · next e1 =>
      split at hi'
      · split at hi'
        · injection hi' with hi'
          subst hi'
          exact hsep i r hi (fun e3 => e1 e3.symm) b hb
        · cases hi'
      · exact h.sep i i' r r' hi hi' hii b hb

/-- .. where its values stay -/
theorem OwnO.put_in {w : World} {base g n c k : Nat} {qs : List Oq} {q : Oq} (h : OwnO w base (some ⟨g, 0, none⟩) n c qs) (hk : qs[k]? = some q) (q' : Oq) (j : Nat) (v : Value) (hj : j < 2) (hv : q'.cells = q.cells.set j v)
    (h1 : q'.vals = q.vals) (h2 : q'.addr = q.addr) (h3 : q'.cap = q.cap) :
    OwnO (w.setCell ⟨g, k * 2 + j, none⟩ v) base (some ⟨g, 0, none⟩) n c (qs.set k q') ∧ w.grownBy (w.setCell ⟨g, k * 2 + j, none⟩ v) (some g) := by
  refine h.put hk (World.grownBy.refl w none) (by simp) q' j v hj hv ?_ ?_
  · rw [h1, h2, h3]; exact h.own k q hk
  · intro i r hi hik b hb
    have e : q'.sl = q.sl := by unfold Oq.sl; rw [h1, h2, h3]
    rw [e]
    exact h.sep i k r q hi hk hik b hb

/-- .. where only its values are turned -/
theorem OwnO.reval {w w3 : World} {base g n c k : Nat} {qs : List Oq} {q : Oq} {row : Option Nat} (h : OwnO w base (some ⟨g, 0, none⟩) n c qs) (hk : qs[k]? = some q) (hg : w.grownBy w3 row)
    (hrow : ∀ b, row = some b → b ≠ g ∧ ∀ (i : Nat) (r : Oq), qs[i]? = some r → i ≠ k → r.sl.ownBlock ≠ some b) (ws : List Int) (hl : ws.length = q.vals.length) (hq' : Own w3 base q.addr q.vals.length q.cap ws) :
    OwnO w3 base (some ⟨g, 0, none⟩) n c (qs.set k ⟨q.id, ws, q.addr, q.cap⟩) := by
  have hob : (Value.slice (some (⟨g, 0, none⟩ : Addr)) n c).ownBlock = some g := rfl
  have hr := h.row.kept hg (by
    rcases row with _ | b
    · exact .inr (by rw [hob]; simp)
    · exact .inr (by rw [hob]; intro e; injection e with e; exact (hrow b rfl).1 e.symm))
  have hsl : (Oq.sl ⟨q.id, ws, q.addr, q.cap⟩) = q.sl := by unfold Oq.sl; simp only [hl]
  have he : flatO (qs.set k ⟨q.id, ws, q.addr, q.cap⟩) = flatO qs := by
    rw [← flatO_set (q' := ⟨q.id, ws, q.addr, q.cap⟩) hk 0 (.int .i64 q.id) (by omega) (by unfold Oq.cells; rw [hsl]; rfl)]
    exact set_same (by rw [flatO_get hk 0 (by omega)]; rfl)
  refine ⟨by rw [List.length_set]; exact h.len, by rw [he]; exact hr, fun i r hi => ?_, fun i i' r r' hi hi' hii b hb => ?_⟩
  · rw [List.getElem?_set] at hi
    split at hi
    · split at hi
      · injection hi with hi
        subst hi
        simp only [hl]
        exact hq'
      · cases hi
    · next hne => exact (h.own i r hi).kept hg (fun b hb => (hrow b hb).2 i r hi (fun e => hne e.symm))
  · have back : ∀ {i : Nat} {r : Oq}, (qs.set k ⟨q.id, ws, q.addr, q.cap⟩)[i]? = some r → ∃ r0, qs[i]? = some r0 ∧ r.sl = r0.sl := by
      intro i r hi
      rw [List.getElem?_set] at hi
      split at hi
      · next e =>
        split at hi
        · injection hi with hi
          subst hi
          subst e
          exact ⟨q, hk, hsl⟩
        · cases hi
      · exact ⟨r, hi, rfl⟩
    obtain ⟨r0, hr0, e0⟩ := back hi
    obtain ⟨r1, hr1, e1⟩ := back hi'
    rw [e0] at hb
    rw [e1]
    exact h.sep i i' r0 r1 hr0 hr1 hii b hb

/-- an object laid anew, its values in a new row -/
theorem OwnO.anew {w w3 : World} {base g n c k c3 : Nat} {qs : List Oq} {q : Oq} {A3 : Option Addr} {ws3 : List Int} {row : Option Nat} (h : OwnO w base (some ⟨g, 0, none⟩) n c qs) (hk : qs[k]? = some q) (hg : w.grownBy w3 row)
    (hrow : ∀ b, row = some b → w.heap.size ≤ b) (ho : Own w3 base A3 ws3.length c3 ws3) (hat : ∀ b, (Value.slice A3 ws3.length c3).ownBlock = some b → w.heap.size ≤ b) (id : Int) :
    OwnO ((w3.setCell ⟨g, k * 2, none⟩ (.int .i64 id)).setCell ⟨g, k * 2 + 1, none⟩ (.slice A3 ws3.length c3)) base (some ⟨g, 0, none⟩) n c (qs.set k ⟨id, ws3, A3, c3⟩) ∧
      w3.grownBy ((w3.setCell ⟨g, k * 2, none⟩ (.int .i64 id)).setCell ⟨g, k * 2 + 1, none⟩ (.slice A3 ws3.length c3)) (some g) := by
  have hlt : g < w.heap.size := by
    obtain ⟨g', e, _, hl⟩ := h.shape (by rw [← h.len]; exact Nat.lt_of_le_of_lt (Nat.zero_le _) (List.getElem?_eq_some_iff.1 hk).1)
    injection e with e
    injection e with e
    subst e
    exact hl
  have hrw : ∀ b, row = some b → b ≠ g ∧ ∀ (i : Nat) (r : Oq), qs[i]? = some r → i ≠ k → r.sl.ownBlock ≠ some b :=
    fun b hb => ⟨fun e => by have := hrow b hb; omega, fun i r hi hik e => by have := hrow b hb; have := (h.wblock hi b e).2; omega⟩
  have hqk : Own w3 base q.addr q.vals.length q.cap q.vals := (h.own k q hk).kept hg (fun b hb e => by have := hrow b hb; have := (h.wblock hk b e).2; omega)
  have p1 := h.put hk hg hrw ⟨id, q.vals, q.addr, q.cap⟩ 0 (.int .i64 id) (by omega) rfl hqk (fun i r hi hik b hb => h.sep i k r q hi hk hik b hb)
  have hl : k < qs.length := (List.getElem?_eq_some_iff.1 hk).1
  have p2 := p1.1.put (k := k) (q := ⟨id, q.vals, q.addr, q.cap⟩) (by rw [List.getElem?_set_self hl]) (World.grownBy.refl _ none) (by simp) ⟨id, ws3, A3, c3⟩ 1 (.slice A3 ws3.length c3) (by omega) rfl
    (ho.kept p1.2 (fun b hb => by injection hb with hb; subst hb; exact rows_neO (h.row.kept hg (by
      rcases row with _ | b
      · exact .inr (by show (some g : Option Nat) ≠ none; simp)
      · exact .inr (by show (some g : Option Nat) ≠ some b; intro e; injection e with e; exact (hrw b rfl).1 e.symm))) ho.2 (by decide) rfl))
    (fun i r hi hik b hb e => by
      rw [List.getElem?_set, if_neg (fun e2 => hik e2.symm)] at hi
      have := hat b e
      have := (h.wblock hi b hb).2
      omega)
  rw [List.set_set] at p2
  exact ⟨p2.1, grown_trans' p1.2 p2.2⟩
end Go.Proofs.YtfianpjoifcphaaGreat

/- NewH -/
namespace Go.Proofs.YtfianpjoifcphaaGreat
open Go.RowKit
set_option linter.unusedVariables false
set_option maxRecDepth 100000

set_option maxHeartbeats 800000 in
theorem new13_any (w : World) : Calls Tryz.prog 99 #[] w fun e w' => e = .returned (.slice (some ⟨w.heap.size, 0, none⟩) 12 12) ∧ Own w' w.heap.size (some ⟨w.heap.size, 0, none⟩) 12 12 (List.replicate 12 0) ∧ Below w.heap.size w w' := by
  obtain ⟨i0, hi, hz0, hz1, hz2⟩ := info_parts info_int
  go_enter Tryz.func99, Tryz.ntmps99
  go_wp2_with (at_make; refine wpList_make_full _ rfl _ _ 27 rfl w.heap.size 3 i0 (.int .i64 0) 1 Tryz.underlying27 hi hz0 hz1 .i64 .i64 12 12 12 rfl rfl rfl rfl (by rw [hz2]; omega) (by unfold maxLen; omega) (Nat.le_refl _) ?_; intro w1 hown hgrow)
  have ho : Own w1 w.heap.size (some ⟨w.heap.size, 0, none⟩) 12 12 (List.replicate 12 0) := by
    refine ⟨by simp, ?_⟩
    have e : (madeCells (Value.int .i64 0).cells (12 * 1)).toList = (List.replicate 12 (0 : Int)).map (Value.int .i64) := by
      rw [Nat.mul_one]
      show (madeCells #[Value.int .i64 0] 12).toList = _
      rw [toList_madeCells_one, List.map_replicate]
    rw [← e]
    exact hown
  have hB1 : Below w.heap.size w w1 := below_of_grown hgrow
  clear hown hgrow hi hz0 hz1 hz2
  go_wp2
  go_ret
  exact ⟨rfl, ho, hB1⟩
end Go.Proofs.YtfianpjoifcphaaGreat

/- SumMath -/
namespace Go.Proofs.YtfianpjoifcphaaGreat
set_option linter.unusedVariables false
set_option maxRecDepth 100000

theorem sumFrom_append (xs ys : List Int) : ∀ s, allW xs = true → sumFrom s (xs ++ ys) = sumFrom (sumFrom s xs) ys := by
  induction xs with
  | nil => intro s _; rfl
  | cons x xs ih =>
    intro s h
    have h' : okW x = true ∧ allW xs = true := by simpa [allW] using h
    have hx : 0 ≤ x ∧ x ≤ 9999 := by simpa [okW] using h'.1
    show (if x < 0 ∨ 9999 < x then -1 else sumFrom _ (xs ++ ys)) = sumFrom (if x < 0 ∨ 9999 < x then -1 else _) ys
    rw [if_neg (by omega), if_neg (by omega), ih _ h'.2]

theorem allW_of_sum {xs : List Int} {s : Int} (h : 0 ≤ sumFrom s xs) : allW xs = true := by
  rcases hb : allW xs with _ | _
  · have := sumFrom_allW xs s hb; omega
  · rfl

theorem sum_next (xs : List Int) (w : Int) (h : 0 ≤ sumFrom 7 xs) (h0 : 0 ≤ w) (h1 : w ≤ 9999) : sumFrom 7 (xs ++ [w]) = (31 * sumFrom 7 xs + w + 1) % 9973 := by
  rw [sumFrom_append _ _ _ (allW_of_sum h)]
  show (if w < 0 ∨ 9999 < w then -1 else sumFrom _ []) = _
  rw [if_neg (by omega)]
  rfl

theorem sum_inj (xs : List Int) : ∀ s t, 0 ≤ s → s < 9973 → 0 ≤ t → t < 9973 → allW xs = true → sumFrom s xs = sumFrom t xs → s = t := by
  induction xs with
  | nil => intro s t _ _ _ _ _ h; exact h
  | cons x xs ih =>
    intro s t hs0 hs1 ht0 ht1 h he
    have h' : okW x = true ∧ allW xs = true := by simpa [allW] using h
    have hx : 0 ≤ x ∧ x ≤ 9999 := by simpa [okW] using h'.1
    unfold sumFrom at he
    rw [if_neg (by omega), if_neg (by omega)] at he
    have := ih _ _ (by omega) (by omega) (by omega) (by omega) h'.2 he
    omega

theorem allW_append (xs ys : List Int) : allW (xs ++ ys) = (allW xs && allW ys) := by simp [allW]

theorem split_at (xs : List Int) (k : Nat) (h : k < xs.length) : xs = xs.take k ++ xs.getD k 0 :: xs.drop (k + 1) := by
  have : xs.getD k 0 = xs[k] := by simp [List.getD, h]
  rw [this, ← List.drop_eq_getElem_cons h, List.take_append_drop]

theorem set_split (xs : List Int) (k : Nat) (x : Int) (h : k < xs.length) : xs.set k x = xs.take k ++ x :: xs.drop (k + 1) := by
  rw [List.set_eq_take_append_cons_drop, if_pos h]

theorem sum_cons (s x : Int) (xs : List Int) (h0 : 0 ≤ x) (h1 : x ≤ 9999) : sumFrom s (x :: xs) = sumFrom ((31 * s + x + 1) % 9973) xs := by
  show (if x < 0 ∨ 9999 < x then -1 else _) = _
  rw [if_neg (by omega)]

/-- A word raised by one is noticed. -/
theorem sum_change (xs : List Int) (k : Nat) (hk : k < xs.length) (h : 0 ≤ sumFrom 7 xs) : sumFrom 7 (xs.set k (xs.getD k 0 + 1)) ≠ sumFrom 7 xs := by
  have ha := allW_of_sum h
  have hs := split_at xs k hk
  have ha' := ha
  rw [hs, allW_append] at ha'
  simp only [Bool.and_eq_true] at ha'
  obtain ⟨h1, h2⟩ := ha'
  have h2' : okW (xs.getD k 0) = true ∧ allW (xs.drop (k + 1)) = true := by simpa [allW] using h2
  have hx : 0 ≤ xs.getD k 0 ∧ xs.getD k 0 ≤ 9999 := by simpa [okW] using h2'.1
  have hr := sumFrom_rng (xs.take k) 7 (by omega) (by omega) h1
  by_cases hm : xs.getD k 0 = 9999
  · have hbad : allW (xs.set k (xs.getD k 0 + 1)) = false := by
      rw [set_split _ _ _ hk, allW_append, hm]
      simp [allW, okW]
    rw [sumFrom_allW _ _ hbad]
    omega
  · intro he
    rw [set_split _ _ _ hk, sumFrom_append _ _ _ h1, sum_cons _ _ _ (by omega) (by omega)] at he
    have e2 : sumFrom 7 xs = sumFrom 7 (xs.take k ++ xs.getD k 0 :: xs.drop (k + 1)) := by rw [← hs]
    rw [e2, sumFrom_append _ _ _ h1, sum_cons _ _ _ (by omega) (by omega)] at he
    have := sum_inj _ _ _ (by omega) (by omega) (by omega) (by omega) h2'.2 he
    omega

theorem split_two (xs : List Int) (k : Nat) (h : k + 1 < xs.length) : xs = xs.take k ++ xs.getD k 0 :: xs.getD (k + 1) 0 :: xs.drop (k + 2) := by
  have h1 := split_at xs k (by omega)
  have h2 : xs.drop (k + 1) = xs.getD (k + 1) 0 :: xs.drop (k + 2) := by
    have : xs.getD (k + 1) 0 = xs[k + 1] := by simp [List.getD, h]
    rw [this, ← List.drop_eq_getElem_cons h]
  rw [← h2]
  exact h1

theorem set_two (xs : List Int) (k : Nat) (a b : Int) (h : k + 1 < xs.length) : (xs.set k a).set (k + 1) b = xs.take k ++ a :: b :: xs.drop (k + 2) := by
  have hl : (xs.take k).length = k := by rw [List.length_take]; omega
  have h2 : xs.drop (k + 1) = xs.getD (k + 1) 0 :: xs.drop (k + 2) := by
    have : xs.getD (k + 1) 0 = xs[k + 1] := by simp [List.getD, h]
    rw [this, ← List.drop_eq_getElem_cons h]
  rw [set_split xs k a (by omega), h2, List.set_append_right _ _ (by omega), hl]
  simp

/-- Two words that follow each other, exchanged: the sum stays just where their difference is divided by the base. -/
theorem sum_swap (xs : List Int) (k : Nat) (hk : k + 1 < xs.length) (h : 0 ≤ sumFrom 7 xs) :
    sumFrom 7 ((xs.set k (xs.getD (k + 1) 0)).set (k + 1) (xs.getD k 0)) = sumFrom 7 xs ↔ (xs.getD k 0 - xs.getD (k + 1) 0).tmod 9973 = 0 := by
  have ha := allW_of_sum h
  have hs := split_two xs k hk
  have ha' := ha
  rw [hs, allW_append] at ha'
  simp only [Bool.and_eq_true] at ha'
  obtain ⟨h1, h2⟩ := ha'
  have h2' : okW (xs.getD k 0) = true ∧ okW (xs.getD (k + 1) 0) = true ∧ allW (xs.drop (k + 2)) = true := by simpa [allW] using h2
  have hx : 0 ≤ xs.getD k 0 ∧ xs.getD k 0 ≤ 9999 := by simpa [okW] using h2'.1
  have hy : 0 ≤ xs.getD (k + 1) 0 ∧ xs.getD (k + 1) 0 ≤ 9999 := by simpa [okW] using h2'.2.1
  have hr := sumFrom_rng (xs.take k) 7 (by omega) (by omega) h1
  rw [set_two _ _ _ _ hk]
  have e2 : sumFrom 7 xs = sumFrom 7 (xs.take k ++ xs.getD k 0 :: xs.getD (k + 1) 0 :: xs.drop (k + 2)) := by rw [← hs]
  rw [e2, sumFrom_append _ _ _ h1, sumFrom_append _ _ _ h1, sum_cons _ _ _ (by omega) (by omega), sum_cons _ _ _ (by omega) (by omega), sum_cons _ _ _ (by omega) (by omega), sum_cons _ _ _ (by omega) (by omega)]
  generalize xs.getD k 0 = a at *
  generalize xs.getD (k + 1) 0 = b at *
  generalize sumFrom 7 (xs.take k) = s at *
  have hdvd : (a - b).tmod 9973 = 0 ↔ (a - b) % 9973 = 0 := by
    rw [← Int.dvd_iff_tmod_eq_zero, Int.dvd_iff_emod_eq_zero]
  rw [hdvd]
  constructor
  · intro he
    have := sum_inj _ _ _ (by omega) (by omega) (by omega) (by omega) h2'.2.2 he
    omega
  · intro he
    have : (31 * ((31 * s + b + 1) % 9973) + a + 1) % 9973 = (31 * ((31 * s + a + 1) % 9973) + b + 1) % 9973 := by omega
    rw [this]

end Go.Proofs.YtfianpjoifcphaaGreat

/- AscM -/
namespace Go.Proofs.YtfianpjoifcphaaGreat
open Go.RowKit
set_option linter.unusedVariables false
set_option maxRecDepth 100000

def sliceLen : Value → Nat
  | .slice _ n _ => n
  | _ => 0

/-- the blocks of n records of s numbers -/
def blocksOf (s : Nat) (xs : List Int) (n : Nat) : List Int := (List.range n).map fun j => xs.getD (j * s) 0
theorem blocksOf_length (s : Nat) (xs : List Int) (n : Nat) : (blocksOf s xs n).length = n := by simp [blocksOf]
theorem blocksOf_succ (s : Nat) (xs : List Int) (n : Nat) : blocksOf s xs (n + 1) = blocksOf s xs n ++ [xs.getD (n * s) 0] := by simp [blocksOf, List.range_succ]
theorem blocksOf_getD (s : Nat) (xs : List Int) (n j : Nat) (h : j < n) : (blocksOf s xs n).getD j 0 = xs.getD (j * s) 0 := by simp [blocksOf, List.getD, h]
theorem blocksOf_prefix (s : Nat) (xs : List Int) {k n : Nat} (h : k ≤ n) : blocksOf s xs k <+: blocksOf s xs n := by
  obtain ⟨d, rfl⟩ := Nat.exists_eq_add_of_le h
  induction d with
  | zero => exact List.prefix_rfl
  | succ d ih => rw [← Nat.add_assoc, blocksOf_succ]; exact (ih (by omega)).trans (List.prefix_append _ _)

theorem stepR_congr {s t : Nat} {xs ys : List Int} {j : Nat} (h : ∀ i, i ≤ j → xs.getD (i * s) 0 = ys.getD (i * t) 0) : stepR s xs j = stepR t ys j := by
  unfold stepR
  have hp : prevR s xs j = prevR t ys j := by
    cases j with
    | zero => rfl
    | succ j => exact h j (by omega)
  rw [hp, h j (Nat.le_refl _)]
theorem all_congr' {n : Nat} {f g : Nat → Bool} (h : ∀ j, j < n → f j = g j) : (List.range n).all f = (List.range n).all g := by
  induction n with
  | zero => rfl
  | succ n ih => rw [all_succ, all_succ, ih (fun j hj => h j (by omega)), h n (by omega)]
theorem asc_blocks (s : Nat) (xs : List Int) (n : Nat) : asc 1 (blocksOf s xs n) n = asc s xs n :=
  all_congr' fun j hj => stepR_congr fun i hi => by rw [Nat.mul_one]; exact blocksOf_getD s xs n i (by omega)
theorem getD_snoc_lt (pre : List Int) (x : Int) (i : Nat) (h : i < pre.length) : (pre ++ [x]).getD i 0 = pre.getD i 0 := by
  simp [List.getD, List.getElem?_append_left h]
theorem getD_snoc_eq (pre : List Int) (x : Int) : (pre ++ [x]).getD pre.length 0 = x := by simp [List.getD]
theorem prevR_snoc (pre : List Int) (x : Int) : prevR 1 (pre ++ [x]) (pre ++ [x]).length = x := by
  rw [List.length_append]
  show (pre ++ [x]).getD (pre.length * 1) 0 = x
  rw [Nat.mul_one, getD_snoc_eq]
theorem prevR_len (pre : List Int) (x : Int) : prevR 1 (pre ++ [x]) pre.length = prevR 1 pre pre.length := by
  cases h : pre.length with
  | zero => rfl
  | succ k =>
    show (pre ++ [x]).getD (k * 1) 0 = pre.getD (k * 1) 0
    rw [Nat.mul_one, getD_snoc_lt _ _ _ (by omega)]
theorem asc_snoc (pre : List Int) (x : Int) : asc 1 (pre ++ [x]) (pre ++ [x]).length = (asc 1 pre pre.length && (decide (prevR 1 pre pre.length < x) && decide (x ≤ 11))) := by
  rw [List.length_append]
  show (List.range (pre.length + 1)).all (stepR 1 (pre ++ [x])) = _
  rw [all_succ]
  congr 1
  · exact all_congr' fun j hj => stepR_congr fun i hi => by rw [Nat.mul_one, getD_snoc_lt _ _ _ (by omega)]
  · unfold stepR
    rw [prevR_len, Nat.mul_one, getD_snoc_eq]
theorem asc_prefix {pre bl : List Int} (h : pre <+: bl) (ha : asc 1 pre pre.length = false) : asc 1 bl bl.length = false := by
  obtain ⟨post, rfl⟩ := h
  unfold asc at ha ⊢
  refine all_le (k := pre.length) (by simp) ?_
  rw [← ha]
  exact all_congr' fun j hj => stepR_congr fun i hi => by rw [Nat.mul_one]; simp [List.getD, List.getElem?_append_left (show i < pre.length by omega)]
end Go.Proofs.YtfianpjoifcphaaGreat

/- HeatM -/
namespace Go.Proofs.YtfianpjoifcphaaGreat
open Go.RowKit
set_option linter.unusedVariables false
set_option maxRecDepth 100000

/-- the heat of a block -/
def hAt (h : List Int) (a : Int) : Int := h.getD a.toNat 0
def hV (h : List Int) : Bool := h.all (fun x => inB x 0 100) && decide (h.length = 12)
theorem hV_iff {h : List Int} : hV h = true ↔ (∀ x ∈ h, 0 ≤ x ∧ x ≤ 100) ∧ h.length = 12 := by
  unfold hV
  rw [Bool.and_eq_true, decide_eq_true_eq, List.all_eq_true]
  exact ⟨fun ⟨a, b⟩ => ⟨fun x hx => inB_iff.1 (a x hx), b⟩, fun ⟨a, b⟩ => ⟨fun x hx => inB_iff.2 (a x hx), b⟩⟩
theorem getD_mem {h : List Int} {k : Nat} (hk : k < h.length) : h.getD k 0 ∈ h := by
  have e : h.getD k 0 = h[k] := by simp [List.getD, hk]
  rw [e]; exact List.getElem_mem hk
theorem hV_at {h : List Int} (hv : hV h = true) {k : Nat} (hk : k < 12) : 0 ≤ h.getD k 0 ∧ h.getD k 0 ≤ 100 := by
  obtain ⟨h1, h2⟩ := hV_iff.1 hv
  exact h1 _ (getD_mem (by omega))
theorem hV_len {h : List Int} (hv : hV h = true) : h.length = 12 := (hV_iff.1 hv).2
theorem hV_take {h : List Int} {k : Nat} (hk : k < h.length) : (h.take (k + 1)).all (fun x => inB x 0 100) = ((h.take k).all (fun x => inB x 0 100) && inB (h.getD k 0) 0 100) := by
  have e : h.getD k 0 = h[k] := by simp [List.getD, hk]
  rw [List.take_succ_eq_append_getElem hk, List.all_append, e]
  simp
theorem hV_no {h : List Int} {k : Nat} (hk : k < h.length) (hn : inB (h.getD k 0) 0 100 = false) : hV h = false := by
  have : h.all (fun x => inB x 0 100) = false := by
    rw [List.all_eq_false]
    exact ⟨_, getD_mem hk, by rw [hn]; simp⟩
  unfold hV
  rw [this]
  rfl
def useH (h : List Int) (b : Nat) : List Int := h.set b (min (h.getD b 0 + 10) 100)
theorem useH_getD (h : List Int) (b i : Nat) (hi : i < h.length) : (useH h b).getD i 0 = if i = b then min (h.getD i 0 + 10) 100 else h.getD i 0 := by
  unfold useH
  by_cases e : i = b
  · subst e; rw [if_pos rfl]; simp [List.getD, hi]
  · rw [if_neg e]
    simp [List.getD, show ¬ b = i from fun h => e h.symm]
theorem useH_length (h : List Int) (b : Nat) : (useH h b).length = h.length := by simp [useH]
theorem useH_valid {h : List Int} (hv : hV h = true) {b : Nat} (hb : b < 12) : hV (useH h b) = true := by
  obtain ⟨h1, h2⟩ := hV_iff.1 hv
  refine hV_iff.2 ⟨fun x hx => ?_, by rw [useH_length]; exact h2⟩
  rcases List.mem_or_eq_of_mem_set hx with hx | hx
  · exact h1 x hx
  · have := hV_at hv hb; omega
def decH (h : List Int) : List Int := h.map fun x => x / 2
theorem decH_length (h : List Int) : (decH h).length = h.length := by simp [decH]
theorem decH_getD (h : List Int) (i : Nat) : (decH h).getD i 0 = h.getD i 0 / 2 := by
  unfold decH
  by_cases hi : i < h.length
  · simp [List.getD, hi]
  · simp [List.getD, List.getElem?_eq_none (show h.length ≤ i by omega)]
theorem decH_valid {h : List Int} (hv : hV h = true) : hV (decH h) = true := by
  obtain ⟨h1, h2⟩ := hV_iff.1 hv
  refine hV_iff.2 ⟨fun x hx => ?_, by rw [decH_length]; exact h2⟩
  obtain ⟨y, hy, rfl⟩ := List.mem_map.1 hx
  have := h1 y hy
  omega
def decS (h : List Int) : List Int := if hV h then decH h else []
theorem decS_yes {h : List Int} (hv : hV h = true) : decS h = decH h := by unfold decS; rw [if_pos hv]
theorem decS_no {h : List Int} (hv : hV h = false) : decS h = [] := by unfold decS; rw [if_neg (by simp [hv])]
/-- the first k halved -/
theorem dec_take_set {h : List Int} {k : Nat} (hk : k < h.length) : (decH (h.take k) ++ h.drop k).set k (h.getD k 0 / 2) = decH (h.take (k + 1)) ++ h.drop (k + 1) := by
  have hl : (decH (h.take k)).length = k := by rw [decH_length, List.length_take]; omega
  have e : h.getD k 0 = h[k] := by simp [List.getD, hk]
  rw [List.set_append_right _ _ (by omega), hl, Nat.sub_self, List.drop_eq_getElem_cons hk, List.set_cons_zero, List.take_succ_eq_append_getElem hk, e]
  unfold decH
  rw [List.map_append, List.append_assoc]
  rfl
theorem dec_take_getD {h : List Int} {k : Nat} (hk : k < h.length) : (decH (h.take k) ++ h.drop k).getD k 0 = h.getD k 0 := by
  have hl : (decH (h.take k)).length = k := by rw [decH_length, List.length_take]; omega
  simp [List.getD, List.getElem?_append_right, hl, hk]
theorem decH_snoc {h : List Int} {k : Nat} (hk : k < h.length) : decH (h.take (k + 1)) = decH (h.take k) ++ [h.getD k 0 / 2] := by
  have e : h.getD k 0 = h[k] := by simp [List.getD, hk]
  rw [List.take_succ_eq_append_getElem hk, e]
  unfold decH
  rw [List.map_append]
  rfl
/-- seven times -/
def decN : Nat → List Int → List Int
  | 0, h => h
  | n + 1, h => decH (decN n h)
theorem decN_valid {h : List Int} (hv : hV h = true) : ∀ n, hV (decN n h) = true
  | 0 => hv
  | n + 1 => decH_valid (decN_valid hv n)
theorem decN_getD (h : List Int) (i : Nat) : (decN 7 h).getD i 0 = h.getD i 0 / 2 / 2 / 2 / 2 / 2 / 2 / 2 := by
  simp only [decN, decH_getD]
theorem dec7 {h : List Int} (hv : hV h = true) {i : Nat} (hi : i < 12) : (decN 7 h).getD i 0 = 0 := by
  rw [decN_getD]
  have := hV_at hv hi
  omega

/-! ### the coldest -/
def ascB (ls : List Int) : Bool := asc 1 ls ls.length
theorem ascB_all {ls : List Int} (h : ascB ls = true) : ls.Pairwise (· < ·) ∧ ∀ x ∈ ls, 0 ≤ x ∧ x ≤ 11 := by
  have hs : ∀ j, j < ls.length → stepR 1 ls j = true := fun j hj => all_at h hj
  have h0 : ∀ j, j < ls.length → 0 ≤ ls.getD j 0 ∧ ls.getD j 0 ≤ 11 := fun j hj => by
    have h1 := prevR_ge (s := 1) (xs := ls) (k := j) fun i hi => hs i (by omega)
    have h2 := hs j hj
    unfold stepR at h2
    rw [Nat.mul_one, Bool.and_eq_true, decide_eq_true_eq, decide_eq_true_eq] at h2
    omega
  have key : ∀ j, j < ls.length → ∀ i, i < j → ls.getD i 0 < ls.getD j 0 := by
    intro j
    induction j with
    | zero => intro _ i hi; omega
    | succ j ih =>
      intro hj i hi
      have h2 := hs (j + 1) hj
      unfold stepR at h2
      rw [Bool.and_eq_true, decide_eq_true_eq, decide_eq_true_eq, Nat.mul_one] at h2
      have h3 : ls.getD j 0 < ls.getD (j + 1) 0 := by
        have := h2.1
        change ls.getD (j * 1) 0 < _ at this
        rwa [Nat.mul_one] at this
      rcases Nat.lt_or_ge i j with hlt | hge
      · have := ih (by omega) i hlt; omega
      · obtain rfl : i = j := by omega
        exact h3
  refine ⟨List.pairwise_iff_getElem.2 fun i j hi hj hij => ?_, fun x hx => ?_⟩
  · have := key j hj i hij
    simpa [List.getD, hi, hj] using this
  · obtain ⟨j, hj, rfl⟩ := List.getElem_of_mem hx
    have := h0 j hj
    simpa [List.getD, hj] using this
theorem asc_len {ls : List Int} (h : ascB ls = true) : ls.length ≤ 12 := by
  obtain ⟨h1, h2⟩ := ascB_all h
  have key : ∀ j, j < ls.length → (j : Int) ≤ ls.getD j 0 := by
    intro j
    induction j with
    | zero => intro hj; have := h2 _ (getD_mem hj); omega
    | succ j ih =>
      intro hj
      have h3 := ih (by omega)
      have h4 := List.pairwise_iff_getElem.1 h1 j (j + 1) (by omega) hj (by omega)
      have e1 : ls.getD j 0 = ls[j] := by simp [List.getD, show j < ls.length by omega]
      have e2 : ls.getD (j + 1) 0 = ls[j + 1] := by simp [List.getD, hj]
      rw [e2]; rw [e1] at h3
      omega
  rcases Nat.lt_or_ge 12 ls.length with h3 | h3
  · have := key 12 h3
    have := (h2 _ (getD_mem h3)).2
    omega
  · exact h3

def ltH (h : List Int) (a b : Int) : Bool := decide (hAt h a < hAt h b) || (decide (hAt h a = hAt h b) && decide (a < b))
theorem ltH_iff {h : List Int} {a b : Int} : ltH h a b = true ↔ hAt h a < hAt h b ∨ (hAt h a = hAt h b ∧ a < b) := by
  unfold ltH; rw [Bool.or_eq_true, Bool.and_eq_true, decide_eq_true_eq, decide_eq_true_eq, decide_eq_true_eq]
theorem ltH_no {h : List Int} {a b : Int} : ltH h a b = false ↔ ¬ (hAt h a < hAt h b ∨ (hAt h a = hAt h b ∧ a < b)) := by
  rw [← ltH_iff, Bool.not_eq_true]
theorem ltH_irrefl (h : List Int) (a : Int) : ltH h a a = false := ltH_no.2 (by omega)
theorem ltH_asymm {h : List Int} {a b : Int} (hl : ltH h a b = true) : ltH h b a = false := ltH_no.2 (by have := ltH_iff.1 hl; omega)
theorem ltH_trans {h : List Int} {a b c : Int} (h1 : ltH h a b = true) (h2 : ltH h b c = true) : ltH h a c = true := ltH_iff.2 (by have := ltH_iff.1 h1; have := ltH_iff.1 h2; omega)
theorem ltH_total {h : List Int} {a b : Int} (h1 : ltH h a b = false) (h2 : ltH h b a = false) : a = b := by have := ltH_no.1 h1; have := ltH_no.1 h2; omega
theorem ltH_ntrans {h : List Int} {a b c : Int} (h1 : ltH h a b = false) (h2 : ltH h b c = false) : ltH h a c = false := ltH_no.2 (by have := ltH_no.1 h1; have := ltH_no.1 h2; omega)

def rankH (h ls : List Int) (x : Int) : Nat := ls.countP fun y => ltH h y x
def keepH (h ls : List Int) (m : Int) (x : Int) : Bool := decide ((rankH h ls x : Int) < m)
def coldS (h ls : List Int) (m : Int) : List Int := if hV h = true ∧ ascB ls = true then ls.filter (keepH h ls m) else []
theorem coldS_yes {h ls : List Int} (m : Int) (h1 : hV h = true) (h2 : ascB ls = true) : coldS h ls m = ls.filter (keepH h ls m) := by unfold coldS; rw [if_pos ⟨h1, h2⟩]
theorem coldS_no {h ls : List Int} (m : Int) (h1 : hV h = false ∨ ascB ls = false) : coldS h ls m = [] := by
  unfold coldS
  rw [if_neg]
  rintro ⟨a, b⟩
  rcases h1 with e | e
  · rw [a] at e; cases e
  · rw [b] at e; cases e
theorem keepH_low (h ls : List Int) {m : Int} (hm : m ≤ 0) (x : Int) : keepH h ls m x = false := by unfold keepH; exact decide_eq_false (by omega)
theorem coldS_low (h ls : List Int) {m : Int} (hm : m ≤ 0) : coldS h ls m = [] := by
  unfold coldS
  split
  · exact List.filter_eq_nil_iff.2 fun x hx => by rw [keepH_low h ls hm]; simp
  · rfl
theorem coldS_le (h ls : List Int) (m : Int) : (coldS h ls m).length ≤ 12 := by
  unfold coldS
  split
  · rename_i h2; exact Nat.le_trans (List.length_filter_le _ _) (asc_len h2.2)
  · exact Nat.zero_le _
theorem coldS_sub {h ls : List Int} {m : Int} {x : Int} (hx : x ∈ coldS h ls m) : hV h = true ∧ ascB ls = true ∧ x ∈ ls ∧ keepH h ls m x = true := by
  unfold coldS at hx
  split at hx
  · rename_i h2
    obtain ⟨h3, h4⟩ := List.mem_filter.1 hx
    exact ⟨h2.1, h2.2, h3, h4⟩
  · cases hx

theorem asc_ext' : ∀ {xs ys : List Int}, xs.Pairwise (· < ·) → ys.Pairwise (· < ·) → (∀ x, x ∈ xs ↔ x ∈ ys) → xs = ys
  | [], [], _, _, _ => rfl
  | [], y :: ys, _, _, h => by have := (h y).2 (by simp); cases this
  | x :: xs, [], _, _, h => by have := (h x).1 (by simp); cases this
  | x :: xs, y :: ys, hx, hy, h => by
    obtain ⟨hx1, hx2⟩ := List.pairwise_cons.1 hx
    obtain ⟨hy1, hy2⟩ := List.pairwise_cons.1 hy
    have e : x = y := by
      rcases List.mem_cons.1 ((h x).1 (by simp)) with e | e
      · exact e
      · rcases List.mem_cons.1 ((h y).2 (by simp)) with e2 | e2
        · exact e2.symm
        · have := hy1 x e
          have := hx1 y e2
          omega
    subst e
    rw [asc_ext' hx2 hy2 fun z => ?_]
    refine ⟨fun hz => ?_, fun hz => ?_⟩
    · rcases List.mem_cons.1 ((h z).1 (by simp [hz])) with e | e
      · have := hx1 z hz; omega
      · exact e
    · rcases List.mem_cons.1 ((h z).2 (by simp [hz])) with e | e
      · have := hy1 z hz; omega
      · exact e

theorem rank_at {h ls s : List Int} (hp : s.Perm ls) (hs : s.Pairwise fun a b => ltH h a b = true) {j : Nat} {x : Int} (hx : s[j]? = some x) : rankH h ls x = j := by
  unfold rankH
  rw [← hp.countP_eq]
  obtain ⟨hj, ex⟩ := List.getElem?_eq_some_iff.1 hx
  have hsplit : s = s.take j ++ x :: s.drop (j + 1) := by rw [← ex, ← List.drop_eq_getElem_cons hj, List.take_append_drop]
  have h1 : (s.take j).countP (fun y => ltH h y x) = j := by
    rw [List.countP_eq_length.2, List.length_take]
    · omega
    · intro y hy
      obtain ⟨i, hi, rfl⟩ := List.getElem_of_mem hy
      rw [List.length_take] at hi
      rw [List.getElem_take, ← ex]
      exact List.pairwise_iff_getElem.1 hs i j (by omega) hj (by omega)
  have h2 : (s.drop (j + 1)).countP (fun y => ltH h y x) = 0 := by
    rw [List.countP_eq_zero]
    intro y hy
    obtain ⟨i, hi, rfl⟩ := List.getElem_of_mem hy
    rw [List.length_drop] at hi
    rw [List.getElem_drop, ← ex]
    rw [ltH_asymm (List.pairwise_iff_getElem.1 hs j (j + 1 + i) hj (by omega) (by omega))]
    simp
  rw [hsplit, List.countP_append, List.countP_cons, h1, h2, ltH_irrefl]
  simp

theorem cold_sorted {h ls s : List Int} (m : Nat) (ha : ascB ls = true) (hp : s.Perm ls) (hs : s.Pairwise fun a b => ltH h b a = false) :
    (s.take m).mergeSort (fun x y => decide (x ≤ y)) = ls.filter (keepH h ls m) := by
  have hls := (ascB_all ha).1
  have hnd : s.Nodup := hp.nodup_iff.2 (hls.imp fun h => by omega)
  have hst : s.Pairwise fun a b => ltH h a b = true := by
    refine (hs.and hnd).imp ?_
    rintro a b ⟨h1, h2⟩
    rcases h3 : ltH h a b with _ | _
    · exact absurd (ltH_total h3 h1) h2
    · rfl
  refine asc_ext' ?_ (hls.filter _) fun x => ?_
  · have h1 := List.pairwise_mergeSort (le := fun x y : Int => decide (x ≤ y)) (fun a b c h1 h2 => by simp at *; omega) (fun a b => by simp; omega) (s.take m)
    have h2 : ((s.take m).mergeSort fun x y => decide (x ≤ y)).Nodup := (List.mergeSort_perm _ _).nodup_iff.2 (hnd.sublist (List.take_sublist _ _))
    refine (h1.and h2).imp ?_
    rintro a b ⟨h3, h4⟩
    have := of_decide_eq_true h3
    omega
  · rw [List.mem_mergeSort, List.mem_filter]
    unfold keepH
    rw [decide_eq_true_eq]
    constructor
    · intro hx
      obtain ⟨j, hj, e⟩ := List.getElem_of_mem hx
      rw [List.length_take] at hj
      rw [List.getElem_take] at e
      have hx2 : s[j]? = some x := by rw [List.getElem?_eq_getElem (by omega), e]
      rw [rank_at hp hst hx2]
      exact ⟨hp.mem_iff.1 (List.mem_of_getElem? hx2), by omega⟩
    · rintro ⟨hx, hr⟩
      obtain ⟨j, hj, e⟩ := List.getElem_of_mem (hp.mem_iff.2 hx)
      have hx2 : s[j]? = some x := by rw [List.getElem?_eq_getElem hj, e]
      rw [rank_at hp hst hx2] at hr
      refine List.mem_iff_getElem?.2 ⟨j, ?_⟩
      rw [List.getElem?_take_of_lt (by omega)]
      exact hx2

theorem cold_length {h ls : List Int} (m : Nat) (ha : ascB ls = true) : (ls.filter (keepH h ls m)).length = min m ls.length := by
  have h1 := List.pairwise_mergeSort (le := fun x y : Int => !ltH h y x) (fun a b c h1 h2 => by
    simp only [Bool.not_eq_true'] at *; exact ltH_ntrans h2 h1) (fun a b => by
    rcases h1 : ltH h b a with _ | _
    · rfl
    · rw [ltH_asymm h1]; rfl) ls
  have h2 := cold_sorted (h := h) (s := ls.mergeSort fun x y => !ltH h y x) m ha (List.mergeSort_perm _ _) (h1.imp fun h => by simpa using h)
  rw [← h2, List.length_mergeSort, List.length_take, List.length_mergeSort]

theorem countP_lt' {p q : Int → Bool} (hpq : ∀ y, p y = true → q y = true) {x : Int} (hpx : p x = false) (hqx : q x = true) : ∀ {ls : List Int}, x ∈ ls → ls.countP p < ls.countP q
  | y :: ls, hx => by
    have hm : ls.countP p ≤ ls.countP q := List.countP_mono_left fun z _ => hpq z
    rw [List.countP_cons, List.countP_cons]
    rcases List.mem_cons.1 hx with rfl | hx
    · rw [hpx, hqx]; simp; omega
    · have := countP_lt' hpq hpx hqx hx
      rcases h1 : p y with _ | _
      · simp; omega
      · rw [hpq y h1]; simp; omega
/-- who is colder than one that is kept is kept -/
theorem keep_colder {h ls : List Int} {m x y : Int} (hx : x ∈ ls) (hl : ltH h x y = true) (hy : keepH h ls m y = true) : keepH h ls m x = true := by
  have h1 : rankH h ls x < rankH h ls y := countP_lt' (p := fun z => ltH h z x) (q := fun z => ltH h z y) (fun z hz => ltH_trans hz hl) (ltH_irrefl h x) hl hx
  unfold keepH at *
  have := of_decide_eq_true hy
  exact decide_eq_true (by omega)
theorem keep_more {h ls : List Int} {m x : Int} (hk : keepH h ls m x = true) : keepH h ls (m + 1) x = true := by
  unfold keepH at *
  have := of_decide_eq_true hk
  exact decide_eq_true (by omega)

/-- loops of the model -/
theorem rank_take {h ls : List Int} {x : Int} {k : Nat} (hk : k < ls.length) : (ls.take (k + 1)).countP (fun y => ltH h y x) = (ls.take k).countP (fun y => ltH h y x) + (if ltH h (ls.getD k 0) x then 1 else 0) := by
  have e : ls.getD k 0 = ls[k] := by simp [List.getD, hk]
  rw [List.take_succ_eq_append_getElem hk, List.countP_append, e]
  simp [List.countP_cons]
theorem filter_take {p : Int → Bool} {ls : List Int} {k : Nat} (hk : k < ls.length) : (ls.take (k + 1)).filter p = (ls.take k).filter p ++ (if p (ls.getD k 0) then [ls.getD k 0] else []) := by
  have e : ls.getD k 0 = ls[k] := by simp [List.getD, hk]
  rw [List.take_succ_eq_append_getElem hk, List.filter_append, e]
  simp [List.filter_cons]
theorem asc_lt {ls : List Int} (h : ascB ls = true) {i k : Nat} (hi : i < ls.length) (hk : k < ls.length) : ls.getD k 0 < ls.getD i 0 ↔ k < i := by
  have hp := List.pairwise_iff_getElem.1 (ascB_all h).1
  have e1 : ls.getD k 0 = ls[k] := by simp [List.getD, hk]
  have e2 : ls.getD i 0 = ls[i] := by simp [List.getD, hi]
  rw [e1, e2]
  constructor
  · intro hl
    rcases Nat.lt_trichotomy k i with h1 | h1 | h1
    · exact h1
    · subst h1; omega
    · have := hp i k hi hk h1; omega
  · exact hp k i hk hi
end Go.Proofs.YtfianpjoifcphaaGreat

/- SpecM1 -/
namespace Go.Proofs.YtfianpjoifcphaaGreat
open Go.RowKit
set_option linter.unusedVariables false
set_option maxRecDepth 100000



set_option maxHeartbeats 3200000 in
theorem where_any (t z a i x : Int) (w : World) :
    Calls Tryz.prog 172 #[.agg #[.int .i64 t, .int .i64 z, .int .i64 a, .int .i64 i, .int .i64 x]] w fun e w' => e = .returned (.bool (whV (t, z, a, i, x))) ∧ Below w.heap.size w w' := by
  by_cases t0 : t = 0
  · subst t0
    have HV := hide (show whV (0, z, a, i, x) = decide ((0, z, a, i, x) = wh0) from rfl)
    go_enter Tryz.func172, Tryz.ntmps172
    go_wp2
    all_goals
      go_ret
      exact ⟨ret_bool (by rw [HV.out]; simp_all [wh0]), below_new w _⟩
  by_cases t1 : t = 1
  · subst t1
    have HV := hide (show whV (1, z, a, i, x) = (inB z 0 3 && (inB a 0 63 && (decide (i = 0) && decide (x = 0)))) from rfl)
    clear t0
    rcases h1 : inB z 0 3 with _ | _
    · have H1 := hide h1
      clear h1
      go_enter Tryz.func172, Tryz.ntmps172
      go_wp2_with fail
      refine (in_no _ _ _ _ H1.out).mono ?_
      rintro e w' ⟨rfl, rfl⟩
      go_wp2
      go_ret
      exact ⟨ret_bool (by rw [HV.out, H1.out]; rfl), below_new w _⟩
    · have H1 := hide h1
      clear h1
      rcases h2 : inB a 0 63 with _ | _
      · have H2 := hide h2
        clear h2
        go_enter Tryz.func172, Tryz.ntmps172
        go_wp2_with fail
        refine (in_yes _ _ _ _ H1.out).mono ?_
        rintro e w' ⟨rfl, rfl⟩
        go_wp2_with fail
        refine (in_no _ _ _ _ H2.out).mono ?_
        rintro e w' ⟨rfl, rfl⟩
        go_wp2
        go_ret
        exact ⟨ret_bool (by rw [HV.out, H1.out, H2.out]; rfl), below_new w _⟩
      · have H2 := hide h2
        clear h2
        go_enter Tryz.func172, Tryz.ntmps172
        go_wp2_with fail
        refine (in_yes _ _ _ _ H1.out).mono ?_
        rintro e w' ⟨rfl, rfl⟩
        go_wp2_with fail
        refine (in_yes _ _ _ _ H2.out).mono ?_
        rintro e w' ⟨rfl, rfl⟩
        go_wp2
        all_goals
          go_ret
          exact ⟨ret_bool (by rw [HV.out, H1.out, H2.out]; by_cases hi : i = 0 <;> by_cases hx : x = 0 <;> simp_all), below_new w _⟩
  by_cases t2 : t = 2
  · subst t2
    have HV := hide (show whV (2, z, a, i, x) = (inB z 0 3 && (inB a 0 63 && (inB i 1 999 && inB x 0 5))) from rfl)
    clear t0 t1
    rcases h1 : inB z 0 3 with _ | _
    · have H1 := hide h1
      clear h1
      go_enter Tryz.func172, Tryz.ntmps172
      go_wp2_with fail
      refine (in_no _ _ _ _ H1.out).mono ?_
      rintro e w' ⟨rfl, rfl⟩
      go_wp2
      go_ret
      exact ⟨ret_bool (by rw [HV.out, H1.out]; rfl), below_new w _⟩
    have H1 := hide h1
    clear h1
    rcases h2 : inB a 0 63 with _ | _
    · have H2 := hide h2
      clear h2
      go_enter Tryz.func172, Tryz.ntmps172
      go_wp2_with fail
      refine (in_yes _ _ _ _ H1.out).mono ?_
      rintro e w' ⟨rfl, rfl⟩
      go_wp2_with fail
      refine (in_no _ _ _ _ H2.out).mono ?_
      rintro e w' ⟨rfl, rfl⟩
      go_wp2
      go_ret
      exact ⟨ret_bool (by rw [HV.out, H1.out, H2.out]; rfl), below_new w _⟩
    have H2 := hide h2
    clear h2
    rcases h3 : inB i 1 999 with _ | _
    · have H3 := hide h3
      clear h3
      go_enter Tryz.func172, Tryz.ntmps172
      go_wp2_with fail
      refine (in_yes _ _ _ _ H1.out).mono ?_
      rintro e w' ⟨rfl, rfl⟩
      go_wp2_with fail
      refine (in_yes _ _ _ _ H2.out).mono ?_
      rintro e w' ⟨rfl, rfl⟩
      go_wp2_with fail
      refine (in_no _ _ _ _ H3.out).mono ?_
      rintro e w' ⟨rfl, rfl⟩
      go_wp2
      go_ret
      exact ⟨ret_bool (by rw [HV.out, H1.out, H2.out, H3.out]; rfl), below_new w _⟩
    have H3 := hide h3
    clear h3
    go_enter Tryz.func172, Tryz.ntmps172
    go_wp2_with fail
    refine (in_yes _ _ _ _ H1.out).mono ?_
    rintro e w' ⟨rfl, rfl⟩
    go_wp2_with fail
    refine (in_yes _ _ _ _ H2.out).mono ?_
    rintro e w' ⟨rfl, rfl⟩
    go_wp2_with fail
    refine (in_yes _ _ _ _ H3.out).mono ?_
    rintro e w' ⟨rfl, rfl⟩
    go_wp2_with fail
    refine (in_any _ _ _ _).mono ?_
    rintro e w' ⟨rfl, rfl⟩
    go_wp2
    go_ret
    exact ⟨ret_bool (by rw [HV.out, H1.out, H2.out, H3.out]; simp), below_new w _⟩
  · have HV := hide (show whV (t, z, a, i, x) = false by unfold whV; rw [if_neg t0, if_neg t1, if_neg t2])
    have g0 : (t == 0) = false := by simpa using t0
    have g1 : (t == 1) = false := by simpa using t1
    have g2 : (t == 2) = false := by simpa using t2
    go_enter Tryz.func172, Tryz.ntmps172
    go_wp2
    go_ret
    exact ⟨ret_bool HV.out.symm, below_new w _⟩
end Go.Proofs.YtfianpjoifcphaaGreat
