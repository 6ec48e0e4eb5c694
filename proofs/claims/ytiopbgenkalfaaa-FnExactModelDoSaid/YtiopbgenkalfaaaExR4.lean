/-
  The walk of FnExactModelNew.
-/
import Derived.Test.YtiopbgenkalfaaaExR3
import Derived.Test.YtiopbgenkalfaaaSpecR1
import Derived.Test.YtiopbgenkalfaaaImpR5
namespace Go.Proofs.Ytiopbgenkalfaaa
open Go.RowKit
set_option linter.unusedVariables false
set_option maxRecDepth 100000

theorem mvN_le (L : Nat) {qs : List Nq} (h : ∀ r ∈ qs, r.ps.length ≤ L) (v : Int) : mvN v qs ≤ v + ((qs.length * L : Nat) : Int) := by
  induction qs generalizing v with
  | nil => simp [mvN]
  | cons q qs ih =>
    have h1 := ih (fun r hr => h r (List.mem_cons_of_mem _ hr)) (v + ((q.ps.length : Nat) : Int))
    have h2 := h q (List.mem_cons_self ..)
    simp only [mvN, List.length_cons, Nat.succ_mul]
    omega
/-- what the functions answer is small -/
structure SmallM (q : Mq) : Prop where
  n : q.n ≤ 12
  m : q.m ≤ 61
  l : ∀ r ∈ q.qs, r.ps.length ≤ 12
theorem SmallM.mv {w : World} {B : Nat} {q : Mq} (h : SmallM q) (hq : MdI w B q) : mvN (1 + (q.n : Int)) q.qs ≤ 1000000000 := by
  have h1 := mvN_le 12 h.l (1 + (q.n : Int))
  rw [hq.past.1] at h1
  have h2 := h.n
  have h3 := h.m
  have h4 : q.m * 12 ≤ 61 * 12 := Nat.mul_le_mul_right 12 h3
  omega
theorem small_of {q : Mq} {w : World} {b : Nat} {r : Option (List Int × List (List Int))} (hm : OwnM w b q) (hx : q.xs = (r.getD ([], [])).1) (hv : vsN q.qs = (r.getD ([], [])).2) (hr : ∀ p, r = some p → p.1.length ≤ 12 ∧ p.2.length ≤ 61 ∧ ∀ l ∈ p.2, l.length ≤ 12) : SmallM q := by
  have h1 := hm.now.1
  have h2 := hm.past.len
  rw [← vsN_length] at h2
  have hl : ∀ l ∈ (r.getD ([], [])).2, l.length ≤ 12 := by
    rcases r with _ | p
    · simp
    · exact (hr p rfl).2.2
  refine ⟨?_, ?_, fun x hxq => hl x.ps (by rw [← hv]; exact List.mem_map_of_mem hxq)⟩
  · rw [hx] at h1
    rcases r with _ | p
    · simp at h1; omega
    · have := (hr p rfl).1; simp at h1; omega
  · rw [hv] at h2
    rcases r with _ | p
    · simp at h2; omega
    · have := (hr p rfl).2.1; simp at h2; omega
theorem newR_small {xs : List Int} : ∀ p, newR xs = some p → p.1.length ≤ 12 ∧ p.2.length ≤ 61 ∧ ∀ l ∈ p.2, l.length ≤ 12 := by
  intro p h
  rcases hv : nowV xs with _ | _
  · rw [newR_no hv] at h; cases h
  · rw [newR_yes hv] at h
    injection h with h
    subst h
    have := nowV_len hv
    exact ⟨by simp [this], by simp, by simp [this]⟩

/-- a model of its own, in its box: what comes of marking it -/
theorem OwnM.lows {w w' : World} {base : Nat} {q : Mq} (h : OwnM w base q) (hk : ∀ g, base ≤ g → g < w.heap.size → w'.heap[g]? = w.heap[g]?) : OwnM w' base q := by
  have row : ∀ {t s n : Nat} {v : Value} {xs : List Value}, w.ownsRow base t s v n xs → w'.ownsRow base t s v n xs := by
    intro t s n v xs hr
    refine ⟨hr.1, ?_⟩
    rcases hr.2 with h0 | ⟨g, cap, cur, hv, hb, hh, r⟩
    · exact .inl h0
    · exact .inr ⟨g, cap, cur, hv, hb, by rw [hk g hb (Array.getElem?_eq_some_iff.1 hh).1]; exact hh, r⟩
  exact ⟨⟨h.now.1, row h.now.2⟩, ⟨h.past.len, row h.past.row, fun k r hr => ⟨(h.past.own k r hr).1, row (h.past.own k r hr).2⟩, h.past.sep⟩, h.sep⟩

/-- what the walk keeps: the argument, the model's result, the copy handed over, the program's result, each in its box -/
structure EN (w W : World) (B1 B4 B5 g3 g6 : Nat) (A : Option Addr) (n : Nat) (xs : List Int) (q1 : Mq) (A4 : Option Addr) (c4 : Nat) (ys : List Int) (q5 : Mq) : Prop where
  i : Ints W w.heap.size A n xs
  w1 : MdI W B1 q1
  k3 : Blk W g3 27 #[.slice q1.A q1.n q1.c, .slice q1.P q1.m q1.d]
  o4 : Own W B4 A4 n c4 ys
  o5 : OwnM W B5 q5
  k6 : Blk W g6 27 #[.slice q5.A q5.n q5.c, .slice q5.P q5.m q5.d]
  b : Below w.heap.size w W
  le0 : w.heap.size ≤ B1
  le1 : B1 ≤ B4
  lt3 : g3 < B4
  le2 : B4 ≤ B5
  le3 : B5 ≤ W.heap.size
  l4 : ∀ g, (Value.slice A4 n c4).ownBlock = some g → g < B5
  g6 : B5 ≤ g6
section
variable {w W W' : World} {B1 B4 B5 g3 g6 n c4 : Nat} {A A4 : Option Addr} {xs ys ys' : List Int} {q1 q5 : Mq}
theorem EN.below (h : EN w W B1 B4 B5 g3 g6 A n xs q1 A4 c4 ys q5) (hb : Below W.heap.size W W') : EN w W' B1 B4 B5 g3 g6 A n xs q1 A4 c4 ys q5 :=
  { i := h.i.below hb h.b.size, w1 := h.w1.below hb (by have := h.le1; have := h.le2; have := h.le3; omega), k3 := h.k3.below hb h.k3.lt, o4 := h.o4.below hb, o5 := h.o5.below hb, k6 := h.k6.below hb h.k6.lt, b := h.b.trans (hb.mono h.b.size),
    le0 := h.le0, le1 := h.le1, lt3 := h.lt3, le2 := h.le2, le3 := Nat.le_trans h.le3 hb.size, l4 := h.l4, g6 := h.g6 }
theorem EN.mark4 (h : EN w W B1 B4 B5 g3 g6 A n xs q1 A4 c4 ys q5) (ho : Own W' B4 A4 n c4 ys') (hg : W.grownBy W' (Value.slice A4 n c4).ownBlock) : EN w W' B1 B4 B5 g3 g6 A n xs q1 A4 c4 ys' q5 := by
  have h0 := h.le0; have h1 := h.le1; have h2 := h.le2; have h3 := h.le3; have h5 := h.b.size
  have hr : ∀ g, (Value.slice A4 n c4).ownBlock = some g → B4 ≤ g ∧ g < B5 := fun g e => ⟨(h.o4.block g e).1, h.l4 g e⟩
  have hb4 : Below B4 W W' := (Below.refl _ _).grown hg (by omega) (fun g e => (hr g e).1)
  have kt := row_kt h.o4.2 hg (by decide) (by decide)
  exact { i := h.i.below hb4 (by omega), w1 := h.w1.below hb4 h1, k3 := (kt _ _).1 h.k3, o4 := ho, o5 := h.o5.lows fun g h1 h2 => hg.block g h2 (fun e => by have := hr g e.symm; omega), k6 := (kt _ _).1 h.k6,
          b := h.b.trans (hb4.mono (by omega)), le0 := h.le0, le1 := h.le1, lt3 := h.lt3, le2 := h.le2, le3 := Nat.le_trans h.le3 hg.size, l4 := h.l4, g6 := h.g6 }
theorem EN.mark5 {q5' : Mq} {hi : Nat} (h : EN w W B1 B4 B5 g3 g6 A n xs q1 A4 c4 ys q5) (ho : OwnM W' B5 q5') (hs : q5'.A = q5.A ∧ q5'.n = q5.n ∧ q5'.c = q5.c ∧ q5'.P = q5.P ∧ q5'.m = q5.m ∧ q5'.d = q5.d) (hc : ChgN B5 hi W W') (hk : Kt W W') : EN w W' B1 B4 B5 g3 g6 A n xs q1 A4 c4 ys q5' := by
  have h0 := h.le0; have h1 := h.le1; have h2 := h.le2; have h3 := h.le3; have h5 := h.b.size
  obtain ⟨e1, e2, e3, e4, e5, e6⟩ := hs
  exact { i := h.i.below hc.below (by omega), w1 := h.w1.below hc.below (by omega), k3 := (hk _ _).1 h.k3,
          o4 := ⟨h.o4.1, h.o4.2.1, by
            rcases h.o4.2.2 with h0 | ⟨g, cap, cur, hv, hb, hh, r⟩
            · exact .inl h0
            · exact .inr ⟨g, cap, cur, hv, hb, by rw [hc.below.block g (h.l4 g (by rw [hv]; rfl))]; exact hh, r⟩⟩,
          o5 := ho, k6 := by rw [e1, e2, e3, e4, e5, e6]; exact (hk _ _).1 h.k6,
          b := h.b.trans (hc.below.mono (by omega)), le0 := h.le0, le1 := h.le1, lt3 := h.lt3, le2 := h.le2, le3 := Nat.le_trans h.le3 hc.below.size, l4 := h.l4, g6 := h.g6 }
theorem EN.cells (h : EN w W B1 B4 B5 g3 g6 A n xs q1 A4 c4 ys q5) : (W.cell? ⟨g3, 0, none⟩ = some (.slice q1.A q1.n q1.c) ∧ W.cell? ⟨g3, 1, none⟩ = some (.slice q1.P q1.m q1.d)) ∧ W.cell? ⟨g6, 0, none⟩ = some (.slice q5.A q5.n q5.c) ∧ W.cell? ⟨g6, 1, none⟩ = some (.slice q5.P q5.m q5.d) :=
  ⟨⟨by rw [h.k3.cell]; rfl, by rw [h.k3.cell]; rfl⟩, by rw [h.k6.cell]; rfl, by rw [h.k6.cell]; rfl⟩
end
end Go.Proofs.Ytiopbgenkalfaaa
