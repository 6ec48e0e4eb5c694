/-
  The program's BucketWait.
-/
import Derived.Test.YtcekikblgbdcoaaImpB6
namespace Go.Proofs.Ytcekikblgbdcoaa
open Go.RowKit
set_option linter.unusedVariables false
set_option maxRecDepth 100000

theorem grown_cellB {w w' : World} {R : Nat} {p : Addr} (h : w.grownBy w' (some R)) (hp : p.block < w.heap.size) (hne : p.block ≠ R) : w'.cell? p = w.cell? p :=
  World.cell?_of_block (h.block p.block hp (by intro e; exact hne (by injection e)))

/-- on the way: the queue's block, what is left in it, what was taken last -/
structure QW (w W : World) (Q g : Nat) (b : Bk) (n k c : Nat) (A : Option Addr) : Prop where
  q : Blk W Q 50 #[.slice A (n - k) c]
  row : Ints W W.heap.size (some ⟨g, 0, none⟩) (n * 4) (lvs b n)
  hk : k ≤ n
  hc : n - k ≤ c ∧ c ≤ maxLen
  ha : k < n → A = some ⟨g, k * 4, none⟩
  hg : w.heap.size ≤ g
  hQ : w.heap.size ≤ Q
  hgQ : g ≠ Q
  glt : g < W.heap.size
  below : Below w.heap.size w W
theorem QW.at_ {w W : World} {Q g n k c : Nat} {b : Bk} {A : Option Addr} (h : QW w W Q g b n k c A) (hk : k < n) :
    (W.cell? ⟨g, k * 4, none⟩ = some (.int .i64 (lvl b k)) ∧ W.cell? ⟨g, k * 4 + 1, none⟩ = some (.int .i64 b.m) ∧ W.cell? ⟨g, k * 4 + 2, none⟩ = some (.int .i64 b.r) ∧ W.cell? ⟨g, k * 4 + 3, none⟩ = some (.int .i64 (b.t + k))) := by
  obtain ⟨ad, e, hb, hc⟩ := h.row.2 (by omega)
  injection e with e
  subst e
  obtain ⟨v0, v1, v2, v3⟩ := lvs_at b hk
  have c0 := hc (k * 4) (by omega)
  have c1 := hc (k * 4 + 1) (by omega)
  have c2 := hc (k * 4 + 2) (by omega)
  have c3 := hc (k * 4 + 3) (by omega)
  rw [v0] at c0
  rw [v1] at c1
  rw [v2] at c2
  rw [v3] at c3
  rw [add_plain'] at c0 c1 c2 c3
  exact ⟨c0, c1, c2, c3⟩
/-- one more is taken -/
theorem QW.step {w W W2 : World} {Q g n k c : Nat} {b : Bk} {A : Option Addr} (h : QW w W Q g b n k c A) (hk : k < n) (ht : TakeP W W2 Q g (k * 4) (n - (k + 1))) : ∃ A2 c2, QW w W2 Q g b n (k + 1) c2 A2 := by
  obtain ⟨A2, c2, hb, ha, h1, h2, hgr⟩ := ht
  have hrow : Ints W2 W2.heap.size (some ⟨g, 0, none⟩) (n * 4) (lvs b n) := by
    refine ⟨h.row.1, fun hn => ?_⟩
    obtain ⟨ad, e, hb', hc⟩ := h.row.2 hn
    injection e with e
    subst e
    refine ⟨_, rfl, by have := hgr.size; have := h.glt; simp only; omega, fun j hj => (grown_cellB hgr (by rw [block_of_add]; exact h.glt) (by rw [block_of_add]; exact h.hgQ)).trans (hc j hj)⟩
  exact ⟨A2, c2, hb, hrow, by omega, ⟨h1, h2⟩, fun hlt => by rw [ha (by omega)]; congr 2; omega, h.hg, h.hQ, h.hgQ, by have := hgr.size; have := h.glt; omega, h.below.grown hgr h.below.size (fun k hk => by injection hk with hk; have := h.hQ; omega)⟩
theorem QW.end_ {w W W2 : World} {Q g n k c : Nat} {b : Bk} {A : Option Addr} (h : QW w W Q g b n k c A) (hgr : W.grownBy W2 (some Q)) : Below w.heap.size w W2 :=
  h.below.grown hgr h.below.size (fun k hk => by injection hk with hk; have := h.hQ; omega)
theorem QW.alloc {w W : World} {Q g n k c : Nat} {b : Bk} {A : Option Addr} (h : QW w W Q g b n k c A) (o : Obj) : QW w (W.alloc o) Q g b n k c A :=
  ⟨h.q.alloc o, (h.row.alloc (Nat.le_refl _) o).more (by simp), h.hk, h.hc, h.ha, h.hg, h.hQ, h.hgQ, by have := h.glt; simp; omega, h.below.alloc h.below.size o⟩
theorem QW.turn {w W W2 : World} {Q g n k c x : Nat} {b : Bk} {A : Option Addr} (h : QW w W Q g b n k c A) (hgr : W.grownBy W2 (some x)) (hxQ : x ≠ Q) (hxg : x ≠ g) (hx : w.heap.size ≤ x) : QW w W2 Q g b n k c A := by
  refine ⟨h.q.grown hgr (by intro e; injection e with e; exact hxQ e.symm), ⟨h.row.1, fun hn => ?_⟩, h.hk, h.hc, h.ha, h.hg, h.hQ, h.hgQ, by have := hgr.size; have := h.glt; omega, h.below.grown hgr h.below.size (fun k hk => by injection hk with hk; omega)⟩
  obtain ⟨ad, e, hb', hc⟩ := h.row.2 hn
  injection e with e
  subst e
  exact ⟨_, rfl, by have := hgr.size; have := h.glt; simp only; omega, fun j hj => (grown_cellB hgr (by rw [block_of_add]; exact h.glt) (by rw [block_of_add]; intro e; exact hxg e.symm)).trans (hc j hj)⟩

/-- on the way: the bucket taken last -/
structure WT (w W : World) (Q g : Nat) (b : Bk) (n j c : Nat) (A : Option Addr) (many : Int) (h : Nat) (x0 x1 x2 x3 : Int) (ok : Bool) : Prop where
  q : QW w W Q g b n j c A
  at_ : Blk W h 24 #[.int .i64 x0, .int .i64 x1, .int .i64 x2, .int .i64 x3]
  hQ : h ≠ Q
  hg : h ≠ g
  hw : w.heap.size ≤ h
  yes : ok = true → 1 ≤ j ∧ x0 = lvl b ((j : Int) - 1) ∧ x3 = b.t + j - 1
  no : ok = false → j = n
  less : ∀ i : Nat, (i + 1 < j ∨ (ok = false ∧ i < n)) → lvl b i < many

/-- the next one, out of a queue that is not empty -/
theorem WT.more {w W W2 : World} {Q g n j c h x : Nat} {b : Bk} {A : Option Addr} {many x0 x1 x2 x3 : Int} (hw : WT w W Q g b n j c A many h x0 x1 x2 x3 true) (hlt : ¬ many ≤ x0) (hj : j < n)
    (hx : x = W.heap.size) (ht : TakeP (W.alloc (.cells #[.int .i64 x0, .int .i64 x1, .int .i64 x2, .int .i64 x3] 24)) W2 Q g (j * 4) (n - (j + 1))) :
    ∃ A2 c2, WT w ((((W2.setCell ⟨x, 0, none⟩ (.int .i64 (lvl b j))).setCell ⟨x, 1, none⟩ (.int .i64 b.m)).setCell ⟨x, 2, none⟩ (.int .i64 b.r)).setCell ⟨x, 3, none⟩ (.int .i64 (b.t + j))) Q g b n (j + 1) c2 A2 many x (lvl b j) b.m b.r (b.t + j) true := by
  obtain ⟨y1, y2, y3⟩ := hw.yes rfl
  have hq1 := hw.q.alloc (.cells #[.int .i64 x0, .int .i64 x1, .int .i64 x2, .int .i64 x3] 24)
  obtain ⟨A2, c2, hq2⟩ := hq1.step hj ht
  obtain ⟨_, _, _, _, _, _, hgr⟩ := ht
  have hQl := hw.q.q.lt
  have hgl := hw.q.glt
  have hwl := hw.q.below.size
  have hb := (Blk.new W 24 #[.int .i64 x0, .int .i64 x1, .int .i64 x2, .int .i64 x3]).grown hgr (by intro e; injection e with e; omega)
  rw [← hx] at hb
  have hs := hb.set4 (.int .i64 (lvl b j)) (.int .i64 b.m) (.int .i64 b.r) (.int .i64 (b.t + j))
  refine ⟨A2, c2, hq2.turn hs.2 (by omega) (by omega) (by omega), hs.1, by omega, by omega, by omega, fun _ => ⟨by omega, by congr 1; omega, by omega⟩, (fun e => by cases e), fun i hi => ?_⟩
  rcases hi with hi | ⟨e, _⟩
  · rcases Nat.lt_or_ge (i + 1) j with h | h
    · exact hw.less i (.inl h)
    · have e : (i : Int) = (j : Int) - 1 := by omega
      rw [e, ← y2]; omega
  · cases e
/-- .. out of an empty one -/
theorem WT.stop {w W W2 : World} {Q g n j c h x : Nat} {b : Bk} {A : Option Addr} {many x0 x1 x2 x3 : Int} (hw : WT w W Q g b n j c A many h x0 x1 x2 x3 true) (hlt : ¬ many ≤ x0) (hj : j = n)
    (hx : x = W.heap.size) (hgr : (W.alloc (.cells #[.int .i64 x0, .int .i64 x1, .int .i64 x2, .int .i64 x3] 24)).grownBy W2 (some Q)) (hqb : Blk W2 Q 50 #[.slice A 0 c]) :
    WT w ((((W2.setCell ⟨x, 0, none⟩ (.int .i64 0)).setCell ⟨x, 1, none⟩ (.int .i64 0)).setCell ⟨x, 2, none⟩ (.int .i64 0)).setCell ⟨x, 3, none⟩ (.int .i64 0)) Q g b n n c A many x 0 0 0 0 false := by
  subst hj
  obtain ⟨y1, y2, y3⟩ := hw.yes rfl
  have hQl := hw.q.q.lt
  have hgl := hw.q.glt
  have hwl := hw.q.below.size
  have hq1 := hw.q.alloc (.cells #[.int .i64 x0, .int .i64 x1, .int .i64 x2, .int .i64 x3] 24)
  have hq2 : QW w W2 Q g b j j c A := by
    refine ⟨by rw [Nat.sub_self]; exact hqb, ⟨hq1.row.1, fun hn => ?_⟩, hq1.hk, hq1.hc, hq1.ha, hq1.hg, hq1.hQ, hq1.hgQ, by have := hgr.size; have := hq1.glt; omega, hq1.end_ hgr⟩
    obtain ⟨ad, e, hb', hc⟩ := hq1.row.2 hn
    injection e with e
    subst e
    exact ⟨_, rfl, by have := hgr.size; have := hq1.glt; simp only; omega, fun i hi => (grown_cellB hgr (by rw [block_of_add]; exact hq1.glt) (by rw [block_of_add]; exact hq1.hgQ)).trans (hc i hi)⟩
  have hb := (Blk.new W 24 #[.int .i64 x0, .int .i64 x1, .int .i64 x2, .int .i64 x3]).grown hgr (by intro e; injection e with e; omega)
  rw [← hx] at hb
  have hs := hb.set4 (.int .i64 0) (.int .i64 0) (.int .i64 0) (.int .i64 0)
  refine ⟨hq2.turn hs.2 (by omega) (by omega) (by omega), hs.1, by omega, by omega, by omega, (fun e => by cases e), fun _ => rfl, fun i hi => ?_⟩
  rcases Nat.lt_or_ge (i + 1) j with h | h
  · exact hw.less i (.inl h)
  · have e : (i : Int) = (j : Int) - 1 := by
      rcases hi with hi | ⟨_, hi⟩ <;> omega
    rw [e, ← y2]; omega
end Go.Proofs.Ytcekikblgbdcoaa
