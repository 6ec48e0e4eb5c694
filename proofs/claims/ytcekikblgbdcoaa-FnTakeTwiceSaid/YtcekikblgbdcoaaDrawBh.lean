/-
  Drawn buckets: what a region that draws its order wants. Plain.
-/
import Derived.Test.YtcekikblgbdcoaaDrawB2
namespace Go.Proofs.Ytcekikblgbdcoaa
open Go.RowKit
set_option linter.unusedVariables false
set_option maxRecDepth 100000

theorem thr_get {a b c v : Int} (v0 : 0 ≤ v) (v1 : v < 3) (h : v.toNat < ([Value.int .i64 a, .int .i64 b, .int .i64 c] : List Value).length) : ([Value.int .i64 a, .int .i64 b, .int .i64 c] : List Value)[v.toNat]'h = .int .i64 (thr a b c v) := by
  have : v = 0 ∨ v = 1 ∨ v = 2 := by omega
  rcases this with rfl | rfl | rfl <;> rfl

theorem DK.far4 {w W : World} {R g g' g2 : Nat} {p a b c v : Int} {t t' t2 : TypeId} {v0 v1 v2 v3 : Value} {cs : Array Value} {L : List (Nat × TypeId × Array Value)} (h : DK w W R p ((g, t, #[.int .i64 a, .int .i64 b, .int .i64 c]) :: (g2, t2, cs) :: (g', t', #[v0, v1, v2, v3]) :: L)) (u0 u1 u2 u3 : Value) (v0 : 0 ≤ v) (v1 : v < 3) (hne : g ≠ g') :
    ((((W.setCell ⟨g', 0, none⟩ u0).setCell ⟨g', 1, none⟩ u1).setCell ⟨g', 2, none⟩ u2).setCell ⟨g', 3, none⟩ u3).cell? ⟨g, v.toNat, none⟩ = some (.int .i64 (thr a b c v)) :=
  thr_cell ((((h.hd.far (p := ⟨g', 0, none⟩) hne u0).far (p := ⟨g', 1, none⟩) hne u1).far (p := ⟨g', 2, none⟩) hne u2).far (p := ⟨g', 3, none⟩) hne u3) v0 v1

/-- the bucket's own block behind the result's store -/
theorem DK.keep4 {w W : World} {R g g' : Nat} {p a b c d : Int} {t t' : TypeId} {v0 v1 v2 v3 : Value} {L : List (Nat × TypeId × Array Value)} (h : DK w W R p ((g, t, #[.int .i64 a, .int .i64 b, .int .i64 c, .int .i64 d]) :: (g', t', #[v0, v1, v2, v3]) :: L)) (u0 u1 u2 u3 : Value) (hne : g ≠ g' := by omega) :
    (((((W.setCell ⟨g', 0, none⟩ u0).setCell ⟨g', 1, none⟩ u1).setCell ⟨g', 2, none⟩ u2).setCell ⟨g', 3, none⟩ u3).cell? ⟨g, 0, none⟩ = some (.int .i64 a) ∧ ((((W.setCell ⟨g', 0, none⟩ u0).setCell ⟨g', 1, none⟩ u1).setCell ⟨g', 2, none⟩ u2).setCell ⟨g', 3, none⟩ u3).cell? ⟨g, 1, none⟩ = some (.int .i64 b) ∧
      ((((W.setCell ⟨g', 0, none⟩ u0).setCell ⟨g', 1, none⟩ u1).setCell ⟨g', 2, none⟩ u2).setCell ⟨g', 3, none⟩ u3).cell? ⟨g, 2, none⟩ = some (.int .i64 c) ∧ ((((W.setCell ⟨g', 0, none⟩ u0).setCell ⟨g', 1, none⟩ u1).setCell ⟨g', 2, none⟩ u2).setCell ⟨g', 3, none⟩ u3).cell? ⟨g, 3, none⟩ = some (.int .i64 d)) := by
  have hb := (((h.hd.far (p := ⟨g', 0, none⟩) hne u0).far (p := ⟨g', 1, none⟩) hne u1).far (p := ⟨g', 2, none⟩) hne u2).far (p := ⟨g', 3, none⟩) hne u3
  exact ⟨by rw [hb.cell]; rfl, by rw [hb.cell]; rfl, by rw [hb.cell]; rfl, by rw [hb.cell]; rfl⟩

/-- the result is stored first, and the list of three made then -/
theorem DK.late {w W : World} {R g g' : Nat} {p a b c d : Int} {t t' t3 : TypeId} {v0 v1 v2 v3 : Value} {x y z : Int} {L : List (Nat × TypeId × Array Value)} (h : DK w W R p ((g, t, #[.int .i64 a, .int .i64 b, .int .i64 c, .int .i64 d]) :: (g', t', #[v0, v1, v2, v3]) :: L)) (u0 u1 u2 u3 : Value) (hne : g ≠ g') (ws w10 : World)
    (hws : (((W.setCell ⟨g', 0, none⟩ u0).setCell ⟨g', 1, none⟩ u1).setCell ⟨g', 2, none⟩ u2).setCell ⟨g', 3, none⟩ u3 = ws) (hw10 : ws.alloc (.cells #[.int .i64 x, .int .i64 y, .int .i64 z] t3) = w10) :
    (ws.cell? ⟨g, 0, none⟩ = some (.int .i64 a) ∧ ws.cell? ⟨g, 1, none⟩ = some (.int .i64 b) ∧ ws.cell? ⟨g, 2, none⟩ = some (.int .i64 c) ∧ ws.cell? ⟨g, 3, none⟩ = some (.int .i64 d)) ∧
    (w10.cell? ⟨g, 0, none⟩ = some (.int .i64 a) ∧ w10.cell? ⟨g, 1, none⟩ = some (.int .i64 b) ∧ w10.cell? ⟨g, 2, none⟩ = some (.int .i64 c) ∧ w10.cell? ⟨g, 3, none⟩ = some (.int .i64 d)) ∧
    (w10.cell? ⟨g', 0, none⟩ = some u0 ∧ w10.cell? ⟨g', 1, none⟩ = some u1 ∧ w10.cell? ⟨g', 2, none⟩ = some u2 ∧ w10.cell? ⟨g', 3, none⟩ = some u3) ∧
    ws.heap.size = W.heap.size ∧ Blk w10 W.heap.size t3 #[.int .i64 x, .int .i64 y, .int .i64 z] ∧ Below w.heap.size w w10 := by
  have hs := h.keep4 u0 u1 u2 u3 hne
  have hgl := h.hd.lt
  have hnl := h.tl.hd.lt
  have hgN := (h.blk _ (List.mem_cons_of_mem _ (List.mem_cons_self ..))).2.1
  have y0 := h.tl.hd.set_ 0 u0
  have y1 := y0.set_ 1 u1
  have y2 := y1.set_ 2 u2
  have y3 := y2.set_ 3 u3
  have hbl := (h.tl.fin u0 u1 u2 u3).2
  have hsz : ((((W.setCell ⟨g', 0, none⟩ u0).setCell ⟨g', 1, none⟩ u1).setCell ⟨g', 2, none⟩ u2).setCell ⟨g', 3, none⟩ u3).heap.size = W.heap.size := by simp [World.setCell]
  rw [hws] at hs hbl hsz y3
  simp only [List.setIfInBounds_toArray, List.set_cons_zero, List.set_cons_succ] at y3
  subst hw10
  have hk : ∀ (b i : Nat), b < W.heap.size → (ws.alloc (.cells #[.int .i64 x, .int .i64 y, .int .i64 z] t3)).cell? ⟨b, i, none⟩ = ws.cell? ⟨b, i, none⟩ := fun b i hb => World.cell?_alloc_lt ws _ _ (by simp only; omega)
  refine ⟨hs, ⟨(hk _ _ hgl).trans hs.1, (hk _ _ hgl).trans hs.2.1, (hk _ _ hgl).trans hs.2.2.1, (hk _ _ hgl).trans hs.2.2.2⟩, ⟨(hk _ _ hnl).trans (by rw [y3.cell]; rfl), (hk _ _ hnl).trans (by rw [y3.cell]; rfl), (hk _ _ hnl).trans (by rw [y3.cell]; rfl), (hk _ _ hnl).trans (by rw [y3.cell]; rfl)⟩, hsz, by rw [← hsz]; exact Blk.new ws _ _, hbl.alloc hbl.size _⟩
end Go.Proofs.Ytcekikblgbdcoaa
