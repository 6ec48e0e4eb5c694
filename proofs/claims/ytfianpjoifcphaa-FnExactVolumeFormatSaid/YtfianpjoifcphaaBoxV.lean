/-
  A volume in a block of its own: six cells; six stores. Plain.
-/
import Derived.Test.YtfianpjoifcphaaVolI
import Derived.Test.YtfianpjoifcphaaGrid
namespace Go.Proofs.Ytfianpjoifcphaa
open Go.RowKit
set_option linter.unusedVariables false
set_option maxRecDepth 100000

/-- the cells of a volume that is kept in a block -/
def boxV (q : Vq) : Array Value := #[.slice q.dA q.dn q.dc, .slice q.sA q.sn q.sc, .slice q.mA q.mn q.mc, .slice q.hA q.hn q.hc, .int .i64 q.seq, .int .i64 q.zone]
theorem box_cells {W : World} {g : Nat} {t : TypeId} {q : Vq} (h : Blk W g t (boxV q)) : W.cell? ⟨g, 0, none⟩ = some (.slice q.dA q.dn q.dc) ∧ W.cell? ⟨g, 1, none⟩ = some (.slice q.sA q.sn q.sc) ∧
    W.cell? ⟨g, 2, none⟩ = some (.slice q.mA q.mn q.mc) ∧ W.cell? ⟨g, 3, none⟩ = some (.slice q.hA q.hn q.hc) ∧ W.cell? ⟨g, 4, none⟩ = some (.int .i64 q.seq) ∧ W.cell? ⟨g, 5, none⟩ = some (.int .i64 q.zone) :=
  ⟨by rw [h.cell]; rfl, by rw [h.cell]; rfl, by rw [h.cell]; rfl, by rw [h.cell]; rfl, by rw [h.cell]; rfl, by rw [h.cell]; rfl⟩
/-- six stores: the result -/
def put6 (W : World) (g : Nat) (p : Vq) : World :=
  (((((W.setCell ⟨g, 0, none⟩ (.slice p.dA p.dn p.dc)).setCell ⟨g, 1, none⟩ (.slice p.sA p.sn p.sc)).setCell ⟨g, 2, none⟩ (.slice p.mA p.mn p.mc)).setCell ⟨g, 3, none⟩ (.slice p.hA p.hn p.hc)).setCell ⟨g, 4, none⟩ (.int .i64 p.seq)).setCell ⟨g, 5, none⟩ (.int .i64 p.zone)
theorem grown6 (w : World) (g : Nat) (p : Vq) : w.grownBy (put6 w g p) (some g) := by
  have s : ∀ (w0 w1 : World) (i : Nat) (u : Value), w0.grownBy w1 (some g) → w0.grownBy (w1.setCell ⟨g, i, none⟩ u) (some g) := fun w0 w1 i u h =>
    ⟨h.os, h.tape, h.output, by simpa [World.setCell] using h.size, fun q hq hne => (Below.heap_setCell w1 ⟨g, i, none⟩ u q (fun e => hne (by rw [e]))).trans (h.block q hq hne)⟩
  exact s _ _ _ _ (s _ _ _ _ (s _ _ _ _ (s _ _ _ _ (s _ _ _ _ (s _ _ _ _ (grown_refl w _))))))
theorem blk6 {W : World} {g : Nat} {t : TypeId} {p0 : Vq} (h : Blk W g t (boxV p0)) (p : Vq) : Blk (put6 W g p) g t (boxV p) := (((((h.set_ 0 _).set_ 1 _).set_ 2 _).set_ 3 _).set_ 4 _).set_ 5 _
theorem OwnV.put6 {W : World} {base g : Nat} {p p2 : Vq} (h : OwnV W base p) (hg : g < base) : OwnV (put6 W g p2) base p := by
  have hr := grown6 W g p2
  have ne : ∀ {k : Nat}, some g = some k → k = g := fun e => by injection e with e; exact e.symm
  refine ⟨h.dev.kept hr (fun k hk => ?_), h.sto.kept hr (fun k hk => ?_), h.map.kept hr (fun k hk => ?_), h.heat.kept hr (fun k hk => ?_)⟩
  · have := ne hk; subst this
    exact ⟨fun e2 => by have := (h.dev.block _ e2).1; omega, fun j x hx e2 => by have := (h.dev.wblock hx _ e2).1; omega⟩
  · have := ne hk; subst this
    exact ⟨fun e2 => by have := (h.sto.block _ e2).1; omega, fun j x hx e2 => by have := (h.sto.wblock hx _ e2).1; omega⟩
  · have := ne hk; subst this
    exact fun e2 => by have := (h.map.2.block _ e2).1; omega
  · have := ne hk; subst this
    exact fun e2 => by have := (h.heat.block _ e2).1; omega
theorem boxV_one (q : Vq) : ∀ v ∈ (boxV q).toList, v.oneCell' = true := by
  intro v hv
  simp only [boxV, List.mem_cons, List.not_mem_nil, or_false] at hv
  rcases hv with rfl | rfl | rfl | rfl | rfl | rfl <;> rfl
theorem volInfo : (Try.prog.info? 29).map (·.size) = some 6 := by kernel_rfl
/-- a volume stored into its block, and loaded from it -/
theorem wpList_store_vol {ops : Array Oper} {rest : List Oper} {op : Oper} {a : Act} {w : World} {Q : Exit → Act → World → Prop} (hgd : op.guard = none) (x y : Operand) (ho : op.op = .store 29 x y)
    (g : Nat) (hx : a.eval x = .pointer (some ⟨g, 0, none⟩)) (p q : Vq) (hy : a.eval y = q.val) (hg : Blk w g 29 (boxV p))
    (h : ∀ w', Hid (Blk w' g 29 (boxV q)) → w.grownBy w' (some g) → wpList Try.prog ops Q rest (a.put op.dst undef) w') : wpList Try.prog ops Q (op :: rest) a w :=
  wpList_store_blk hgd 29 x y ho g hx 29 (boxV p).toList (boxV q).toList hy hg rfl volInfo (boxV_one q) h
theorem wpList_load_vol {ops : Array Oper} {rest : List Oper} {op : Oper} {a : Act} {w : World} {Q : Exit → Act → World → Prop} (hgd : op.guard = none) (x : Operand) (ho : op.op = .load 29 x)
    (g : Nat) (hx : a.eval x = .pointer (some ⟨g, 0, none⟩)) (q : Vq) (hg : Blk w g 29 (boxV q))
    (h : wpList Try.prog ops Q rest (a.put op.dst q.val) w) : wpList Try.prog ops Q (op :: rest) a w :=
  wpList_load_blk hgd 29 x ho g hx 29 (boxV q).toList _ hg Try.underlying29 rfl volInfo h
theorem Blk.newV (w : World) : Blk (w.alloc (.cells #[.slice none 0 0, .slice none 0 0, .slice none 0 0, .slice none 0 0, .int .i64 0, .int .i64 0] 29)) w.heap.size 29 (boxV vq0) := Blk.new w 29 (boxV vq0)
end Go.Proofs.Ytfianpjoifcphaa
