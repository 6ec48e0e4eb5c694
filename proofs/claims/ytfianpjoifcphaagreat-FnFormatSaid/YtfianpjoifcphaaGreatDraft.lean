/-
  Drafts: a grid, a shelf, a map, heat and two numbers in one block. Plain.
-/
import Derived.Test.YtfianpjoifcphaaGreatG6
import Derived.Test.YtfianpjoifcphaaGreatImpZ2
import Derived.Test.YtfianpjoifcphaaGreatImpO2
import Derived.Great.FillDense
import Derived.Laws.Tables
namespace Go.Proofs.YtfianpjoifcphaaGreat
open Go.RowKit
set_option linter.unusedVariables false
set_option maxRecDepth 100000

/-- a draft's cells behind those of its grid -/
def dtail (b : Nat) (q : Vq) : List Value := [.map (some b), .slice q.mA q.mn q.mc, .slice q.hA q.hn q.hc, .int .i64 q.seq, .int .i64 q.zone]
def dcells (W : List Int) (M : List Mk) (b : Nat) (q : Vq) : List Value := gcells W M ++ dtail b q
section
variable {W : List Int} {M : List Mk} {b : Nat} {q : Vq}
theorem dcells_length (h : GrOk W M) : (dcells W M b q).length = 273 := by unfold dcells dtail; rw [List.length_append, gcells_length h]; rfl
theorem dcells_one : ∀ u ∈ dcells W M b q, u.oneCell' = true := by
  intro u hu
  rcases List.mem_append.1 hu with hu | hu
  · exact gcells_one u hu
  · simp only [dtail, List.mem_cons, List.not_mem_nil, or_false] at hu
    rcases hu with rfl | rfl | rfl | rfl | rfl <;> rfl
theorem dcells_grid (h : GrOk W M) {j : Nat} (hj : j < 268) : (dcells W M b q)[j]? = (gcells W M)[j]? := by
  unfold dcells
  rw [List.getElem?_append_left (by rw [gcells_length h]; exact hj)]
theorem dcells_tail (h : GrOk W M) (j : Nat) : (dcells W M b q)[268 + j]? = (dtail b q)[j]? := by
  unfold dcells
  rw [List.getElem?_append_right (by rw [gcells_length h]; omega), gcells_length h]
  congr 1
  omega
end

theorem fill_one (off : Nat) (v : Value) (hv : v.cells = #[v]) (place : Nat → Option (Nat × Nat)) (cs : Array Value) (i : Nat) (rest : List (Nat × Value)) (hp : place i = some (off, 1)) (hl : off < cs.size) :
    Instr.fill place cs ((i, v) :: rest) = Instr.fill place (cs.setIfInBounds off v) rest := by
  show (match place i with | none => none | some (off, size) => _) = _
  rw [hp]
  simp only [hv]
  rw [if_neg (by simp; omega)]
  rfl
theorem fill_first (G : List Value) (place : Nat → Option (Nat × Nat)) (z : Array Value) (rest : List (Nat × Value)) (hp : place 0 = some (0, G.length)) (hl : G.length ≤ z.size) :
    Instr.fill place z ((0, .agg G.toArray) :: rest) = Instr.fill place ((G.zipIdx 0).foldl (fun cs (x : Value × Nat) => cs.setIfInBounds (0 + x.2) x.1) z) rest := by
  show (match place 0 with | none => none | some (off, size) => _) = _
  have e : (Value.agg G.toArray).cells = G.toArray := rfl
  rw [hp]
  simp only [e]
  rw [if_neg (by simp; omega)]
  congr 1
  simp
theorem fill_nil (place : Nat → Option (Nat × Nat)) (cs : Array Value) : Instr.fill place cs [] = some cs := rfl
theorem five_of {z : List Value} (h : z.length = 5) : ∃ u1 u2 u3 u4 u5, z = [u1, u2, u3, u4, u5] := by
  match z, h with
  | [a, b, c, d, e], _ => exact ⟨a, b, c, d, e, rfl⟩
theorem fill_draft (place : Nat → Option (Nat × Nat)) (G z : List Value) (hG : G.length = 268) (hz : z.length = 273) (p0 : place 0 = some (0, 268)) (p1 : place 1 = some (268, 1)) (p2 : place 2 = some (269, 1)) (p3 : place 3 = some (270, 1)) (p4 : place 4 = some (271, 1)) (p5 : place 5 = some (272, 1))
    (a1 a2 a3 a4 a5 : Value) (h1 : a1.cells = #[a1]) (h2 : a2.cells = #[a2]) (h3 : a3.cells = #[a3]) (h4 : a4.cells = #[a4]) (h5 : a5.cells = #[a5]) :
    Instr.fill place z.toArray [(0, .agg G.toArray), (1, a1), (2, a2), (3, a3), (4, a4), (5, a5)] = some (G ++ [a1, a2, a3, a4, a5]).toArray := by
  obtain ⟨g1, g2⟩ := Go.Great.foldl_set 0 G 0 z.toArray
  rw [fill_first G place z.toArray _ (by rw [hG]; exact p0) (by simp; omega)]
  generalize (G.zipIdx 0).foldl (fun cs (x : Value × Nat) => cs.setIfInBounds (0 + x.2) x.1) z.toArray = r at g1 g2
  have hr : r.size = 273 := by rw [g1]; simp [hz]
  rw [fill_one 268 a1 h1 place _ _ _ p1 (by omega), fill_one 269 a2 h2 place _ _ _ p2 (by simp; omega), fill_one 270 a3 h3 place _ _ _ p3 (by simp; omega), fill_one 271 a4 h4 place _ _ _ p4 (by simp; omega), fill_one 272 a5 h5 place _ _ _ p5 (by simp; omega)]
  rw [fill_nil]
  refine congrArg some ?_
  obtain ⟨u1, u2, u3, u4, u5, hu⟩ := five_of (z := z.drop 268) (by rw [List.length_drop]; omega)
  have hr2 : r = (G ++ [u1, u2, u3, u4, u5]).toArray := by
    rw [← hu]
    apply Array.ext_getElem?
    intro k
    rw [g2 k, List.getElem?_toArray, List.getElem?_toArray]
    by_cases hk : k < 268
    · rw [List.getElem?_append_left (by omega), if_pos ⟨by omega, by omega, by simp; omega⟩]
      simp
    · rw [List.getElem?_append_right (by omega), hG, if_neg (by omega), List.getElem?_drop, show 268 + (k - 268) = k by omega]
  rw [hr2]
  clear g1 g2 hr hr2 hu
  simp only [List.setIfInBounds_toArray]
  rw [List.set_append_right _ _ (by omega), List.set_append_right _ _ (by omega), List.set_append_right _ _ (by omega), List.set_append_right _ _ (by omega), List.set_append_right _ _ (by omega), hG]
  rfl

/-- the zero draft, by a name that the walk does not open -/
def ZDL : List Value := gcells zeroW zeroM ++ [.map none, .slice none 0 0, .slice none 0 0, .int .i64 0, .int .i64 0]
def ZD : Array Value := ZDL.toArray
theorem ZDL_length : ZDL.length = 273 := by unfold ZDL; rw [List.length_append, gcells_length zeroOk]; rfl
theorem draftInfo : (Tryz.prog.info? 81).map (fun i => (i.zero, i.size)) = some (some (.agg ZD), 273) := by kernel_rfl
theorem draftI : (Tryz.prog.info? 81).map (·.size) = some 273 := by kernel_rfl
theorem built_of {P : Program} {t : TypeId} {it : TypeInfo} {fields : Array Field} {z : Value} {places : List (Nat × Nat)} (hi : P.info? t = some it) (hu : P.underlying t = some (.struct fields)) (hz : it.zero = some z)
    (hp : fields.toList.mapM (fun f => (P.info? f.type).map fun i => (f.offset, i.size)) = some places) (parts : List (Nat × Value)) (cells : Array Value) (hf : Instr.fill (places.toArray[·]?) z.cells parts = some cells) : P.built t parts = some cells := by
  unfold Program.built
  rw [hi, hu]
  simp only [hz, hp]
  exact hf
theorem draft_places : ∃ fields, Tryz.prog.underlying 81 = some (.struct fields) ∧ fields.toList.mapM (fun f => (Tryz.prog.info? f.type).map fun i => (f.offset, i.size)) = some [(0, 268), (268, 1), (269, 1), (270, 1), (271, 1), (272, 1)] :=
  ⟨_, Tryz.underlying81, by kernel_rfl⟩
theorem run_build_draft {W : List Int} {M : List Mk} (h : GrOk W M) (b : Nat) (q : Vq) (w : World) :
    (Instr.build 81 #[(0, .agg (gcells W M).toArray), (1, .map (some b)), (2, .slice q.mA q.mn q.mc), (3, .slice q.hA q.hn q.hc), (4, .int .i64 q.seq), (5, .int .i64 q.zone)]).run Tryz.prog w = .ok (.agg (dcells W M b q).toArray) w := by
  obtain ⟨fields, hu, hp⟩ := draft_places
  obtain ⟨it, hi, hz⟩ : ∃ it, Tryz.prog.info? 81 = some it ∧ it.zero = some (.agg ZD) := by
    have := draftInfo
    rcases e : Tryz.prog.info? 81 with _ | it
    · rw [e] at this; cases this
    · rw [e] at this
      simp only [Option.map_some, Option.some.injEq, Prod.mk.injEq] at this
      exact ⟨it, rfl, this.1⟩
  refine run_build w _ _ _ (built_of hi hu hz hp _ _ ?_)
  exact fill_draft _ (gcells W M) ZDL (gcells_length h) ZDL_length rfl rfl rfl rfl rfl rfl _ _ _ _ _ rfl rfl rfl rfl rfl
theorem wpList_alloc_draft {ops : Array Oper} {rest : List Oper} {o : Oper} {a : Act} {w : World} {Q : Exit → Act → World → Prop} (hgd : o.guard = none) (ho : o.op = .alloc 81)
    (h : wpList Tryz.prog ops Q rest (a.put o.dst (.pointer (some ⟨w.heap.size, 0, none⟩))) (w.alloc (.cells ZD 81))) : wpList Tryz.prog ops Q (o :: rest) a w := by
  refine wpList_plain hgd fun K hK => ?_
  have hz := (zero_of_info draftInfo).1 w
  have hrun : (Instr.alloc 81 true (.tuple #[])).run Tryz.prog w = .ok (.pointer (some ⟨w.heap.size, 0, none⟩)) (w.alloc (.cells ZD 81)) := by
    simp [Instr.alloc, Sem.run_bind, hz, newVar, newRow, Value.cells, Result.andThen]
  unfold Oper.wp execOp
  simp only [ho, Sem.run_bind, Sem.run_pure, Result.andThen_ok, hrun]
  exact hK _ _ h
theorem wpList_build_draft {ops : Array Oper} {rest : List Oper} {o : Oper} {a : Act} {w : World} {Q : Exit → Act → World → Prop} (hgd : o.guard = none) (x0 x1 x2 x3 x4 x5 : Operand) (ho : o.op = .build 81 #[(0, x0), (1, x1), (2, x2), (3, x3), (4, x4), (5, x5)])
    {W : List Int} {M : List Mk} (hg : GrOk W M) (b : Nat) (q : Vq) (e0 : a.eval x0 = .agg (gcells W M).toArray) (e1 : a.eval x1 = .map (some b)) (e2 : a.eval x2 = .slice q.mA q.mn q.mc) (e3 : a.eval x3 = .slice q.hA q.hn q.hc) (e4 : a.eval x4 = .int .i64 q.seq) (e5 : a.eval x5 = .int .i64 q.zone)
    (h : wpList Tryz.prog ops Q rest (a.put o.dst (.agg (dcells W M b q).toArray)) w) : wpList Tryz.prog ops Q (o :: rest) a w := by
  refine wpList_plain hgd fun K hK => ?_
  have hrun := run_build_draft hg b q w
  unfold Oper.wp execOp
  simp only [ho, Sem.run_bind, Sem.run_pure, Result.andThen_ok, List.map_toArray, List.map_cons, List.map_nil, e0, e1, e2, e3, e4, e5, hrun]
  exact hK _ _ h
end Go.Proofs.YtfianpjoifcphaaGreat
