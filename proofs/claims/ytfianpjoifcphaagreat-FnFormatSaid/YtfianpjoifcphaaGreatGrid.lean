/-
  Grids: 256 words and four marks in one block; the device that a grid is; whole blocks that are read and written. Plain.
-/
import Derived.Test.YtfianpjoifcphaaGreatG1
import Derived.Laws.CopyOwn
import Derived.Deep.WholeRow
namespace Go.Proofs.YtfianpjoifcphaaGreat
open Go.RowKit
set_option linter.unusedVariables false
set_option maxRecDepth 100000

/-- a mark: how many words, how many of them last, closed -/
abbrev Mk := Int × Int × Bool
def mksV : List Mk → List Value
  | [] => []
  | m :: ms => .int .i64 m.1 :: .int .i64 m.2.1 :: .bool m.2.2 :: mksV ms
/-- the cells of a grid -/
def gcells (W : List Int) (M : List Mk) : List Value := W.map (.int .i64) ++ mksV M
structure GrOk (W : List Int) (M : List Mk) : Prop where
  words : W.length = 256
  marks : M.length = 4
  room : ∀ m ∈ M, 0 ≤ m.1 ∧ m.1 ≤ 64
/-- a grid's zone -/
def zoneG (W : List Int) (k : Nat) (m : Mk) : List Int × Int × Bool := ((W.drop (k * 64)).take m.1.toNat, m.2.1, m.2.2)
def devG (W : List Int) (M : List Mk) : Dev := M.mapIdx fun k m => zoneG W k m

theorem mksV_length (M : List Mk) : (mksV M).length = M.length * 3 := by
  induction M with
  | nil => rfl
  | cons m ms ih => simp only [mksV, List.length_cons, ih]; omega
theorem mksV_one (M : List Mk) : ∀ u ∈ mksV M, u.oneCell' = true := by
  induction M with
  | nil => simp [mksV]
  | cons m ms ih =>
    intro u hu
    simp only [mksV, List.mem_cons] at hu
    rcases hu with rfl | rfl | rfl | hu
    · rfl
    · rfl
    · rfl
    · exact ih u hu
theorem mksV_get {M : List Mk} {k : Nat} {m : Mk} (h : M[k]? = some m) : (mksV M)[k * 3]? = some (.int .i64 m.1) ∧ (mksV M)[k * 3 + 1]? = some (.int .i64 m.2.1) ∧ (mksV M)[k * 3 + 2]? = some (.bool m.2.2) := by
  induction M generalizing k with
  | nil => simp at h
  | cons r ms ih =>
    rcases k with _ | k
    · simp at h
      subst h
      exact ⟨rfl, rfl, rfl⟩
    · simp at h
      have := ih h
      rw [show (k + 1) * 3 = k * 3 + 1 + 1 + 1 by omega, show k * 3 + 1 + 1 + 1 + 1 = (k * 3 + 1) + 1 + 1 + 1 by omega, show k * 3 + 1 + 1 + 1 + 2 = (k * 3 + 2) + 1 + 1 + 1 by omega]
      simpa [mksV] using this
theorem mksV_set {M : List Mk} {k : Nat} {m : Mk} (h : M[k]? = some m) (a b : Int) (c : Bool) :
    (mksV M).set (k * 3) (.int .i64 a) = mksV (M.set k (a, m.2.1, m.2.2)) ∧ (mksV M).set (k * 3 + 1) (.int .i64 b) = mksV (M.set k (m.1, b, m.2.2)) ∧ (mksV M).set (k * 3 + 2) (.bool c) = mksV (M.set k (m.1, m.2.1, c)) := by
  induction M generalizing k with
  | nil => simp at h
  | cons r ms ih =>
    rcases k with _ | k
    · simp at h
      subst h
      exact ⟨rfl, rfl, rfl⟩
    · simp at h
      have := ih h
      rw [show (k + 1) * 3 = k * 3 + 1 + 1 + 1 by omega, show k * 3 + 1 + 1 + 1 + 1 = (k * 3 + 1) + 1 + 1 + 1 by omega, show k * 3 + 1 + 1 + 1 + 2 = (k * 3 + 2) + 1 + 1 + 1 by omega]
      simpa [mksV] using this
section
variable {W : List Int} {M : List Mk}
theorem gcells_length (h : GrOk W M) : (gcells W M).length = 268 := by unfold gcells; rw [List.length_append, List.length_map, mksV_length, h.words, h.marks]
theorem gcells_one : ∀ u ∈ gcells W M, u.oneCell' = true := by
  intro u hu
  rcases List.mem_append.1 hu with hu | hu
  · obtain ⟨x, _, rfl⟩ := List.mem_map.1 hu; rfl
  · exact mksV_one M u hu
theorem gcells_word (h : GrOk W M) {j : Nat} (hj : j < 256) : (gcells W M)[j]? = some (.int .i64 (W.getD j 0)) := by
  have hl : j < W.length := by rw [h.words]; exact hj
  unfold gcells
  rw [List.getElem?_append_left (by simpa using hl)]
  simp [List.getD, hl]
theorem gcells_mark (h : GrOk W M) {k : Nat} {m : Mk} (hm : M[k]? = some m) :
    (gcells W M)[256 + k * 3]? = some (.int .i64 m.1) ∧ (gcells W M)[256 + k * 3 + 1]? = some (.int .i64 m.2.1) ∧ (gcells W M)[256 + k * 3 + 2]? = some (.bool m.2.2) := by
  have e : ∀ j, (gcells W M)[256 + j]? = (mksV M)[j]? := fun j => by
    unfold gcells
    rw [List.getElem?_append_right (by rw [List.length_map, h.words]; omega), List.length_map, h.words]
    congr 1
    omega
  obtain ⟨h0, h1, h2⟩ := mksV_get hm
  exact ⟨(e _).trans h0, (Nat.add_assoc 256 (k * 3) 1 ▸ (e (k * 3 + 1)).trans h1), (Nat.add_assoc 256 (k * 3) 2 ▸ (e (k * 3 + 2)).trans h2)⟩
theorem gcells_set (h : GrOk W M) {k : Nat} {m : Mk} (hm : M[k]? = some m) (a b : Int) (c : Bool) :
    (gcells W M).set (256 + k * 3) (.int .i64 a) = gcells W (M.set k (a, m.2.1, m.2.2)) ∧ (gcells W M).set (256 + k * 3 + 1) (.int .i64 b) = gcells W (M.set k (m.1, b, m.2.2)) ∧
      (gcells W M).set (256 + k * 3 + 2) (.bool c) = gcells W (M.set k (m.1, m.2.1, c)) := by
  have e : ∀ j v, (gcells W M).set (256 + j) v = W.map (.int .i64) ++ (mksV M).set j v := fun j v => by
    unfold gcells
    rw [List.set_append_right _ _ (by rw [List.length_map, h.words]; omega), List.length_map, h.words]
    congr 2
    omega
  obtain ⟨h0, h1, h2⟩ := mksV_set hm a b c
  refine ⟨?_, ?_, ?_⟩
  · rw [e, h0]; rfl
  · rw [Nat.add_assoc, e, h1]; rfl
  · rw [Nat.add_assoc, e, h2]; rfl
theorem GrOk.set (h : GrOk W M) (k : Nat) {m : Mk} (hm : 0 ≤ m.1 ∧ m.1 ≤ 64) : GrOk W (M.set k m) :=
  ⟨h.words, by rw [List.length_set]; exact h.marks, fun r hr => by
    rcases List.mem_or_eq_of_mem_set hr with hr | rfl
    · exact h.room r hr
    · exact hm⟩
theorem GrOk.at_ (h : GrOk W M) {k : Nat} (hk : k < 4) : ∃ m, M[k]? = some m ∧ 0 ≤ m.1 ∧ m.1 ≤ 64 := by
  have hl : k < M.length := by rw [h.marks]; exact hk
  exact ⟨M[k], List.getElem?_eq_getElem hl, h.room _ (List.getElem_mem hl)⟩
theorem devG_get {k : Nat} {m : Mk} (hm : M[k]? = some m) : (devG W M)[k]? = some (zoneG W k m) := by unfold devG; rw [List.getElem?_mapIdx, hm]; rfl
theorem devG_length : (devG W M).length = M.length := by unfold devG; rw [List.length_mapIdx]
theorem devG_set (k : Nat) (m : Mk) : devG W (M.set k m) = (devG W M).set k (zoneG W k m) := by
  apply List.ext_getElem?
  intro i
  unfold devG
  rw [List.getElem?_mapIdx, List.getElem?_set, List.getElem?_set, List.length_mapIdx, List.getElem?_mapIdx]
  by_cases e : k = i
  · subst e
    by_cases hl : k < M.length <;> simp [hl]
  · simp [e]
theorem splice_getElem? {α : Type} (L : List α) (off : Nat) (cs : List α) (h : off + cs.length ≤ L.length) (i : Nat) :
    (splice L off cs)[i]? = if i < off then L[i]? else if i < off + cs.length then cs[i - off]? else L[i]? := by
  unfold splice
  by_cases h1 : i < off
  · rw [if_pos h1, List.getElem?_append_left (by rw [List.length_take]; omega), List.getElem?_take_of_lt h1]
  · rw [if_neg h1, List.getElem?_append_right (by rw [List.length_take]; omega), List.length_take, Nat.min_eq_left (by omega)]
    by_cases h2 : i < off + cs.length
    · rw [if_pos h2, List.getElem?_append_left (by omega)]
    · rw [if_neg h2, List.getElem?_append_right (by omega), List.getElem?_drop]
      congr 1
      omega
theorem splice_gcells (h : GrOk W M) (off : Nat) (ws : List Int) (hl : off + ws.length ≤ 256) : splice (gcells W M) off (ws.map (Value.int .i64)) = gcells (splice W off ws) M := by
  unfold splice gcells
  rw [List.take_append_of_le_length (by rw [List.length_map, h.words]; omega), List.length_map, List.drop_append_of_le_length (by rw [List.length_map, h.words]; omega)]
  simp [List.map_take, List.map_drop]
theorem GrOk.splice (h : GrOk W M) (off : Nat) (ws : List Int) (hl : off + ws.length ≤ 256) : GrOk (splice W off ws) M := ⟨by rw [length_splice _ _ _ (by rw [h.words]; exact hl)]; exact h.words, h.marks, h.room⟩
/-- words laid into zone k behind its words -/
theorem zoneG_splice (h : GrOk W M) {k i n : Nat} (m : Mk) (ws : List Int) (hk : k < 4) (hi : i < 4) (hm : 0 ≤ m.1 ∧ m.1 ≤ 64) (hn : n + ws.length ≤ 64) (hki : i = k → m.1 ≤ n) : zoneG (splice W (k * 64 + n) ws) i m = zoneG W i m := by
  unfold zoneG
  congr 1
  apply List.ext_getElem?
  intro j
  rw [List.getElem?_take, List.getElem?_take]
  by_cases hj : j < m.1.toNat
  · rw [if_pos hj, if_pos hj, List.getElem?_drop, List.getElem?_drop, splice_getElem? _ _ _ (by rw [h.words]; omega)]
    by_cases h1 : i * 64 + j < k * 64 + n
    · rw [if_pos h1]
    · rw [if_neg h1, if_neg]
      by_cases e : i = k
      · have := hki e; subst e; omega
      · omega
  · rw [if_neg hj, if_neg hj]
theorem zoneG_splice_at (h : GrOk W M) {k n : Nat} (ws : List Int) (sy : Int) (fu : Bool) (hk : k < 4) (hn : n + ws.length ≤ 64) :
    zoneG (splice W (k * 64 + n) ws) k ((n : Int) + ws.length, sy, fu) = ((W.drop (k * 64)).take n ++ ws, sy, fu) := by
  unfold zoneG
  congr 1
  apply List.ext_getElem?
  intro j
  have hT : ((n : Int) + (ws.length : Int)).toNat = n + ws.length := by omega
  rw [hT, List.getElem?_take]
  have hl : ((W.drop (k * 64)).take n).length = n := by rw [List.length_take, List.length_drop, h.words]; omega
  by_cases hj : j < n + ws.length
  · rw [if_pos hj, List.getElem?_drop, splice_getElem? _ _ _ (by rw [h.words]; omega)]
    by_cases h1 : j < n
    · rw [if_pos (by omega), List.getElem?_append_left (by omega), List.getElem?_take_of_lt h1, List.getElem?_drop]
    · rw [if_neg (by omega), if_pos (by omega), List.getElem?_append_right (by omega), hl]
      congr 1
      omega
  · rw [if_neg hj, List.getElem?_eq_none (by rw [List.length_append, hl]; omega)]
end

/-! ### Whole blocks -/
/-- a block's cells, all written -/
theorem wpList_store_blk {P : Program} {ops : Array Oper} {rest : List Oper} {op : Oper} {a : Act} {w : World} {Q : Exit → Act → World → Prop} (hgd : op.guard = none) (ty : TypeId) (x y : Operand) (ho : op.op = .store ty x y)
    (g : Nat) (hx : a.eval x = .pointer (some ⟨g, 0, none⟩)) (t : TypeId) (cur cells : List Value) (hy : a.eval y = .agg cells.toArray) (hg : Blk w g t cur.toArray) (hl : cells.length = cur.length)
    (hi : (P.info? ty).map (·.size) = some cells.length) (h1 : ∀ v ∈ cells, v.oneCell' = true)
    (h : ∀ w', Hid (Blk w' g t cells.toArray) → w.grownBy w' (some g) → wpList P ops Q rest (a.put op.dst undef) w') : wpList P ops Q (op :: rest) a w := by
  refine wpList_plain hgd fun K hK => ?_
  have hrun := run_storeVar_row (P := P) w g t ty cur.toArray cells.toArray hg (by simpa using hi) (by simp [hl]) (by simpa using h1)
  unfold Oper.wp execOp
  simp only [ho, hx, hy, Instr.storeAt, Instr.sureAddr, Sem.run_bind, Sem.run_pure, Result.andThen_ok, hrun]
  exact hK _ _ (h _ (setRow_heap w g _ _ t _ hg) ⟨rfl, rfl, rfl, by simp [World.setRow], fun k hk hne => setRow_other w g k _ (fun e => hne (by rw [e]))⟩)

theorem wpList_load_blk {P : Program} {ops : Array Oper} {rest : List Oper} {op : Oper} {a : Act} {w : World} {Q : Exit → Act → World → Prop} (hgd : op.guard = none) (ty : TypeId) (x : Operand) (ho : op.op = .load ty x)
    (g : Nat) (hx : a.eval x = .pointer (some ⟨g, 0, none⟩)) (t : TypeId) (cells : List Value) (d : TypeDesc) (hg : Blk w g t cells.toArray)
    (hu : P.underlying ty = some d) (hd : (match d with | .struct _ | .array _ _ => true | _ => false) = true) (hi : (P.info? ty).map (·.size) = some cells.length)
    (h : wpList P ops Q rest (a.put op.dst (.agg cells.toArray)) w) : wpList P ops Q (op :: rest) a w :=
  wpList_load_row hgd ty x ho g hx t cells.toArray (0, 0) d hg hu hd (by simpa using hi) h

/-- a result that lies in a block, and one in a slot -/
theorem results_blk2 {P : Program} {fn : Func} {p q : Tmp} {ty : TypeId} (h : fn.results = #[.cell p ty, .tmp q]) (tmps : Array Value) (w : World) (g : Nat) (t : TypeId) (cells : List Value) (d : TypeDesc)
    (hp : tmps.getD p undef = .pointer (some ⟨g, 0, none⟩)) (hg : Blk w g t cells.toArray)
    (hu : P.underlying ty = some d) (hd : (match d with | .struct _ | .array _ _ => true | _ => false) = true) (hi : (P.info? ty).map (·.size) = some cells.length) :
    (results fn tmps).run P w = .ok (.tuple #[.agg cells.toArray, tmps.getD q undef]) w := by
  have hp' : tmps[p]?.getD undef = .pointer (some ⟨g, 0, none⟩) := by simpa using hp
  simp [results, h, hp', asAddr, run_loadVar_row w g t ty cells.toArray (0, 0) d hg hu hd (by simpa using hi)]

/-- 'copy(row[off:], src)' as one step of a region that draws its order, the row in a block that is known whole -/
theorem copy_blk {P : Program} {o : Oper} {a : Act} {w : World} {K : Act → World → Prop} {Q : Exit → Act → World → Prop} (d s : Operand) (dT sT : TypeId)
    (ho : o.op = .call { callee := .builtin .copy, args := #[d, s], argTypes := #[dT, sT] }) (elem : TypeId) (hu : P.underlying dT = some (.slice elem)) (hsz : (P.info? elem).map (·.size) = some 1)
    (dp sp : Option Addr) (dLen dCap sLen sCap : Nat) (hd : a.eval d = .slice dp dLen dCap) (hs : a.eval s = .slice sp sLen sCap)
    (g off : Nat) (cur : List Value) (t : TypeId) (hg : Blk w g t cur.toArray) (cs : List Value) (hn : cs.length = Nat.min sLen dLen)
    (hpos : 0 < cs.length → dp = some ⟨g, off, none⟩ ∧ ∃ ad, sp = some ad ∧ ∀ j v, cs[j]? = some v → w.cell? (ad.add j) = some v)
    (hfit : off + cs.length ≤ cur.length) (h1 : ∀ v ∈ cs, v.oneCell' = true)
    (h : ∀ w', Hid (Blk w' g t (splice cur off cs).toArray) → w.grownBy w' (some g) → K (a.put o.dst (goInt cs.length)) w') : Oper.wp P o a w K Q := by
  by_cases h0 : cs.length = 0
  · obtain rfl : cs = [] := List.eq_nil_of_length_eq_zero h0
    have hrun := run_copy_none (P := P) w dT sT o.type elem dp sp dLen dCap sLen sCap hu hsz (by simpa using hn.symm)
    unfold Oper.wp
    simp [execOp, ho, resolve, invoke, builtin, hd, hs, hrun, Result.andThen]
    exact h w (show Blk _ _ _ _ by simpa [splice] using hg) (grown_refl w _)
  · obtain ⟨rfl, ad, rfl, hsrc⟩ := hpos (by omega)
    have hrun := run_copy_row (P := P) w dT sT o.type elem g off dLen dCap ad sLen sCap cur.toArray t cs hu hsz hg hn hsrc (by simpa using hfit) h1
    unfold Oper.wp
    simp [execOp, ho, resolve, invoke, builtin, hd, hs, hrun, Result.andThen]
    exact h _ (show Blk _ _ _ _ by unfold Blk; simpa [splice] using setRow_heap w g _ _ t _ hg) ⟨rfl, rfl, rfl, by simp [World.setRow], fun k hk hne => setRow_other w g k _ (fun e => hne (by rw [e]))⟩
theorem step_copy_blk {P : Program} {ops : Array Oper} {o : Oper} {a : Act} {w : World} {K : Act → World → Prop} {Q : Exit → Act → World → Prop} {E : Prop} (hgd : o.guard = none) (d s : Operand) (dT sT : TypeId)
    (ho : o.op = .call { callee := .builtin .copy, args := #[d, s], argTypes := #[dT, sT] }) (elem : TypeId) (hu : P.underlying dT = some (.slice elem)) (hsz : (P.info? elem).map (·.size) = some 1)
    (dp sp : Option Addr) (dLen dCap sLen sCap : Nat) (hd : a.eval d = .slice dp dLen dCap) (hs : a.eval s = .slice sp sLen sCap)
    (g off : Nat) (cur : List Value) (t : TypeId) (hg : Blk w g t cur.toArray) (cs : List Value) (hn : cs.length = Nat.min sLen dLen)
    (hpos : 0 < cs.length → dp = some ⟨g, off, none⟩ ∧ ∃ ad, sp = some ad ∧ ∀ j v, cs[j]? = some v → w.cell? (ad.add j) = some v)
    (hfit : off + cs.length ≤ cur.length) (h1 : ∀ v ∈ cs, v.oneCell' = true)
    (h : ∀ w', Hid (Blk w' g t (splice cur off cs).toArray) → w.grownBy w' (some g) → K (a.put o.dst (goInt cs.length)) w') :
    if Region.wanted o (yielded ops a.tmps) = true then Oper.wp P o a w K Q else E := by
  have hw : Region.wanted o (yielded ops a.tmps) = true := by simp [Region.wanted, hgd]
  rw [if_pos hw]
  exact copy_blk d s dT sT ho elem hu hsz dp sp dLen dCap sLen sCap hd hs g off cur t hg cs hn hpos hfit h1 h

/-- what a copy of words asks -/
theorem words_src {w : World} {B m : Nat} {A : Option Addr} {ws : List Int} (h : Ints w B A m ws) (dp : Option Addr) (g off : Nat) (hd : dp = some ⟨g, off, none⟩) :
    0 < (ws.map (Value.int .i64)).length → dp = some ⟨g, off, none⟩ ∧ ∃ ad, A = some ad ∧ ∀ j v, (ws.map (Value.int .i64))[j]? = some v → w.cell? (ad.add j) = some v := by
  intro hp
  rw [List.length_map, h.1] at hp
  obtain ⟨ad, e, _, hc⟩ := h.2 hp
  refine ⟨hd, ad, e, fun j v hv => ?_⟩
  have hj : j < ws.length := by
    rcases Nat.lt_or_ge j ws.length with hl | hl
    · exact hl
    · rw [List.getElem?_eq_none (by simpa using hl)] at hv; cases hv
  rw [hc j (by rw [← h.1]; exact hj)]
  simp [hj] at hv
  rw [← hv]
  simp [List.getD, hj]
theorem ints_one (ws : List Int) : ∀ v ∈ ws.map (Value.int .i64), v.oneCell' = true := by
  intro v hv
  obtain ⟨x, _, rfl⟩ := List.mem_map.1 hv
  rfl

/-- a grid in a block -/
def GB (w : World) (g : Nat) (W : List Int) (M : List Mk) : Prop := Blk w g 77 (gcells W M).toArray ∧ GrOk W M
theorem GB.mark {w : World} {g k : Nat} {W : List Int} {M : List Mk} {m : Mk} (h : GB w g W M) (hm : M[k]? = some m) :
    w.cell? ⟨g, 256 + k * 3, none⟩ = some (.int .i64 m.1) ∧ w.cell? ⟨g, 256 + k * 3 + 1, none⟩ = some (.int .i64 m.2.1) ∧ w.cell? ⟨g, 256 + k * 3 + 2, none⟩ = some (.bool m.2.2) := by
  obtain ⟨h0, h1, h2⟩ := gcells_mark h.2 hm
  refine ⟨?_, ?_, ?_⟩
  · rw [h.1.cell]; simpa using h0
  · rw [h.1.cell]; simpa using h1
  · rw [h.1.cell]; simpa using h2
theorem GB.set0 {w : World} {g k : Nat} {W : List Int} {M : List Mk} {m : Mk} (h : GB w g W M) (hm : M[k]? = some m) (a : Int) (h0 : 0 ≤ a) (h1 : a ≤ 64) : GB (w.setCell ⟨g, 256 + k * 3, none⟩ (.int .i64 a)) g W (M.set k (a, m.2.1, m.2.2)) := by
  refine ⟨?_, h.2.set k ⟨h0, h1⟩⟩
  have := h.1.set_ (256 + k * 3) (.int .i64 a)
  rw [← (gcells_set h.2 hm a 0 false).1]
  simpa using this
theorem GB.set1 {w : World} {g k : Nat} {W : List Int} {M : List Mk} {m : Mk} (h : GB w g W M) (hm : M[k]? = some m) (b : Int) : GB (w.setCell ⟨g, 256 + k * 3 + 1, none⟩ (.int .i64 b)) g W (M.set k (m.1, b, m.2.2)) := by
  refine ⟨?_, h.2.set k (h.2.room m (List.mem_of_getElem? hm))⟩
  have := h.1.set_ (256 + k * 3 + 1) (.int .i64 b)
  rw [← (gcells_set h.2 hm 0 b false).2.1]
  simpa using this
theorem GB.set2 {w : World} {g k : Nat} {W : List Int} {M : List Mk} {m : Mk} (h : GB w g W M) (hm : M[k]? = some m) (c : Bool) : GB (w.setCell ⟨g, 256 + k * 3 + 2, none⟩ (.bool c)) g W (M.set k (m.1, m.2.1, c)) := by
  refine ⟨?_, h.2.set k (h.2.room m (List.mem_of_getElem? hm))⟩
  have := h.1.set_ (256 + k * 3 + 2) (.bool c)
  rw [← (gcells_set h.2 hm 0 0 c).2.2]
  simpa using this
theorem GB.set3 {w : World} {g k : Nat} {W : List Int} {M : List Mk} {m : Mk} (h : GB w g W M) (hm : M[k]? = some m) (a b : Int) (c : Bool) (h0 : 0 ≤ a) (h1 : a ≤ 64) :
    GB (((w.setCell ⟨g, 256 + k * 3, none⟩ (.int .i64 a)).setCell ⟨g, 256 + k * 3 + 1, none⟩ (.int .i64 b)).setCell ⟨g, 256 + k * 3 + 2, none⟩ (.bool c)) g W (M.set k (a, b, c)) := by
  have hl : k < M.length := (List.getElem?_eq_some_iff.1 hm).1
  have p1 := h.set0 hm a h0 h1
  have p2 := p1.set1 (k := k) (m := (a, m.2.1, m.2.2)) (by rw [List.getElem?_set_self hl]) b
  rw [List.set_set] at p2
  have p3 := p2.set2 (k := k) (m := (a, b, m.2.2)) (by rw [List.getElem?_set_self hl]) c
  rw [List.set_set] at p3
  exact p3
theorem GB.far {w w' : World} {g : Nat} {W : List Int} {M : List Mk} {row : Option Nat} (h : GB w g W M) (hb : w.grownBy w' row) (hg : some g ≠ row) : GB w' g W M := ⟨h.1.grown hb hg, h.2⟩
theorem GB.alloc {w : World} {g : Nat} {W : List Int} {M : List Mk} (h : GB w g W M) (o : Obj) : GB (w.alloc o) g W M := ⟨h.1.alloc o, h.2⟩
theorem GB.below {w w' : World} {g : Nat} {W : List Int} {M : List Mk} (h : GB w g W M) (hb : Below w.heap.size w w') : GB w' g W M := ⟨h.1.below hb h.1.lt, h.2⟩
theorem grown3 (w : World) (g i j k : Nat) (a b c : Value) : w.grownBy (((w.setCell ⟨g, i, none⟩ a).setCell ⟨g, j, none⟩ b).setCell ⟨g, k, none⟩ c) (some g) := by
  have s : ∀ (w0 w1 : World) (i : Nat) (u : Value), w0.grownBy w1 (some g) → w0.grownBy (w1.setCell ⟨g, i, none⟩ u) (some g) := fun w0 w1 i u h =>
    ⟨h.os, h.tape, h.output, by simpa [World.setCell] using h.size, fun q hq hne => (Below.heap_setCell w1 ⟨g, i, none⟩ u q (fun e => hne (by rw [e]))).trans (h.block q hq hne)⟩
  exact s _ _ _ _ (s _ _ _ _ (s _ _ _ _ (grown_refl w _)))
theorem grown1 (w : World) (g i : Nat) (a : Value) : w.grownBy (w.setCell ⟨g, i, none⟩ a) (some g) :=
  ⟨rfl, rfl, rfl, by simp [World.setCell], fun q hq hne => Below.heap_setCell w ⟨g, i, none⟩ a q (fun e => hne (by rw [e]))⟩

/-- the zero grid -/
def zeroW : List Int := List.replicate 256 0
def zeroM : List Mk := List.replicate 4 (0, 0, false)
theorem zeroOk : GrOk zeroW zeroM := ⟨by decide, by decide, by decide⟩
theorem zeroDev : devG zeroW zeroM = List.replicate 4 (([] : List Int), (0 : Int), false) := by decide
/-- its cells, by a name that the walk does not open -/
def ZG : Array Value := (gcells zeroW zeroM).toArray
theorem zeroG : ZG = (gcells zeroW zeroM).toArray := rfl
theorem zeroInfo : (Tryz.prog.info? 77).map (fun i => (i.zero, i.size)) = some (some (.agg ZG), 268) := by kernel_rfl
theorem run_build_grid (w : World) : (Instr.build 77 #[]).run Tryz.prog w = .ok (.agg ZG) w := by kernel_rfl
theorem wpList_alloc_grid {ops : Array Oper} {rest : List Oper} {o : Oper} {a : Act} {w : World} {Q : Exit → Act → World → Prop} (hgd : o.guard = none) (ho : o.op = .alloc 77)
    (h : wpList Tryz.prog ops Q rest (a.put o.dst (.pointer (some ⟨w.heap.size, 0, none⟩))) (w.alloc (.cells ZG 77))) : wpList Tryz.prog ops Q (o :: rest) a w := by
  refine wpList_plain hgd fun K hK => ?_
  have hz := (zero_of_info zeroInfo).1 w
  have hrun : (Instr.alloc 77 true (.tuple #[])).run Tryz.prog w = .ok (.pointer (some ⟨w.heap.size, 0, none⟩)) (w.alloc (.cells ZG 77)) := by
    simp [Instr.alloc, Sem.run_bind, hz, newVar, newRow, Value.cells, Result.andThen]
  unfold Oper.wp execOp
  simp only [ho, Sem.run_bind, Sem.run_pure, Result.andThen_ok, hrun]
  exact hK _ _ h
theorem wpList_build_grid {ops : Array Oper} {rest : List Oper} {o : Oper} {a : Act} {w : World} {Q : Exit → Act → World → Prop} (hgd : o.guard = none) (ho : o.op = .build 77 #[])
    (h : wpList Tryz.prog ops Q rest (a.put o.dst (.agg ZG)) w) : wpList Tryz.prog ops Q (o :: rest) a w := by
  refine wpList_plain hgd fun K hK => ?_
  have hrun := run_build_grid w
  unfold Oper.wp execOp
  simp only [ho, Sem.run_bind, Sem.run_pure, Result.andThen_ok, List.map_toArray, List.map_nil, hrun]
  exact hK _ _ h
theorem gridI : (Tryz.prog.info? 77).map (·.size) = some 268 := by kernel_rfl
end Go.Proofs.YtfianpjoifcphaaGreat
