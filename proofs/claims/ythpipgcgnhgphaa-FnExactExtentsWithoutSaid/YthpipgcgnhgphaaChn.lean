/-
  The program's linked list of extents in memory: nodes, each a block known whole, each leading to the next; a place: the cell that leads to what is behind. Plain.
-/
import Derived.Test.YthpipgcgnhgphaaChnM
import Derived.Test.YthpipgcgnhgphaaMk
namespace Go.Proofs.Ythpipgcgnhgphaa
open Go.RowKit
set_option linter.unusedVariables false
set_option maxRecDepth 100000

/-- nodes: the block, the first block of the extent, how many -/
abbrev Nds := List (Nat × (Int × Int))
def exs (ns : Nds) : Exs := ns.map (·.2)
def pt : Nds → Option Addr → Option Addr
  | [], q => q
  | n :: _, _ => some ⟨n.1, 0, none⟩
def Sg (w : World) (base : Nat) : Nds → Option Addr → Prop
  | [], _ => True
  | n :: r, q => base ≤ n.1 ∧ Blk w n.1 65 #[.int .i64 n.2.1, .int .i64 (n.2.1 + n.2.2), .pointer (pt r q)] ∧ Sg w base r q
theorem exs_append (a b : Nds) : exs (a ++ b) = exs a ++ exs b := by simp [exs]
theorem exs_cons (n : Nat × (Int × Int)) (b : Nds) : exs (n :: b) = n.2 :: exs b := rfl
theorem exs_length (a : Nds) : (exs a).length = a.length := by simp [exs]
theorem pt_append (a b : Nds) (q : Option Addr) : pt (a ++ b) q = pt a (pt b q) := by cases a <;> rfl
theorem Sg.append {w : World} {base : Nat} : ∀ {a b : Nds} {q : Option Addr}, Sg w base (a ++ b) q ↔ Sg w base a (pt b q) ∧ Sg w base b q
  | [], b, q => ⟨fun h => ⟨trivial, h⟩, fun h => h.2⟩
  | n :: a, b, q => by
    show (base ≤ n.1 ∧ Blk w n.1 _ #[_, _, .pointer (pt (a ++ b) q)] ∧ Sg w base (a ++ b) q) ↔ (base ≤ n.1 ∧ Blk w n.1 _ #[_, _, .pointer (pt a (pt b q))] ∧ Sg w base a (pt b q)) ∧ _
    rw [pt_append, Sg.append]
    simp only [and_assoc]
theorem Sg.keep {w w' : World} {base : Nat} : ∀ {ns : Nds} {q : Option Addr}, Sg w base ns q → (∀ n ∈ ns, w'.heap[n.1]? = w.heap[n.1]?) → Sg w' base ns q
  | [], _, _, _ => trivial
  | n :: r, q, h, hk => ⟨h.1, (hk n (List.mem_cons_self ..)).trans h.2.1, h.2.2.keep fun m hm => hk m (List.mem_cons_of_mem _ hm)⟩
theorem Sg.lt {w : World} {base : Nat} : ∀ {ns : Nds} {q : Option Addr}, Sg w base ns q → ∀ n ∈ ns, base ≤ n.1 ∧ n.1 < w.heap.size
  | [], _, _, n, hn => by cases hn
  | m :: r, q, h, n, hn => by
    rcases List.mem_cons.1 hn with rfl | hn
    · exact ⟨h.1, h.2.1.lt⟩
    · exact h.2.2.lt n hn

/-- the cell that leads to what is behind the nodes -/
def plc (c : Nat) (pre : Nds) : Addr := match pre.getLast? with
  | none => ⟨c, 0, none⟩
  | some n => ⟨n.1, 2, none⟩
theorem plc_nil (c : Nat) : plc c [] = ⟨c, 0, none⟩ := rfl
theorem plc_snoc (c : Nat) (a : Nds) (n : Nat × (Int × Int)) : plc c (a ++ [n]) = ⟨n.1, 2, none⟩ := by unfold plc; simp
theorem nds_last (a : Nds) : a = [] ∨ ∃ i n, a = i ++ [n] := by
  rcases List.eq_nil_or_concat a with h | ⟨i, n, h⟩
  · exact .inl h
  · exact .inr ⟨i, n, by simpa using h⟩

/-- a chain: its head, its nodes, none twice -/
structure Chn (w : World) (base c : Nat) (ns : Nds) : Prop where
  cb : base ≤ c
  hd : Blk w c 55 #[.pointer (pt ns none)]
  sg : Sg w base ns none
  nd : (c :: ns.map (·.1)).Nodup
section
variable {w w' : World} {base c : Nat} {ns pre rest r : Nds} {n : Nat × (Int × Int)}
theorem Chn.drewN (h : Chn w base c ns) (k : Nat) : Chn (w.drewN k) base c ns := ⟨h.cb, h.hd, h.sg.keep fun _ _ => rfl, h.nd⟩
theorem Chn.keep (h : Chn w base c ns) (hc : w'.heap[c]? = w.heap[c]?) (hk : ∀ n ∈ ns, w'.heap[n.1]? = w.heap[n.1]?) : Chn w' base c ns := ⟨h.cb, hc.trans h.hd, h.sg.keep hk, h.nd⟩
theorem Chn.below (h : Chn w base c ns) (hb : Below w.heap.size w w') : Chn w' base c ns := h.keep (hb.block _ h.hd.lt) fun n hn => hb.block _ (h.sg.lt n hn).2
theorem Chn.alloc (h : Chn w base c ns) (o : Obj) : Chn (w.alloc o) base c ns := h.below (below_new w o)
theorem Chn.new (w : World) (base : Nat) (hb : base ≤ w.heap.size) : Chn (w.alloc (.cells #[.pointer none] 55)) base w.heap.size [] := ⟨hb, Blk.new w _ _, trivial, by simp⟩
/-- the place as a cell of a block known whole -/
theorem Chn.place (h : Chn w base c (pre ++ rest)) : ∃ b o t cs, plc c pre = ⟨b, o, none⟩ ∧ base ≤ b ∧ Blk w b t cs ∧ cs[o]? = some (.pointer (pt rest none)) ∧ b ∈ c :: pre.map (·.1) := by
  rcases nds_last pre with rfl | ⟨i, n, rfl⟩
  · exact ⟨c, 0, _, _, rfl, h.cb, h.hd, rfl, List.mem_cons_self ..⟩
  · have hs := h.sg
    rw [List.append_assoc, Sg.append] at hs
    obtain ⟨h1, h2, h3⟩ := hs.2
    exact ⟨n.1, 2, _, _, plc_snoc c i n, h1, h2, rfl, List.mem_cons_of_mem _ (by simp)⟩
theorem Chn.read (h : Chn w base c (pre ++ rest)) : w.cell? (plc c pre) = some (.pointer (pt rest none)) := by
  obtain ⟨b, o, t, cs, e, _, hb, ho, _⟩ := h.place
  rw [e, hb.cell, ho]
theorem Chn.free (h : Chn w base c (pre ++ rest)) : w.frozen? (plc c pre) = false := by
  obtain ⟨b, o, t, cs, e, _, hb, ho, _⟩ := h.place
  rw [e]
  exact hb.frozen o
theorem Chn.node (h : Chn w base c (pre ++ n :: r)) : base ≤ n.1 ∧ Blk w n.1 65 #[.int .i64 n.2.1, .int .i64 (n.2.1 + n.2.2), .pointer (pt r none)] := by
  have hs := h.sg
  rw [Sg.append] at hs
  exact ⟨hs.2.1, hs.2.2.1⟩
theorem Chn.off (h : Chn w base c (pre ++ rest)) : ∀ m ∈ rest, m.1 ≠ (plc c pre).block := by
  intro m hm e
  obtain ⟨b, o, t, cs, ep, _, _, _, hb⟩ := h.place
  rw [ep] at e
  have hn := h.nd
  rw [List.map_append, ← List.cons_append, List.nodup_append] at hn
  exact hn.2.2 b hb m.1 (List.mem_map_of_mem hm) e.symm
theorem Chn.plc_ge (h : Chn w base c (pre ++ rest)) : base ≤ (plc c pre).block ∧ (plc c pre).block < w.heap.size := by
  obtain ⟨b, o, t, cs, e, h1, hb, ho, _⟩ := h.place
  rw [e]
  exact ⟨h1, hb.lt⟩
/-- what is behind the place is exchanged -/
theorem Chn.put (h : Chn w base c (pre ++ rest)) {rest' : Nds} (hs : Sg w base rest' none) (hnd : (c :: (pre ++ rest').map (·.1)).Nodup) :
    Chn (w.setCell (plc c pre) (.pointer (pt rest' none))) base c (pre ++ rest') := by
  obtain ⟨b, o, t, cs, ep, _, hb, ho, hmem⟩ := h.place
  have hr : Sg (w.setCell (plc c pre) (.pointer (pt rest' none))) base rest' none := hs.keep fun m hm => by
    refine Below.heap_setCell w _ _ m.1 fun e => ?_
    rw [ep] at e
    have hn := hnd
    rw [List.map_append, ← List.cons_append, List.nodup_append] at hn
    exact hn.2.2 b hmem m.1 (List.mem_map_of_mem hm) e.symm
  have hn := h.nd
  rcases nds_last pre with rfl | ⟨i, n, rfl⟩
  · exact ⟨h.cb, h.hd.set_ 0 _, hr, hnd⟩
  · have hsg := h.sg
    have hhd := h.hd
    rw [List.append_assoc] at hsg hhd
    obtain ⟨h1, h2, h3, h4⟩ := Sg.append.1 hsg
    rw [plc_snoc] at hr ⊢
    have hn' := hn
    simp only [List.map_append, List.map_cons, List.map_nil] at hn'
    refine ⟨h.cb, ?_, ?_, hnd⟩
    · have hne : c ≠ n.1 := by
        intro e
        have := (List.nodup_cons.1 hn').1
        rw [e] at this
        simp at this
      have := hhd.far (p := ⟨n.1, 2, none⟩) hne (.pointer (pt rest' none))
      rw [pt_append, pt_append] at this ⊢
      rcases i with _ | ⟨x, i⟩
      · exact this
      · exact this
    · rw [List.append_assoc]
      refine Sg.append.2 ⟨?_, h2, ?_, hr⟩
      · refine h1.keep fun m hm => Below.heap_setCell w _ _ m.1 fun e => ?_
        have hd := (List.nodup_cons.1 hn').2
        rw [List.append_assoc, List.nodup_append] at hd
        exact hd.2.2 m.1 (List.mem_map_of_mem hm) n.1 (by simp) e
      · have := h3.set_ 2 (.pointer (pt rest' none))
        exact this
/-- the first node behind the place is taken out -/
theorem Chn.drop (h : Chn w base c (pre ++ n :: r)) : Chn (w.setCell (plc c pre) (.pointer (pt r none))) base c (pre ++ r) := by
  have hs := h.sg
  rw [Sg.append] at hs
  refine h.put hs.2.2.2 ?_
  have hn := h.nd
  refine hn.sublist (List.Sublist.cons_cons _ (List.Sublist.map _ ?_))
  exact List.Sublist.append (List.Sublist.refl _) (List.sublist_cons_self ..)
/-- a new node is put in at the place -/
theorem Chn.ins (h : Chn w base c (pre ++ rest)) (f m : Int) :
    Chn ((w.alloc (.cells #[.int .i64 f, .int .i64 (f + m), .pointer (pt rest none)] 65)).setCell (plc c pre) (.pointer (some ⟨w.heap.size, 0, none⟩))) base c (pre ++ (w.heap.size, f, m) :: rest) := by
  have hs := h.sg
  rw [Sg.append] at hs
  have hsz : base ≤ w.heap.size := by have := h.plc_ge; omega
  refine (h.alloc _).put (rest' := (w.heap.size, f, m) :: rest) ⟨hsz, Blk.new w _ _, hs.2.keep fun n hn => Below.heap_alloc w _ n.1 ?_⟩ ?_
  · exact (h.sg.lt n (List.mem_append_right _ hn)).2
  · have hn := h.nd
    have hperm : List.Perm (c :: (pre ++ (w.heap.size, f, m) :: rest).map (·.1)) (w.heap.size :: (c :: (pre ++ rest).map (·.1))) := by
      simp only [List.map_append, List.map_cons]
      refine (List.Perm.cons _ List.perm_middle).trans (List.Perm.swap _ _ _)
    refine hperm.nodup_iff.2 (List.nodup_cons.2 ⟨fun hmem => ?_, hn⟩)
    rcases List.mem_cons.1 hmem with e | hmem
    · have := h.hd.lt
      omega
    · obtain ⟨m, hm, e⟩ := List.mem_map.1 hmem
      have := (h.sg.lt m hm).2
      omega
theorem grown_set (w : World) (p : Addr) (u : Value) : w.grownBy (w.setCell p u) (some p.block) := by
  refine ⟨rfl, rfl, rfl, Nat.le_of_eq (by simp), fun i hi hne => Below.heap_setCell w p u i fun e => hne (by rw [e])⟩
theorem below_plc {B : Nat} {row : Option Nat} {a : World} (hb : Below B a w) (hB : B ≤ w.heap.size) (hg : w.grownBy w' row) (hr : ∀ k, row = some k → B ≤ k) : Below B a w' := hb.grown hg hB hr
end
end Go.Proofs.Ythpipgcgnhgphaa
