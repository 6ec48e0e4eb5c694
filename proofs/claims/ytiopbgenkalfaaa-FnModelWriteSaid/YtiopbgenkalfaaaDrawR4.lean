/-
  Drawn models, events and values: what DrawModelDo knows at each step.
-/
import Derived.Test.YtiopbgenkalfaaaDrawR1
import Derived.Test.YtiopbgenkalfaaaDrawR3
import Derived.Test.YtiopbgenkalfaaaSpecR4
namespace Go.Proofs.Ytiopbgenkalfaaa
open Go.RowKit
set_option linter.unusedVariables false
set_option maxRecDepth 100000

theorem doV_len {now after : List Int} {past : List (List Int)} {kd : Int} {pn : Nat} {ps : List Int} {dn : Bool} {r : List Int × List (List Int)} (h : doV now past kd pn ps dn after = some r) : r.1.length ≤ 12 ∧ r.2.length ≤ 61 ∧ ∀ l ∈ r.2, l.length ≤ 12 := by
  have hb : (modV now past && nowV after) = true := by
    rcases e : (modV now past && nowV after) with _ | _
    · rw [doV_bad e] at h; cases h
    · rfl
  have hb2 : modV now past = true ∧ nowV after = true := by simpa using hb
  have ha := nowV_len hb2.2
  by_cases hc : kd = 10 ∧ dn = true
  · obtain ⟨rfl, rfl⟩ := hc
    rw [doV_crash hb] at h
    split at h
    · injection h with h; subst h; exact ⟨by simp [ha], by simp, by simp [ha]⟩
    · cases h
  · rw [doV_else hb hc] at h
    split at h
    · cases h
    · split at h
      · injection h with h; subst h; exact ⟨by simp [ha], by simp, by simp [ha]⟩
      · injection h with h; subst h
        refine ⟨by simp [ha], ?_, fun l hl => ?_⟩
        · simp only [List.length_append, List.length_drop, List.length_cons, List.length_nil]
          omega
        · rcases List.mem_append.1 hl with hl | hl
          · have := nowV_len (List.all_eq_true.1 (modV_parts hb2.1).1 l (List.mem_of_mem_drop hl))
            omega
          · simp only [List.mem_singleton] at hl
            rw [hl, ha]
            exact Nat.le_refl _
theorem MPost_len {w' : World} {b : Nat} {q : Mq} {now after : List Int} {past : List (List Int)} {kd : Int} {pn : Nat} {ps : List Int} {dn : Bool} (hm : OwnM w' b q) (hx : q.xs = ((doV now past kd pn ps dn after).getD ([], [])).1) (hq : vsN q.qs = ((doV now past kd pn ps dn after).getD ([], [])).2) : q.n ≤ 12 ∧ q.m ≤ 61 ∧ ∀ l ∈ vsN q.qs, l.length ≤ 12 := by
  have h1 := hm.now.1
  have h2 := hm.past.len
  rw [← vsN_length] at h2
  rcases h : doV now past kd pn ps dn after with _ | r
  · rw [h] at hx hq
    rw [hx] at h1
    rw [hq] at h2
    simp at h1 h2
    refine ⟨by omega, by omega, ?_⟩
    rw [hq]
    simp
  · rw [h] at hx hq
    rw [hx] at h1
    rw [hq] at h2
    have h3 := doV_len h
    simp at h1 h2
    refine ⟨by omega, by omega, ?_⟩
    rw [hq]
    exact h3.2.2

/-- what DrawModelDo knows at each step -/
structure DS (w0 W : World) (R : Nat) (p : Int) (b0 gm : Nat) (q : Mq) : Prop where
  rd : Rd W R p
  rb : R < b0
  r2 : w0.heap.size + 2 ≤ R
  km : Blk W gm 27 #[.slice q.A q.n q.c, .slice q.P q.m q.d]
  gml : b0 ≤ gm
  own : OwnM W b0 q
  k2 : Blk W w0.heap.size 27 #[.slice none 0 0, .slice none 0 0]
  k3 : Blk W (w0.heap.size + 1) 35 #[.int .i64 0, .slice none 0 0, .slice none 0 0]
  bw : b0 ≤ W.heap.size
  below : Below w0.heap.size w0 W
  nq : q.n ≤ 12
  mq : q.m ≤ 63
  lq : ∀ l ∈ vsN q.qs, l.length ≤ 12
section
variable {w0 W W' : World} {R b0 gm : Nat} {p p' : Int} {q q' : Mq}
theorem DS.pick (h : DS w0 W R p b0 gm q) (hr : Rd W' R p') (hg : W.grownBy W' (some R)) : DS w0 W' R p' b0 gm q := by
  have h1 := h.rb
  have h2 := h.r2
  have h3 := h.gml
  have ne : ∀ {q : Nat}, some R = some q → R = q := fun e => by injection e
  exact { rd := hr, rb := h1, r2 := h2, km := h.km.grown hg (fun e => by have := ne e.symm; omega), gml := h3, own := h.own.old hg h1, k2 := h.k2.grown hg (fun e => by have := ne e.symm; omega), k3 := h.k3.grown hg (fun e => by have := ne e.symm; omega),
          bw := Nat.le_trans h.bw hg.size, below := h.below.grown hg h.below.size (fun g e => by have := ne e; omega), nq := h.nq, mq := h.mq, lq := h.lq }
theorem DS.step (h : DS w0 W R p b0 gm q) (hb : Below W.heap.size W W') : DS w0 W' R p b0 gm q :=
  { rd := h.rd.below hb, rb := h.rb, r2 := h.r2, km := h.km.below hb h.km.lt, gml := h.gml, own := h.own.below hb, k2 := h.k2.below hb h.k2.lt, k3 := h.k3.below hb h.k3.lt, bw := Nat.le_trans h.bw hb.size, below := h.below.trans (hb.mono h.below.size), nq := h.nq, mq := h.mq, lq := h.lq }
theorem DS.cells (h : DS w0 W R p b0 gm q) : W.cell? ⟨gm, 0, none⟩ = some (.slice q.A q.n q.c) ∧ W.cell? ⟨gm, 1, none⟩ = some (.slice q.P q.m q.d) ∧ W.frozen? ⟨gm, 0, none⟩ = false ∧ W.frozen? ⟨gm, 1, none⟩ = false :=
  ⟨by rw [h.km.cell]; rfl, by rw [h.km.cell]; rfl, h.km.frozen 0, h.km.frozen 1⟩
/-- cells of the model's block are written -/
theorem DS.turn (h : DS w0 W R p b0 gm q) (hg : W.grownBy W' (some gm)) (hk : Blk W' gm 27 #[.slice q'.A q'.n q'.c, .slice q'.P q'.m q'.d]) (hm : OwnM W b0 q') (hn : q'.n ≤ 12) (hm2 : q'.m ≤ 63) (hl : ∀ l ∈ vsN q'.qs, l.length ≤ 12) : DS w0 W' R p b0 gm q' := by
  have h1 := h.rb
  have h2 := h.r2
  have h3 := h.gml
  have ne : ∀ {q : Nat}, some gm = some q → gm = q := fun e => by injection e
  exact { rd := h.rd.grown hg (fun g e => by have := ne e; omega), rb := h1, r2 := h2, km := hk, gml := h3,
          own := hm.kept hg fun g e => by
            have e2 := ne e
            rw [← e2]
            exact ⟨row_ne_blk hm.now.2 h.km (by decide), row_ne_blk hm.past.row h.km (by decide), fun k r hr => row_ne_blk (hm.past.own k r hr).2 h.km (by decide)⟩
          k2 := h.k2.grown hg (fun e => by have := ne e.symm; omega), k3 := h.k3.grown hg (fun e => by have := ne e.symm; omega),
          bw := Nat.le_trans h.bw hg.size, below := h.below.grown hg h.below.size (fun g e => by have := ne e; omega), nq := hn, mq := hm2, lq := hl }
theorem DS.setm (h : DS w0 W R p b0 gm q) (hm : OwnM W b0 q') (hn : q'.n ≤ 12) (hm2 : q'.m ≤ 63) (hl : ∀ l ∈ vsN q'.qs, l.length ≤ 12) : DS w0 ((W.setCell ⟨gm, 0, none⟩ (.slice q'.A q'.n q'.c)).setCell ⟨gm, 1, none⟩ (.slice q'.P q'.m q'.d)) R p b0 gm q' :=
  h.turn (grown2 W gm _ _) ((h.km.set_ 0 _).set_ 1 _) hm hn hm2 hl
end
/-- .. with a drawn event, and values behind it -/
structure DE (w0 W : World) (R : Nat) (p : Int) (b0 gm : Nat) (q : Mq) (gE : Nat) (kd : Int) (PA : Option Addr) (pn pc : Nat) (ps : List Int) (LA : Option Addr) (ln lc : Nat) (ls : List Int) (A3 : Option Addr) (n3 c3 : Nat) (af : List Int) : Prop where
  ds : DS w0 W R p b0 gm q
  ke : Blk W gE 35 #[.int .i64 kd, .slice PA pn pc, .slice LA ln lc]
  gel : b0 ≤ gE
  gne : gE ≠ gm
  pairs : OwnR W b0 42 2 PA pn pc ps
  list : Own W b0 LA ln lc ls
  aft : Own W b0 A3 n3 c3 af
section
variable {w0 W W' : World} {R b0 gm gE pn pc ln lc n3 c3 n3' c3' : Nat} {p p' kd : Int} {q q' : Mq} {PA LA A3 A3' : Option Addr} {ps ls af af' : List Int}
theorem DE.pick (h : DE w0 W R p b0 gm q gE kd PA pn pc ps LA ln lc ls A3 n3 c3 af) (hr : Rd W' R p') (hg : W.grownBy W' (some R)) : DE w0 W' R p' b0 gm q gE kd PA pn pc ps LA ln lc ls A3 n3 c3 af := by
  have h1 := h.ds.rb
  have h3 := h.gel
  have ne : ∀ {q : Nat}, some R = some q → R = q := fun e => by injection e
  exact { ds := h.ds.pick hr hg, ke := h.ke.grown hg (fun e => by have := ne e.symm; omega), gel := h3, gne := h.gne, pairs := h.pairs.kept hg (fun g e e2 => by have := ne e; have := (h.pairs.block _ e2).1; omega),
          list := h.list.kept hg (fun g e e2 => by have := ne e; have := (h.list.block _ e2).1; omega), aft := h.aft.kept hg (fun g e e2 => by have := ne e; have := (h.aft.block _ e2).1; omega) }
theorem DE.step (h : DE w0 W R p b0 gm q gE kd PA pn pc ps LA ln lc ls A3 n3 c3 af) (hb : Below W.heap.size W W') : DE w0 W' R p b0 gm q gE kd PA pn pc ps LA ln lc ls A3 n3 c3 af :=
  { ds := h.ds.step hb, ke := h.ke.below hb h.ke.lt, gel := h.gel, gne := h.gne, pairs := h.pairs.below hb, list := h.list.below hb, aft := h.aft.below hb }
theorem DE.after (h : DE w0 W R p b0 gm q gE kd PA pn pc ps LA ln lc ls A3 n3 c3 af) (ha : Own W b0 A3' n3' c3' af') : DE w0 W R p b0 gm q gE kd PA pn pc ps LA ln lc ls A3' n3' c3' af' := { h with aft := ha }
theorem DE.cellsE (h : DE w0 W R p b0 gm q gE kd PA pn pc ps LA ln lc ls A3 n3 c3 af) : W.cell? ⟨gE, 0, none⟩ = some (.int .i64 kd) ∧ W.cell? ⟨gE, 1, none⟩ = some (.slice PA pn pc) ∧ W.cell? ⟨gE, 2, none⟩ = some (.slice LA ln lc) :=
  ⟨by rw [h.ke.cell]; rfl, by rw [h.ke.cell]; rfl, by rw [h.ke.cell]; rfl⟩
theorem DE.turn (h : DE w0 W R p b0 gm q gE kd PA pn pc ps LA ln lc ls A3 n3 c3 af) (hg : W.grownBy W' (some gm)) (hk : Blk W' gm 27 #[.slice q'.A q'.n q'.c, .slice q'.P q'.m q'.d]) (hm : OwnM W b0 q') (hn : q'.n ≤ 12) (hm2 : q'.m ≤ 63) (hl : ∀ l ∈ vsN q'.qs, l.length ≤ 12) : DE w0 W' R p b0 gm q' gE kd PA pn pc ps LA ln lc ls A3 n3 c3 af := by
  have ne : ∀ {q : Nat}, some gm = some q → gm = q := fun e => by injection e
  exact { ds := h.ds.turn hg hk hm hn hm2 hl, ke := h.ke.grown hg (fun e => h.gne (ne e.symm).symm), gel := h.gel, gne := h.gne,
          pairs := h.pairs.kept hg (fun g e e2 => by have e3 := ne e; rw [← e3] at e2; exact row_ne_blk h.pairs.2 h.ds.km (by decide) e2),
          list := h.list.kept hg (fun g e e2 => by have e3 := ne e; rw [← e3] at e2; exact row_ne_blk h.list.2 h.ds.km (by decide) e2),
          aft := h.aft.kept hg (fun g e e2 => by have e3 := ne e; rw [← e3] at e2; exact row_ne_blk h.aft.2 h.ds.km (by decide) e2) }
/-- other values now -/
theorem DE.now (h : DE w0 W R p b0 gm q gE kd PA pn pc ps LA ln lc ls A3 n3 c3 af) {X : Option Addr} {m d : Nat} {xs : List Int} {w1 : World} (hx : Own W w1.heap.size X m d xs) (hq : OwnM w1 b0 q) (hb : b0 ≤ w1.heap.size) (hm : m ≤ 12) :
    DE w0 (W.setCell ⟨gm, 0, none⟩ (.slice X m d)) R p b0 gm ⟨X, m, d, q.P, q.m, q.d, xs, q.qs⟩ gE kd PA pn pc ps LA ln lc ls A3 n3 c3 af :=
  h.turn (set_grown W gm 0 _) (h.ds.km.set_ 0 _) ⟨hx.mono hb, h.ds.own.past, fun k r hr g hg e => by
    have h1 := (hq.past.wblock hr g hg).2
    have h2 := (hx.block g e).1
    omega⟩ hm h.ds.mq h.ds.lq
/-- one list more behind the past -/
theorem DE.app (h : DE w0 W R p b0 gm q gE kd PA pn pc ps LA ln lc ls A3 n3 c3 af) {X P2 : Option Addr} {m d d2 : Nat} {xs : List Int} {w1 w6 : World} (hx : Own W w1.heap.size X m d xs) (hq : OwnM w1 b0 q) (hb : b0 ≤ w1.heap.size) (hm : m ≤ 12) (hqm : q.m ≤ 62)
    (hO : OwnN w6 b0 P2 (q.m + 1) d2 (q.qs ++ [⟨xs, X, d⟩])) (hg : (W.alloc (.cells #[.slice X m d] 23)).grownBy w6 (Value.slice q.P q.m q.d).ownBlock) :
    (w6.cell? ⟨gm, 1, none⟩ = some (.slice q.P q.m q.d) ∧ w6.frozen? ⟨gm, 1, none⟩ = false) ∧
    DE w0 (w6.setCell ⟨gm, 1, none⟩ (.slice P2 (q.m + 1) d2)) R p b0 gm ⟨q.A, q.n, q.c, P2, q.m + 1, d2, q.xs, q.qs ++ [⟨xs, X, d⟩]⟩ gE kd PA pn pc ps LA ln lc ls A3 n3 c3 af := by
  have hs := h.step (W' := W.alloc (.cells #[.slice X m d] 23)) (below_new W _)
  have hrow := hs.ds.own.past.row
  have h1 := h.ds.rb
  have h2 := h.ds.r2
  have hPb : ∀ g, (Value.slice q.P q.m q.d).ownBlock = some g → b0 ≤ g := fun g e => (hs.ds.own.past.block g e).1
  have hblk : ∀ {g : Nat} {t : TypeId} {cs : Array Value}, Blk (W.alloc (.cells #[.slice X m d] 23)) g t cs → (23 : TypeId) ≠ t → Blk w6 g t cs := fun {g t cs} hk ht => hk.grown hg fun e => row_ne_blk hrow hk ht e.symm
  have hkm : Blk w6 gm 27 #[.slice q.A q.n q.c, .slice q.P q.m q.d] := hblk hs.ds.km (by decide)
  have hnow : Own w6 b0 q.A q.n q.c q.xs := hs.ds.own.now.kept hg fun g e => rows_neN hrow hs.ds.own.now.2 (by decide) e
  have hm6 : OwnM w6 b0 ⟨q.A, q.n, q.c, P2, q.m + 1, d2, q.xs, q.qs ++ [⟨xs, X, d⟩]⟩ := by
    refine ⟨hnow, hO, fun k r hr g hg' e => ?_⟩
    simp only at hr e
    rcases Nat.lt_or_ge k q.qs.length with hk | hk
    · rw [List.getElem?_append_left hk] at hr
      exact h.ds.own.sep k r hr g hg' e
    · rw [List.getElem?_append_right hk] at hr
      rcases hkk : k - q.qs.length with _ | j
      · rw [hkk] at hr
        simp at hr
        subst hr
        have h1 := (hq.now.block g e).2
        have h2 := (hx.block g (by rw [← hg', Nq.sl, hx.1])).1
        omega
      · rw [hkk] at hr
        simp at hr
  have hst := set_grown w6 gm 1 (.slice P2 (q.m + 1) d2)
  have ne : ∀ {q : Nat}, some gm = some q → gm = q := fun e => by injection e
  have hgl := h.ds.gml
  have hsz6 : b0 ≤ w6.heap.size := Nat.le_trans hs.ds.bw hg.size
  have hbel6 : Below w0.heap.size w0 w6 := hs.ds.below.grown hg hs.ds.below.size (fun g e => by have := hPb g e; omega)
  refine ⟨⟨by rw [hkm.cell]; rfl, hkm.frozen 1⟩, ?_⟩
  exact { ds :=
            { rd := (hs.ds.rd.grown hg (fun g e => by have := hPb g e; omega)).grown hst (fun g e => by have := ne e; omega), rb := h1, r2 := h2, km := hkm.set_ 1 _, gml := hgl,
              own := hm6.kept hst fun g e => by
                have e2 := ne e
                rw [← e2]
                exact ⟨row_ne_blk hm6.now.2 hkm (by decide), row_ne_blk hm6.past.row hkm (by decide), fun k r hr => row_ne_blk (hm6.past.own k r hr).2 hkm (by decide)⟩
              k2 := (hs.ds.k2.grown hg (fun e => by have := hPb _ e.symm; omega)).grown hst (fun e => by have := ne e.symm; omega),
              k3 := (hs.ds.k3.grown hg (fun e => by have := hPb _ e.symm; omega)).grown hst (fun e => by have := ne e.symm; omega),
              bw := Nat.le_trans hsz6 hst.size, below := hbel6.grown hst hbel6.size (fun g e => by have := ne e; omega), nq := h.ds.nq, mq := by (show q.m + 1 ≤ 63; omega)
              lq := by
                show ∀ l ∈ vsN (q.qs ++ [⟨xs, X, d⟩]), l.length ≤ 12
                rw [vsN_snoc]
                intro l hl
                rcases List.mem_append.1 hl with hl | hl
                · exact h.ds.lq l hl
                · simp only [List.mem_singleton] at hl
                  rw [hl, hx.1]
                  exact hm }
          ke := (hblk hs.ke (by decide)).grown hst (fun e => h.gne (ne e.symm).symm), gel := h.gel, gne := h.gne,
          pairs := (hs.pairs.kept hg fun g e => rows_neN hrow hs.pairs.2 (by decide) e).kept hst (fun g e e2 => by have e3 := ne e; rw [← e3] at e2; exact row_ne_blk (hs.pairs.kept hg fun g e => rows_neN hrow hs.pairs.2 (by decide) e).2 hkm (by decide) e2),
          list := (hs.list.kept hg fun g e => rows_neN hrow hs.list.2 (by decide) e).kept hst (fun g e e2 => by have e3 := ne e; rw [← e3] at e2; exact row_ne_blk (hs.list.kept hg fun g e => rows_neN hrow hs.list.2 (by decide) e).2 hkm (by decide) e2),
          aft := (hs.aft.kept hg fun g e => rows_neN hrow hs.aft.2 (by decide) e).kept hst (fun g e e2 => by have e3 := ne e; rw [← e3] at e2; exact row_ne_blk (hs.aft.kept hg fun g e => rows_neN hrow hs.aft.2 (by decide) e).2 hkm (by decide) e2) }
end
end Go.Proofs.Ytiopbgenkalfaaa
