/-
  The program's trees: appendTo.
-/
import Derived.Test.YtapfbkjgmfmepabImpL2
import Derived.Test.YtapfbkjgmfmepabLy
import Derived.Deep.RegionHeld3
namespace Go.Proofs.Ytapfbkjgmfmepab
open Go.RowKit
set_option linter.unusedVariables false
set_option maxRecDepth 100000

/-- behind appendTo -/
def AppT (w : World) (base : Nat) (A : Option Addr) (n c : Nat) (ps : Ly) (t : Tr) (x : Ending) (w' : World) : Prop :=
  ∃ A2 c2, x = .returned (.slice A2 (n + t.vals.length) c2) ∧ PrR w' base A2 (n + t.vals.length) c2 (ps ++ t.vals) ∧ w.grownBy w' (Value.slice A n c).ownBlock ∧
    (∀ g, (Value.slice A2 (n + t.vals.length) c2).ownBlock = some g → (Value.slice A n c).ownBlock = some g ∨ w.heap.size ≤ g)

theorem PrR.off {w : World} {base n c : Nat} {A : Option Addr} {ps : Ly} {t : Tr} (h : PrR w base A n c ps) (ht : TrI w t) : ∀ g, (Value.slice A n c).ownBlock = some g → g ∉ t.ids := ht.off h.2.2 (by decide)

theorem grown_next {a b c : World} {r1 r2 : Option Nat} (h : a.grownBy b r1) (k : b.grownBy c r2) (hr : ∀ g, r2 = some g → r1 = some g ∨ a.heap.size ≤ g) : a.grownBy c r1 :=
  ⟨k.os.trans h.os, k.tape.trans h.tape, k.output.trans h.output, Nat.le_trans h.size k.size, fun i hi hne =>
    (k.block i (Nat.lt_of_lt_of_le hi h.size) (fun e => by rcases hr i e.symm with h1 | h1; exact hne h1.symm; omega)).trans (h.block i hi hne)⟩
theorem fl_snoc (ps : Ly) (e : Int × Int) : fl (ps ++ [e]) = fl ps ++ [e.1, e.2] := by rw [fl_append]; rfl
theorem wp_append_pair {w : World} {o : Oper} {a : Act} {K : Act → World → Prop} {Q : Exit → Act → World → Prop} (s x : Operand)
    (ho : o.op = .call { callee := .builtin .append, args := #[s, x], argTypes := #[41, 41] })
    (base n c q B : Nat) (A : Option Addr) (ps : Ly) (e : Int × Int) (hs : a.eval s = .slice A n c) (hx : a.eval x = .slice (some ⟨q, 0, none⟩) 1 1) (hp : PrR w base A n c ps) (hq : Ints w B (some ⟨q, 0, none⟩) (1 * 2) [e.1, e.2])
    (hn : n + 1 ≤ 1000000000000) (hb : base ≤ w.heap.size)
    (h : ∀ A2 c2 w', PrR w' base A2 (n + 1) c2 (ps ++ [e]) → w.grownBy w' (Value.slice A n c).ownBlock →
      ((Value.slice A2 (n + 1) c2).ownBlock = (Value.slice A n c).ownBlock ∨ (Value.slice A2 (n + 1) c2).ownBlock = some w.heap.size) → K (a.put o.dst (.slice A2 (n + 1) c2)) w') : o.wp Try.prog a w K Q :=
  wp_append_recs pairT s x ho base n c B 1 1 A (some ⟨q, 0, none⟩) (fl ps) [e.1, e.2] hs hp.2 hx hq hn hb fun A2 c2 w' h1 h2 h3 => h A2 c2 w' ⟨by rw [List.length_append, hp.1]; rfl, by rw [fl_snoc]; exact h1⟩ h2 h3
theorem step_append_pair {w : World} {ops : Array Oper} {o : Oper} {a : Act} {K : Act → World → Prop} {Q : Exit → Act → World → Prop} {E : Prop} (hgd : o.guard = none) (s x : Operand)
    (ho : o.op = .call { callee := .builtin .append, args := #[s, x], argTypes := #[41, 41] })
    (base n c q B : Nat) (A : Option Addr) (ps : Ly) (e : Int × Int) (hs : a.eval s = .slice A n c) (hx : a.eval x = .slice (some ⟨q, 0, none⟩) 1 1) (hp : PrR w base A n c ps) (hq : Ints w B (some ⟨q, 0, none⟩) (1 * 2) [e.1, e.2])
    (hn : n + 1 ≤ 1000000000000) (hb : base ≤ w.heap.size)
    (h : ∀ A2 c2 w', PrR w' base A2 (n + 1) c2 (ps ++ [e]) → w.grownBy w' (Value.slice A n c).ownBlock →
      ((Value.slice A2 (n + 1) c2).ownBlock = (Value.slice A n c).ownBlock ∨ (Value.slice A2 (n + 1) c2).ownBlock = some w.heap.size) → K (a.put o.dst (.slice A2 (n + 1) c2)) w') :
    if Region.wanted o (yielded ops a.tmps) = true then Oper.wp Try.prog o a w K Q else E := by
  have hw : Region.wanted o (yielded ops a.tmps) = true := by simp [Region.wanted, hgd]
  rw [if_pos hw]
  exact wp_append_pair s x ho base n c q B A ps e hs hx hp hq hn hb h

theorem Ints.of_blk2 {w : World} {q : Nat} {t : TypeId} {x y : Int} (h : Blk w q t #[.int .i64 x, .int .i64 y]) : Ints w w.heap.size (some ⟨q, 0, none⟩) (1 * 2) [x, y] := by
  refine ⟨rfl, fun _ => ⟨_, rfl, h.lt, fun j hj => ?_⟩⟩
  rw [add_plain', h.cell j]
  rcases j with _ | _ | j
  · rfl
  · rfl
  · omega
/-- on the way: the tree's left part is appended -/
def MidT (w : World) (base : Nat) (A : Option Addr) (n c : Nat) (ps qs : Ly) (m : Nat) (W : World) (A2 : Option Addr) (c2 : Nat) : Prop :=
  PrR W base A2 (n + m) c2 (ps ++ qs) ∧ w.grownBy W (Value.slice A n c).ownBlock ∧ (∀ g, (Value.slice A2 (n + m) c2).ownBlock = some g → (Value.slice A n c).ownBlock = some g ∨ w.heap.size ≤ g)
theorem MidT.alloc {w W : World} {base n c m c2 : Nat} {A A2 : Option Addr} {ps qs : Ly} (h : MidT w base A n c ps qs m W A2 c2) (o : Obj) : MidT w base A n c ps qs m (W.alloc o) A2 c2 :=
  ⟨h.1.alloc o, grown_alloc h.2.1 o, h.2.2⟩
theorem MidT.next {w W W3 : World} {base n c m c2 c3 : Nat} {A A2 A3 : Option Addr} {ps qs : Ly} {e : Int × Int} (h : MidT w base A n c ps qs m W A2 c2) (hp : PrR W3 base A3 (n + m + 1) c3 (ps ++ qs ++ [e])) (hg : W.grownBy W3 (Value.slice A2 (n + m) c2).ownBlock)
    (hat : (Value.slice A3 (n + m + 1) c3).ownBlock = (Value.slice A2 (n + m) c2).ownBlock ∨ (Value.slice A3 (n + m + 1) c3).ownBlock = some W.heap.size) : MidT w base A n c ps (qs ++ [e]) (m + 1) W3 A3 c3 := by
  refine ⟨by rw [← List.append_assoc]; exact hp, grown_next h.2.1 hg h.2.2, fun g hg' => ?_⟩
  rcases hat with h1 | h1
  · exact h.2.2 g (h1 ▸ hg')
  · rw [show n + (m + 1) = n + m + 1 from rfl, h1] at hg'
    injection hg' with hg'
    right
    rw [← hg']
    exact h.2.1.size
theorem MidT.cell {w W : World} {base n c m c2 : Nat} {A A2 : Option Addr} {ps qs : Ly} (h : MidT w base A n c ps qs m W A2 c2) {p : Addr} (hp : p.block < w.heap.size) (hn : ∀ g, (Value.slice A n c).ownBlock = some g → g ≠ p.block) : W.cell? p = w.cell? p :=
  World.cell?_of_block (h.2.1.block p.block hp fun e => hn _ e.symm rfl)

set_option maxHeartbeats 3200000 in
theorem appendTo_any (base : Nat) (t : Tr) : ∀ (w : World) (A : Option Addr) (n c : Nat) (ps : Ly), TrI w t → PrR w base A n c ps → base ≤ w.heap.size → n + t.vals.length ≤ 1000000 →
    Calls Try.prog 38 #[.pointer t.pt, .slice A n c] w (AppT w base A n c ps t) := by
  induction t with
  | nil =>
    intro w A n c ps h hp hb hn
    show Calls Try.prog 38 #[.pointer none, .slice A n c] w _
    have HP := hide hp
    clear hp
    go_enter Try.func38, Try.ntmps38
    go_wp2
    go_ret
    refine ⟨A, c, rfl, ?_, grown_refl _ _, fun g hg => .inl hg⟩
    rw [show ps ++ Tr.nil.vals = ps from List.append_nil ps]
    exact HP.out
  | node g lt e rt ihl ihr =>
    intro w A n c ps h hp hb hn
    show Calls Try.prog 38 #[.pointer (some ⟨g, 0, none⟩), .slice A n c] w _
    obtain ⟨c0, c1, c2, c3⟩ := node_cells h
    obtain ⟨x, y⟩ := e
    have hgl := h.1.lt
    have hoff := hp.off h
    have hne : ∀ i, (Value.slice A n c).ownBlock = some i → i ≠ g := fun i hi e => hoff i hi (by rw [e]; exact mem_node.2 (.inl rfl))
    have hl : (Tr.node g lt (x, y) rt).vals.length = lt.vals.length + 1 + rt.vals.length := by rw [vals_mid, List.length_append, List.length_cons]; omega
    rw [hl] at hn
    have HL1 := hide (show Calls Try.prog 38 #[.pointer lt.pt, .slice A n c] (w.drewN 1) (fun x1 w2 => ∃ A2 c2, x1 = .returned (.slice A2 (n + lt.vals.length) c2) ∧ MidT w base A n c ps lt.vals lt.vals.length w2 A2 c2) from by
      refine (ihl (w.drewN 1) A n c ps (h.2.1.drewN 1) (hp.drewN 1) hb (by omega)).mono ?_
      rintro x1 w2 ⟨A2, c2, rfl, h1, h2, h3⟩
      exact ⟨A2, c2, rfl, h1, grown_undrawn h2, h3⟩)
    have HL2 := hide (show Calls Try.prog 38 #[.pointer lt.pt, .slice A n c] ((w.drewN 1).alloc (.cells #[.int .i64 x, .int .i64 y] 57)) (fun x1 w2 => ∃ A2 c2, x1 = .returned (.slice A2 (n + lt.vals.length) c2) ∧ MidT w base A n c ps lt.vals lt.vals.length w2 A2 c2 ∧ Ints w2 w2.heap.size (some ⟨w.heap.size, 0, none⟩) (1 * 2) [x, y]) from by
      refine (ihl ((w.drewN 1).alloc (.cells #[.int .i64 x, .int .i64 y] 57)) A n c ps ((h.2.1.drewN 1).alloc _) ((hp.drewN 1).alloc _) (by simp; omega) (by omega)).mono ?_
      rintro x1 w2 ⟨A2, c2, rfl, h1, h2, h3⟩
      have hg : w.grownBy w2 (Value.slice A n c).ownBlock := ⟨h2.os, h2.tape, h2.output, by have := h2.size; simp at this; omega, fun i hi hne => (h2.block i (by simp; omega) hne).trans (Below.heap_alloc _ _ i hi)⟩
      refine ⟨A2, c2, rfl, ⟨h1, hg, fun i hi => (h3 i hi).imp id (fun h => by simp at h; omega)⟩, ?_⟩
      have hbk : Blk w2 w.heap.size 57 #[.int .i64 x, .int .i64 y] := (Blk.new (w.drewN 1) 57 #[.int .i64 x, .int .i64 y]).grown h2 fun e => by
        have := (hp.block _ e.symm).2
        exact Nat.lt_irrefl _ this
      exact Ints.of_blk2 hbk)
    have HR := hide fun (W : World) (A2 : Option Addr) (c2 : Nat) (hm : MidT w base A n c ps (lt.vals ++ [(x, y)]) (lt.vals.length + 1) W A2 c2) => by
      have hrt : TrI W rt := h.2.2.grown hm.2.1 fun i hi hmem => hoff i hi (mem_node.2 (.inr (.inr hmem)))
      exact ihr W A2 (n + (lt.vals.length + 1)) c2 (ps ++ (lt.vals ++ [(x, y)])) hrt hm.1 (Nat.le_trans hb hm.2.1.size) (by omega)
    have HF := hide (show ∀ (W : World) (A2 : Option Addr) (c2 : Nat) (w' : World) (x1 : Ending), MidT w base A n c ps (lt.vals ++ [(x, y)]) (lt.vals.length + 1) W A2 c2 → AppT W base A2 (n + (lt.vals.length + 1)) c2 (ps ++ (lt.vals ++ [(x, y)])) rt x1 w' → AppT w base A n c ps (.node g lt (x, y) rt) x1 w' from by
      rintro W A2 c2 w' x1 hm ⟨A3, c3, rfl, h1, h2, h3⟩
      have e1 : n + (lt.vals.length + 1) + rt.vals.length = n + (Tr.node g lt (x, y) rt).vals.length := by rw [hl]; omega
      have e2 : ps ++ (lt.vals ++ [(x, y)]) ++ rt.vals = ps ++ (Tr.node g lt (x, y) rt).vals := by rw [vals_mid]; simp
      rw [e1] at h1 h3 ⊢
      rw [e2] at h1
      refine ⟨A3, c3, rfl, h1, grown_next hm.2.1 h2 hm.2.2, fun i hi => ?_⟩
      rcases h3 i hi with h4 | h4
      · exact hm.2.2 i h4
      · exact .inr (Nat.le_trans hm.2.1.size h4))
    have hnm : n + lt.vals.length + 1 ≤ 1000000000000 := by omega
    generalize lt.vals.length = ll at *
    generalize lt.vals = lv at *
    generalize lt.pt = lp at *
    have cc : ∀ (W : World) (A2 : Option Addr) (m c2 : Nat) (qs : Ly), MidT w base A n c ps qs m W A2 c2 → W.cell? ⟨g, 0, none⟩ = some (.int .i64 x) ∧ W.cell? ⟨g, 1, none⟩ = some (.int .i64 y) ∧ W.cell? ⟨g, 2, none⟩ = some (.pointer lp) := fun W A2 m c9 qs hm =>
      ⟨(hm.cell (p := ⟨g, 0, none⟩) hgl hne).trans c0, (hm.cell (p := ⟨g, 1, none⟩) hgl hne).trans c1, (hm.cell (p := ⟨g, 2, none⟩) hgl hne).trans c2⟩
    have CC := hide cc
    have C3 := hide fun (W : World) (A2 : Option Addr) (m c9 : Nat) (qs : Ly) (hm : MidT w base A n c ps qs m W A2 c9) => (hm.cell (p := ⟨g, 3, none⟩) hgl hne).trans c3
    have a0 : ∀ o : Obj, (w.drew.alloc o).cell? ⟨g, 0, none⟩ = some (.int .i64 x) := fun o => (World.cell?_alloc_lt w.drew o ⟨g, 0, none⟩ hgl).trans c0
    have a1 : ∀ o : Obj, (w.drew.alloc o).cell? ⟨g, 1, none⟩ = some (.int .i64 y) := fun o => (World.cell?_alloc_lt w.drew o ⟨g, 1, none⟩ hgl).trans c1
    have a2 : ∀ o : Obj, (w.drew.alloc o).cell? ⟨g, 2, none⟩ = some (.pointer lp) := fun o => (World.cell?_alloc_lt w.drew o ⟨g, 2, none⟩ hgl).trans c2
    have AA := hide fun o => (⟨a0 o, a1 o, a2 o⟩ : _ ∧ _ ∧ _)
    clear h hp hoff ihl ihr hl cc a0 a1 a2
    go_enter Try.func38, Try.ntmps38
    go_wp2_with fail
    go_region_held3 (fun W => W.cell? ⟨g, 0, none⟩ = some (.int .i64 x) ∧ W.cell? ⟨g, 1, none⟩ = some (.int .i64 y) ∧ W.cell? ⟨g, 2, none⟩ = some (.pointer lp))
      (first
        | (exact CC.out _ _ _ _ _ HM3)
        | (exact CC.out _ _ _ _ _ HM2)
        | (exact CC.out _ _ _ _ _ (HM2.alloc _))
        | (exact AA.out _)
        | go_keep)
      ((first
        | (go_at_call 38; refine HL1.out.mono ?_; rintro x1 w2 ⟨A2, c4, rfl, HM2⟩)
        | (go_at_call 38; refine HL2.out.mono ?_; rintro x1 w2 ⟨A2, c4, rfl, HM2, HIN⟩)
        | (refine step_append_pair ?_ (.tmp 13) (.tmp 18) ?_ base (n + ll) c4 w.heap.size w2.heap.size A2 (ps ++ lv) (x, y) ?_ ?_ ?_ ?_ ?_ ?_ ?_; rfl; rfl; rfl; rfl; exact HM2.1; exact HIN; exact hnm; exact Nat.le_trans hb HM2.2.1.size; intro A3 c5 w3 h1 h2 h3; have HM3 := HM2.next h1 h2 h3)
        | (refine step_append_pair ?_ (.tmp 13) (.tmp 18) ?_ base (n + ll) c4 w2.heap.size (w2.heap.size + 1) A2 (ps ++ lv) (x, y) ?_ ?_ ?_ ?_ ?_ ?_ ?_; rfl; rfl; rfl; rfl; exact (HM2.alloc _).1; exact Ints.rec2 w2 57 x y; exact hnm; exact Nat.le_trans hb (HM2.alloc (.cells #[.int .i64 x, .int .i64 y] 57)).2.1.size; intro A3 c5 w3 h1 h2 h3; have HM3 := (HM2.alloc _).next h1 h2 h3)))
    all_goals
      have r3 := C3.out _ _ _ _ _ HM3
      have HM := hide HM3
      clear HM2 HM3 h1 h2 h3
      go_wp2_with fail
      refine (HR.out _ _ _ HM.out).mono ?_
      intro x1 w4 hx
      have HX := hide (HF.out _ _ _ _ _ HM.out hx)
      obtain ⟨A9, c9, rfl, _⟩ := hx
      go_wp2
      go_ret
      exact HX.out
end Go.Proofs.Ytapfbkjgmfmepab
