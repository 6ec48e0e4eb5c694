/-
  The methods of the merger: Len, Less, Swap, Push, Pop.
-/
import Derived.Test.YtfianpjoifcphaaGreatCmpF
import Derived.Deep.RegionLaw
import Derived.StillTailTactics
import Derived.Deep.Cut
namespace Go.Proofs.YtfianpjoifcphaaGreat
open Go.RowKit
set_option linter.unusedVariables false
set_option maxRecDepth 100000

theorem below_undrewM_MrgI {B : Nat} {a w : World} {i : Nat} (h : Below B (a.drewN i) w) : Below B a w := ⟨h.os, h.tape, h.output, h.size, h.block⟩
theorem grown1M (w : World) (g i : Nat) (a : Value) : w.grownBy (w.setCell ⟨g, i, none⟩ a) (some g) :=
  ⟨rfl, rfl, rfl, by simp [World.setCell], fun q hq hne => Below.heap_setCell w ⟨g, i, none⟩ a q (fun e => hne (by rw [e]))⟩
theorem len_any (A : Option Addr) (n c : Nat) (w : World) : Calls Tryz.prog 303 #[.slice A n c] w fun e w' => e = .returned (.int .i64 n) ∧ w' = w := by
  go_enter Tryz.func303, Tryz.ntmps303
  go_wp2
  go_ret
  exact ⟨rfl, rfl⟩

theorem hd_of {q : Fq} {t qs : List Fq} (h : qs = q :: t) : hdF (fns qs) = q.fn := by subst h; rfl

set_option maxHeartbeats 3200000 in
theorem less_any (base b n c i j : Nat) (A : Option Addr) (hs : List Hq) (w : World) (hm : Mg w base b A n c hs) (hi : i < n) (hj : j < n) :
    Calls Tryz.prog 304 #[.slice A n c, .int .i64 i, .int .i64 j] w fun e w' => e = .returned (.bool (decide (cmpF (keyL (fnH hs) i) (keyL (fnH hs) j) < 0))) ∧ Below w.heap.size w w' := by
  obtain ⟨x, hx⟩ : ∃ x, hs[i]? = some x := ⟨_, List.getElem?_eq_getElem (by rw [hm.len]; exact hi)⟩
  obtain ⟨y, hy⟩ : ∃ y, hs[j]? = some y := ⟨_, List.getElem?_eq_getElem (by rw [hm.len]; exact hj)⟩
  obtain ⟨g, rfl, hg0, hgl, hgb, c0, f0, cur, hcur⟩ := hm.at_ hx
  obtain ⟨g', e', _, _, _, c1, f1, _, _⟩ := hm.at_ hy
  injection e' with e'
  injection e' with e'
  subst e'
  obtain ⟨p, q, t, hp, hq, hl, hpb, b0, b1, b2, b3, b4⟩ := (hm.lst x (List.mem_of_getElem? hx)).head
  obtain ⟨p', q', t', hp', hq', hl', hpb', d0, d1, d2, d3, d4⟩ := (hm.lst y (List.mem_of_getElem? hy)).head
  rw [keyL_at hx, keyL_at hy]
  unfold Hq.fs
  rw [hd_of hq, hd_of hq']
  unfold Hq.sl at c0 c1
  rw [hp] at c0
  rw [hp'] at c1
  have HC := hide (compareF_any q q' (w.drewN 1))
  generalize cmpF q.fn q'.fn = r at HC ⊢
  generalize x.qs.length = lx at *
  generalize y.qs.length = ly at *
  have i0 : (0 : Int) ≤ (i : Int) := by omega
  have i1 : (i : Int) < (n : Int) := by omega
  have j0 : (0 : Int) ≤ (j : Int) := by omega
  have j1 : (j : Int) < (n : Int) := by omega
  have l0 : (0 : Int) < (lx : Int) := by omega
  have l1 : (0 : Int) < (ly : Int) := by omega
  clear hm hx hy hp hp' hq hq' hcur f0 f1 hgb
  obtain ⟨qz, qa, qk, qs, qv, qp, qc⟩ := q
  obtain ⟨rz, ra, rk, rs, rv, rp, rc⟩ := q'
  simp only [Fq.sl] at b0 b1 b2 b3 b4 d0 d1 d2 d3 d4 HC
  generalize qv.length = ql at *
  generalize rv.length = rl at *
  go_enter Tryz.func304, Tryz.ntmps304
  go_wp2_with fail
  go_still_tail 12, (by kernel_rfl)
  change wpList _ _ _ _ _ (w.drewN 1)
  go_wp2_with fail
  refine HC.out.mono ?_
  rintro e w1 ⟨rfl, k, os, rfl⟩
  go_wp2
  go_ret
  exact ⟨rfl, below_grow w (1 + k) os⟩

/-- two lists of the row exchanged -/
theorem Mg.swap {base b n c i j g : Nat} {hs : List Hq} {w : World} {x y : Hq} (h : Mg w base b (some ⟨g, 0, none⟩) n c hs) (hx : hs[i]? = some x) (hy : hs[j]? = some y) :
    Mg ((w.setCell ⟨g, i, none⟩ y.sl).setCell ⟨g, j, none⟩ x.sl) base b (some ⟨g, 0, none⟩) n c (swL hs i j) ∧ Trn base w ((w.setCell ⟨g, i, none⟩ y.sl).setCell ⟨g, j, none⟩ x.sl) := by
  obtain ⟨g', e', hg0, hgl, hgb, c0, f0, cur, hcur⟩ := h.at_ hx
  injection e' with e'
  injection e' with e'
  subst e'
  have h1 := h.row.stored i y.sl
  have hb1 : Blk (w.setCell ⟨g, i, none⟩ y.sl) g 86 (cur.setIfInBounds i y.sl) := hcur.set_ i y.sl
  have h2 := h1.1.stored j x.sl
  have hT1 : Trn base w (w.setCell ⟨g, i, none⟩ y.sl) := .of_grown h1.2 hg0 h.bw hcur (.inr rfl)
  have hT2 : Trn base (w.setCell ⟨g, i, none⟩ y.sl) ((w.setCell ⟨g, i, none⟩ y.sl).setCell ⟨g, j, none⟩ x.sl) := .of_grown h2.2 hg0 (Nat.le_trans h.bw hT1.size) hb1 (.inr rfl)
  have hT := hT1.trans hT2
  have e : slH (swL hs i j) = ((slH hs).set i y.sl).set j x.sl := by
    unfold slH
    rw [swL_map, swL_eq (l := hs.map Hq.sl) (by rw [List.getElem?_map, hx]; rfl) (by rw [List.getElem?_map, hy]; rfl)]
  refine ⟨⟨(h.cell.far (p := ⟨g, i, none⟩) (Ne.symm hgb) _).far (p := ⟨g, j, none⟩) (Ne.symm hgb) _, by rw [e]; exact h2.1, by rw [swL_length]; exact h.len, h.bb, fun z hz => ?_, h.small⟩, hT⟩
  exact (h.lst z ((swL_perm hs i j).mem_iff.1 hz)).trn hT

set_option maxHeartbeats 3200000 in
theorem swap_any (base b n c i j : Nat) (A : Option Addr) (hs : List Hq) (w : World) (hm : Mg w base b A n c hs) (hi : i < n) (hj : j < n) :
    Calls Tryz.prog 305 #[.slice A n c, .int .i64 i, .int .i64 j] w fun e w' => e = .returned (.tuple #[]) ∧ Mg w' base b A n c (swL hs i j) ∧ Trn base w w' := by
  obtain ⟨x, hx⟩ : ∃ x, hs[i]? = some x := ⟨_, List.getElem?_eq_getElem (by rw [hm.len]; exact hi)⟩
  obtain ⟨y, hy⟩ : ∃ y, hs[j]? = some y := ⟨_, List.getElem?_eq_getElem (by rw [hm.len]; exact hj)⟩
  obtain ⟨g, rfl, hg0, hgl, hgb, c0, f0, cur, hcur⟩ := hm.at_ hx
  obtain ⟨g', e', _, _, _, c1, f1, _, _⟩ := hm.at_ hy
  injection e' with e'
  injection e' with e'
  subst e'
  have HS := hide fun k => (hm.drewN k).swap hx hy
  have hf2 : (w.setCell ⟨g, i, none⟩ y.sl).frozen? ⟨g, j, none⟩ = false := (hcur.set_ i y.sl).frozen j
  have hc2 : ∃ v, (w.setCell ⟨g, i, none⟩ y.sl).cell? ⟨g, j, none⟩ = some v := by
    have h1 := (hm.row.stored i y.sl).1.cells rfl j
    have hl : ((slH hs).set i y.sl).length = n := by rw [List.length_set, slH_length, hm.len]
    have h2 := h1 _ (List.getElem?_eq_getElem (by rw [hl]; exact hj))
    rw [add_plain'] at h2
    exact ⟨_, h2⟩
  obtain ⟨v2, hc2⟩ := hc2
  unfold Hq.sl at c0 c1 hf2 hc2 HS
  have i0 : (0 : Int) ≤ (i : Int) := by omega
  have i1 : (i : Int) < (n : Int) := by omega
  have j0 : (0 : Int) ≤ (j : Int) := by omega
  have j1 : (j : Int) < (n : Int) := by omega
  clear hm hx hy hcur hgb
  generalize x.qs.length = lx at *
  generalize y.qs.length = ly at *
  generalize x.addr = ax at *
  generalize y.addr = ay at *
  generalize x.cap = cx at *
  generalize y.cap = cy at *
  have HP1 := hide (add_plain' g i)
  have HP2 := hide (add_plain' g j)
  have q1 := HP1.out
  have q2 := HP2.out
  go_enter Tryz.func305, Tryz.ntmps305
  go_region
  exact bodyPost_end (results_none Tryz.results305 _ _ _) rfl ⟨rfl, (HS.out 1).1, (HS.out 1).2.undrewN⟩

theorem lstT : RT 152 86 1 24 (.slice none 0 0) := ⟨Tryz.underlying152, by kernel_rfl, by decide, by decide, by decide⟩
theorem step_append_lists {w : World} {ops : Array Oper} {o : Oper} {a : Act} {K : Act → World → Prop} {Q : Exit → Act → World → Prop} {E : Prop} (hgd : o.guard = none) (s x : Operand)
    (ho : o.op = .call { callee := .builtin .append, args := #[s, x], argTypes := #[152, 152] })
    (base n c m d : Nat) (A : Option Addr) (ad : Addr) (vs us : List Value) (hs : a.eval s = .slice A n c) (hx : a.eval x = .slice (some ad) m d) (hown : w.ownsRow base 86 1 (.slice A n c) n vs)
    (hl : us.length = m * 1) (hone : ∀ u ∈ us, u.oneCell' = true) (hr : ∀ j u, us[j]? = some u → w.cell? (ad.add j) = some u) (hn : n + m ≤ 1000000000000) (hbase : base ≤ w.heap.size)
    (h : ∀ A2 c2 w', w'.ownsRow base 86 1 (.slice A2 (n + m) c2) (n + m) (vs ++ us) → w.grownBy w' (Value.slice A n c).ownBlock →
      ((Value.slice A2 (n + m) c2).ownBlock = (Value.slice A n c).ownBlock ∨ (Value.slice A2 (n + m) c2).ownBlock = some w.heap.size) → K (a.put o.dst (.slice A2 (n + m) c2)) w') :
    if Region.wanted o (yielded ops a.tmps) = true then Oper.wp Tryz.prog o a w K Q else E := by
  have hw : Region.wanted o (yielded ops a.tmps) = true := by simp [Region.wanted, hgd]
  rw [if_pos hw]
  obtain ⟨A2, c2, w', hrun, h2, h3, h4⟩ := run_append_valsF lstT w base n c m d A ad vs us o.type hown hl hone hr hn hbase
  unfold Oper.wp execOp
  simp only [ho, resolve, invoke, builtin, Sem.run_bind, Sem.run_pure, Result.andThen_ok, List.map_toArray, List.map_cons, List.map_nil, hs, hx, hrun]
  exact h A2 c2 w' h2 h3 h4

/-- a list more: the row grown in w', the merger's cell set -/
theorem Mg.push {base b n c c2 : Nat} {A A2 : Option Addr} {hs : List Hq} {x : Hq} {w w' : World} {o : Obj} (h : Mg w base b A n c hs) (hx : LstOk w base x) (hn : n < 1000)
    (hr : w'.ownsRow base 86 1 (.slice A2 (n + 1) c2) (n + 1) (slH hs ++ [x.sl])) (hg : (w.alloc o).grownBy w' (Value.slice A n c).ownBlock)
    (hat : (Value.slice A2 (n + 1) c2).ownBlock = (Value.slice A n c).ownBlock ∨ (Value.slice A2 (n + 1) c2).ownBlock = some (w.alloc o).heap.size) :
    Blk w' b 152 #[.slice A n c] ∧ Mg (w'.setCell ⟨b, 0, none⟩ (.slice A2 (n + 1) c2)) base b A2 (n + 1) c2 (hs ++ [x]) ∧ Trn base w (w'.setCell ⟨b, 0, none⟩ (.slice A2 (n + 1) c2)) := by
  have hbw := h.bw
  have hal : Trn base w (w.alloc o) := .of_below ((Below.refl _ w).alloc (Nat.le_refl _) o) hbw
  have hT1 : Trn base (w.alloc o) w' ∧ (Value.slice A n c).ownBlock ≠ some b := by
    rcases h.row.2 with ⟨hv, h0⟩ | ⟨g, cap, cur, hv, hb, hh, hc, hm, hs', ht⟩
    · rw [hv] at hg ⊢
      refine ⟨.of_below ?_ (Nat.le_trans hbw hal.size), by simp [Value.ownBlock]⟩
      exact ⟨hg.os, hg.tape, hg.output, hg.size, fun k hk => hg.block k hk (by simp [Value.ownBlock])⟩
    · have hbl : Blk w g 86 cur := hh
      rw [hv] at hg ⊢
      refine ⟨.of_grown hg hb (Nat.le_trans hbw hal.size) (hbl.alloc o) (.inr rfl), fun e => ?_⟩
      have e' : g = b := by simpa [Value.ownBlock] using e
      subst e'
      have hc := h.cell
      unfold Blk at hc hbl
      rw [hc] at hbl
      injection hbl with hbl
      injection hbl with _ e4
      exact absurd e4 (by decide)
  have hcell : Blk w' b 152 #[.slice A n c] := (h.cell.alloc o).grown hg (fun e => hT1.2 e.symm)
  have hcs := hcell.set_ 0 (.slice A2 (n + 1) c2)
  have hne : (Value.slice A2 (n + 1) c2).ownBlock ≠ some b := by
    rcases hat with e | e
    · rw [e]; exact hT1.2
    · rw [e]; intro e2; injection e2 with e2; have := h.cell.lt; simp at e2; omega
  have hgs : w'.grownBy (w'.setCell ⟨b, 0, none⟩ (.slice A2 (n + 1) c2)) (some b) := grown1M _ _ _ _
  have hT2 : Trn base w' (w'.setCell ⟨b, 0, none⟩ (.slice A2 (n + 1) c2)) := .of_grown hgs h.bb (Nat.le_trans (Nat.le_trans hbw hal.size) hT1.1.size) hcell (.inl rfl)
  have hT := (hal.trans hT1.1).trans hT2
  refine ⟨hcell, ⟨hcs, ?_, by rw [List.length_append, h.len]; rfl, h.bb, fun z hz => ?_, by omega⟩, hT⟩
  · have : slH (hs ++ [x]) = slH hs ++ [x.sl] := by unfold slH; rw [List.map_append]; rfl
    rw [this]
    exact hr.kept hgs (.inr hne)
  · simp only [List.mem_append, List.mem_singleton] at hz
    rcases hz with hz | rfl
    · exact (h.lst z hz).trn hT
    · exact hx.trn hT

set_option maxHeartbeats 3200000 in
theorem push_any (base b n c : Nat) (A : Option Addr) (hs : List Hq) (x : Hq) (w : World) (hm : Mg w base b A n c hs) (hx : LstOk w base x) (hn : n < 1000) :
    Calls Tryz.prog 307 #[.pointer (some ⟨b, 0, none⟩), .iface 86 x.sl] w fun e w' => e = .returned (.tuple #[]) ∧ ∃ A2 c2, Mg w' base b A2 (n + 1) c2 (hs ++ [x]) ∧ Trn base w w' := by
  have hTA : ∀ W, Sem.run Tryz.prog (Instr.typeAssert (.iface 86 x.sl) 20 86 false) W = .ok x.sl W := fun W => by kernel_rfl
  have c0 := hm.cell.cell 0
  simp only [List.getElem?_toArray, List.getElem?_cons_zero] at c0
  have HM := hide hm
  have HX := hide hx
  have hbw := hm.bw
  have HONE : Hid (∀ u ∈ [x.sl], u.oneCell' = true) := by
    intro u hu
    simp only [List.mem_singleton] at hu
    subst hu
    rfl
  have HCL : Hid (∀ W : World, ∀ j u, [x.sl][j]? = some u → (W.alloc (.cells #[x.sl] 86)).cell? (Addr.add ⟨W.heap.size, 0, none⟩ j) = some u) := by
    intro W j u hu
    rw [add_plain', (Blk.new W 86 #[x.sl]).cell j]
    rcases j with _ | j
    · exact hu
    · simp at hu
  clear hm hx
  unfold Hq.sl at hTA HONE HCL ⊢
  have HXL : Hid (Hq.sl x = .slice x.addr x.qs.length x.cap) := rfl
  generalize x.addr = xa at *
  generalize hxl : x.qs.length = xl at *
  generalize x.cap = xc at *
  clear hxl
  go_enter Tryz.func307, Tryz.ntmps307
  have hn9 : n + 1 ≤ 1000000000000 := by omega
  have c0' : (w.alloc (.cells #[.slice xa xl xc] 86)).drew.cell? ⟨b, 0, none⟩ = some (.slice A n c) := by
    have h := (HM.out.cell.alloc (.cells #[.slice xa xl xc] 86)).cell 0
    exact h
  go_region_law (first
    | (refine step_append_lists ?_ (.tmp 7) (.tmp 10) ?_ base n c 1 1 A ⟨w.heap.size, 0, none⟩ (slH hs) [.slice xa xl xc] ?_ ?_ ?_ ?_ ?_ ?_ ?_ ?_ ?_; rfl; rfl; rfl; rfl; exact HM.out.row.alloc _; rfl; exact HONE.out; exact HCL.out _; exact hn9; (simp; omega); intro A2 c2 w2 ho2 hg2 hat2; have hpu := HM.out.push HX.out hn (by rw [HXL.out]; exact ho2) ⟨hg2.os, hg2.tape, hg2.output, hg2.size, hg2.block⟩ hat2; have hc2 := hpu.1.cell 0; have hf2 := hpu.1.frozen 0; simp only [List.getElem?_toArray, List.getElem?_cons_zero] at hc2; have HP := hide hpu.2; clear hpu ho2 hg2 hat2))
  all_goals exact bodyPost_end (results_none Tryz.results307 _ _ _) rfl ⟨rfl, A2, c2, HP.out.1, HP.out.2⟩

/-- the last list taken away -/
theorem Mg.pop {base b n c : Nat} {A : Option Addr} {hs : List Hq} {x : Hq} {w : World} (h : Mg w base b A (n + 1) c (hs ++ [x])) :
    Mg (w.setCell ⟨b, 0, none⟩ (.slice A n c)) base b A n c hs ∧ Trn base w (w.setCell ⟨b, 0, none⟩ (.slice A n c)) := by
  have hgs : w.grownBy (w.setCell ⟨b, 0, none⟩ (.slice A n c)) (some b) := grown1M _ _ _ _
  have hT : Trn base w (w.setCell ⟨b, 0, none⟩ (.slice A n c)) := .of_grown hgs h.bb h.bw h.cell (.inl rfl)
  have hl : hs.length = n := by have := h.len; rw [List.length_append] at this; simpa using this
  obtain ⟨g, rfl, hg0, hgl, hgb, _⟩ := h.at_ (k := n) (x := x) (by rw [List.getElem?_append_right (by omega)]; simp [hl])
  refine ⟨⟨h.cell.set_ 0 (.slice (some ⟨g, 0, none⟩) n c), ⟨by rw [slH_length, hl]; omega, ?_⟩, hl, h.bb, fun z hz => (h.lst z (List.mem_append_left _ hz)).trn hT, by have := h.small; omega⟩, hT⟩
  rcases h.row.2 with ⟨hv, h0⟩ | ⟨g1, cap, cur, hv, hb, hh, hc, hm, hs', ht⟩
  · omega
  · injection hv with h1 h2 h3
    injection h1 with h1
    injection h1 with h1
    subst h1
    subst h3
    have hbl : Blk w g 86 cur := hh
    refine .inr ⟨g, c, cur, rfl, hb, hbl.grown hgs (by intro e; injection e with e; exact hgb e), by omega, hm, hs', ?_⟩
    have e : slH (hs ++ [x]) = slH hs ++ [x.sl] := by unfold slH; rw [List.map_append]; rfl
    rw [e] at ht
    have h4 := congrArg (List.take (n * 1)) ht
    rw [List.take_take, Nat.min_eq_left (by omega), List.take_left' (by rw [slH_length, hl]; omega)] at h4
    exact h4

set_option maxHeartbeats 3200000 in
theorem pop_any (base b n c : Nat) (A : Option Addr) (hs : List Hq) (x : Hq) (w : World) (hm : Mg w base b A (n + 1) c (hs ++ [x])) :
    Calls Tryz.prog 306 #[.pointer (some ⟨b, 0, none⟩)] w fun e w' => e = .returned (.iface 86 x.sl) ∧ Mg w' base b A n c hs ∧ Trn base w w' := by
  have c0 := hm.cell.cell 0
  simp only [List.getElem?_toArray, List.getElem?_cons_zero] at c0
  have f0 := hm.cell.frozen 0
  have hl : hs.length = n := by have := hm.len; rw [List.length_append] at this; simpa using this
  obtain ⟨g, rfl, hg0, hgl, hgb, c1, _⟩ := hm.at_ (k := n) (x := x) (by rw [List.getElem?_append_right (by omega)]; simp [hl])
  have HP := hide hm.pop
  have hcap := hm.nilA
  have hsm := hm.small
  have HPA := hide (add_plain' g n)
  have q1 := HPA.out
  have kw : IntKind.i64.wrap (((n + 1 : Nat) : Int) - 1) = (n : Int) := IntWalk.i64_in _ (by omega) |>.trans (by omega)
  have k0 : (0 : Int) ≤ (n : Int) := by omega
  have k1 : (n : Int) < ((n + 1 : Nat) : Int) := by omega
  have k2 : (n : Int) ≤ (c : Int) := by omega
  clear hm hl hcap
  unfold Hq.sl at c1 ⊢
  generalize x.addr = xa at *
  generalize hxl : x.qs.length = xl at *
  generalize x.cap = xc at *
  clear hxl
  obtain ⟨N1, hN1⟩ : ∃ N1, n + 1 = N1 := ⟨_, rfl⟩
  rw [hN1] at c0 kw k1
  go_enter Tryz.func306, Tryz.ntmps306
  go_wp2
  go_ret
  exact ⟨rfl, HP.out.1, HP.out.2⟩
end Go.Proofs.YtfianpjoifcphaaGreat
