/-
  Drawn events: l92Event.
-/
import Derived.Test.YtiopbgenkalfaaaDrawR2
import Derived.Test.YtiopbgenkalfaaaDrawP
import Derived.Test.YtiopbgenkalfaaaKeep91
import Derived.Test.YtiopbgenkalfaaaDrawH1
namespace Go.Proofs.Ytiopbgenkalfaaa
open Go.RowKit
set_option linter.unusedVariables false
set_option maxRecDepth 100000

/-- what l92Event knows at each step -/
structure EvS (w0 W : World) (R : Nat) (p : Int) (gv gr ge : Nat) (vs : Array Value) (mA : Option Addr) (mc bm : Nat) (PA : Option Addr) (pn pc : Nat) (ps : List Int) (kd : Int) (LA : Option Addr) (ln lc : Nat) (ls : List Int) : Prop where
  rd : Rd W R p
  rlt : R < w0.heap.size
  kv : Blk W gv 70 vs
  kr : Blk W gr 35 #[.int .i64 0, .slice none 0 0, .slice none 0 0]
  ke : Blk W ge 35 #[.int .i64 kd, .slice PA pn pc, .slice LA ln lc]
  gvl : w0.heap.size ≤ gv
  grl : w0.heap.size ≤ gr
  gel : w0.heap.size ≤ ge
  gne : ge ≠ gr
  map : MpR W bm mA 12 mc new12
  bml : R < bm
  pairs : OwnR W w0.heap.size 42 2 PA pn pc ps
  list : Own W w0.heap.size LA ln lc ls
  grown : w0.grownBy W (some R)
section
variable {w0 W W' : World} {R gv gr ge mc bm pn pc ln lc ln' lc' : Nat} {p p' kd k : Int} {vs : Array Value} {mA PA LA LA' : Option Addr} {ps ls ls' : List Int}
theorem EvS.pick (h : EvS w0 W R p gv gr ge vs mA mc bm PA pn pc ps kd LA ln lc ls) (hr : Rd W' R p') (hg : W.grownBy W' (some R)) : EvS w0 W' R p' gv gr ge vs mA mc bm PA pn pc ps kd LA ln lc ls := by
  have h1 := h.rlt
  have h2 := h.gvl
  have h3 := h.grl
  have h4 := h.gel
  have h5 := h.bml
  have ne : ∀ {q : Nat}, some R = some q → R = q := fun e => by injection e
  exact { rd := hr, rlt := h1, kv := h.kv.grown hg (fun e => by have := ne e.symm; omega), kr := h.kr.grown hg (fun e => by have := ne e.symm; omega), ke := h.ke.grown hg (fun e => by have := ne e.symm; omega),
          gvl := h2, grl := h3, gel := h4, gne := h.gne, map := h.map.kept hg (fun q hq e => by have := ne hq; have := (h.map.2.block _ e).1; omega), bml := h5,
          pairs := h.pairs.kept hg (fun q hq e => by have := ne hq; have := (h.pairs.block _ e).1; omega), list := h.list.kept hg (fun q hq e => by have := ne hq; have := (h.list.block _ e).1; omega), grown := grown_trans' h.grown hg }
theorem EvS.below (h : EvS w0 W R p gv gr ge vs mA mc bm PA pn pc ps kd LA ln lc ls) (hb : Below W.heap.size W W') : EvS w0 W' R p gv gr ge vs mA mc bm PA pn pc ps kd LA ln lc ls :=
  { rd := h.rd.below hb, rlt := h.rlt, kv := h.kv.below hb h.kv.lt, kr := h.kr.below hb h.kr.lt, ke := h.ke.below hb h.ke.lt, gvl := h.gvl, grl := h.grl, gel := h.gel, gne := h.gne, map := h.map.below hb, bml := h.bml,
    pairs := h.pairs.below hb, list := h.list.below hb, grown := grown_own h.grown (grown_of_below hb none) (by simp) }
theorem EvS.cells (h : EvS w0 W R p gv gr ge vs mA mc bm PA pn pc ps kd LA ln lc ls) : W.cell? ⟨ge, 0, none⟩ = some (.int .i64 kd) ∧ W.cell? ⟨ge, 1, none⟩ = some (.slice PA pn pc) ∧ W.cell? ⟨ge, 2, none⟩ = some (.slice LA ln lc) ∧ W.frozen? ⟨ge, 0, none⟩ = false ∧ W.frozen? ⟨ge, 1, none⟩ = false ∧ W.frozen? ⟨ge, 2, none⟩ = false :=
  ⟨by rw [h.ke.cell]; rfl, by rw [h.ke.cell]; rfl, by rw [h.ke.cell]; rfl, h.ke.frozen 0, h.ke.frozen 1, h.ke.frozen 2⟩
theorem EvS.cellsV {u0 u1 u2 u3 u4 u5 : Value} (h : EvS w0 W R p gv gr ge #[u0, u1, u2, u3, u4, u5] mA mc bm PA pn pc ps kd LA ln lc ls) : W.cell? ⟨gv, 0, none⟩ = some u0 ∧ W.cell? ⟨gv, 1, none⟩ = some u1 ∧ W.cell? ⟨gv, 2, none⟩ = some u2 ∧ W.cell? ⟨gv, 3, none⟩ = some u3 ∧ W.cell? ⟨gv, 4, none⟩ = some u4 ∧ W.cell? ⟨gv, 5, none⟩ = some u5 :=
  ⟨by rw [h.kv.cell]; rfl, by rw [h.kv.cell]; rfl, by rw [h.kv.cell]; rfl, by rw [h.kv.cell]; rfl, by rw [h.kv.cell]; rfl, by rw [h.kv.cell]; rfl⟩
theorem EvS.cellsR (h : EvS w0 W R p gv gr ge vs mA mc bm PA pn pc ps kd LA ln lc ls) : W.cell? ⟨gr, 0, none⟩ = some (.int .i64 0) ∧ W.cell? ⟨gr, 1, none⟩ = some (.slice none 0 0) ∧ W.cell? ⟨gr, 2, none⟩ = some (.slice none 0 0) ∧ W.frozen? ⟨gr, 0, none⟩ = false ∧ W.frozen? ⟨gr, 1, none⟩ = false ∧ W.frozen? ⟨gr, 2, none⟩ = false :=
  ⟨by rw [h.kr.cell]; rfl, by rw [h.kr.cell]; rfl, by rw [h.kr.cell]; rfl, h.kr.frozen 0, h.kr.frozen 1, h.kr.frozen 2⟩
theorem set_grown (W : World) (g i : Nat) (u : Value) : W.grownBy (W.setCell ⟨g, i, none⟩ u) (some g) := ⟨rfl, rfl, rfl, by simp [World.setCell], fun q hq hne => Below.heap_setCell W ⟨g, i, none⟩ u q (by rintro rfl; exact hne rfl)⟩
/-- a cell of the event's block is written -/
theorem EvS.put (h : EvS w0 W R p gv gr ge vs mA mc bm PA pn pc ps kd LA ln lc ls) (i : Nat) (u : Value) (hk : Blk (W.setCell ⟨ge, i, none⟩ u) ge 35 #[.int .i64 k, .slice PA pn pc, .slice LA' ln' lc']) (hl : Own W w0.heap.size LA' ln' lc' ls') :
    EvS w0 (W.setCell ⟨ge, i, none⟩ u) R p gv gr ge vs mA mc bm PA pn pc ps k LA' ln' lc' ls' := by
  have hg := set_grown W ge i u
  have h1 := h.rlt
  have h4 := h.gel
  have ne : ∀ {q : Nat}, some ge = some q → ge = q := fun e => by injection e
  exact { rd := h.rd.grown hg (fun q e => by have := ne e; omega), rlt := h1,
          kv := h.kv.grown hg (fun e => by have e2 := ne e.symm; have a := h.kv; have b := h.ke; rw [← e2] at a; unfold Blk at a b; rw [a] at b; simp at b), kr := h.kr.grown hg (fun e => h.gne (ne e.symm)), ke := hk,
          gvl := h.gvl, grl := h.grl, gel := h4, gne := h.gne, map := h.map.kept hg (fun q hq e => by have e2 := ne hq; rw [← e2] at e; exact row_ne_blk h.map.2.2 h.ke (by decide) e), bml := h.bml,
          pairs := h.pairs.kept hg (fun q hq e => by have e2 := ne hq; rw [← e2] at e; exact row_ne_blk h.pairs.2 h.ke (by decide) e),
          list := hl.kept hg (fun q hq e => by have e2 := ne hq; rw [← e2] at e; exact row_ne_blk hl.2 h.ke (by decide) e), grown := grown_own h.grown hg (fun q e => by have := ne e; omega) }
theorem EvS.kind (h : EvS w0 W R p gv gr ge vs mA mc bm PA pn pc ps kd LA ln lc ls) (k : Int) : EvS w0 (W.setCell ⟨ge, 0, none⟩ (.int .i64 k)) R p gv gr ge vs mA mc bm PA pn pc ps k LA ln lc ls :=
  h.put 0 _ (h.ke.set_ 0 _) h.list
theorem EvS.lst (h : EvS w0 W R p gv gr ge vs mA mc bm PA pn pc ps kd LA ln lc ls) (hl : Own W w0.heap.size LA' ln' lc' ls') : EvS w0 (W.setCell ⟨ge, 2, none⟩ (.slice LA' ln' lc')) R p gv gr ge vs mA mc bm PA pn pc ps kd LA' ln' lc' ls' :=
  h.put 2 _ (h.ke.set_ 2 _) hl
end
/-- the event is copied into the result's block -/
theorem EvS.fin {w0 W : World} {R gv gr ge mc bm pn pc ln lc : Nat} {p kd : Int} {vs : Array Value} {mA PA LA : Option Addr} {ps ls : List Int} (h : EvS w0 W R p gv gr ge vs mA mc bm PA pn pc ps kd LA ln lc ls) :
    let W' := ((W.setCell ⟨gr, 0, none⟩ (.int .i64 kd)).setCell ⟨gr, 1, none⟩ (.slice PA pn pc)).setCell ⟨gr, 2, none⟩ (.slice LA ln lc)
    (W'.cell? ⟨gr, 0, none⟩ = some (.int .i64 kd) ∧ W'.cell? ⟨gr, 1, none⟩ = some (.slice PA pn pc) ∧ W'.cell? ⟨gr, 2, none⟩ = some (.slice LA ln lc)) ∧ OwnR W' w0.heap.size 42 2 PA pn pc ps ∧ Own W' w0.heap.size LA ln lc ls ∧ Rd W' R p ∧ w0.grownBy W' (some R) := by
  intro W'
  have hg : W.grownBy W' (some gr) := by
    have s : ∀ (w0 w1 : World) (i : Nat) (u : Value), w0.grownBy w1 (some gr) → w0.grownBy (w1.setCell ⟨gr, i, none⟩ u) (some gr) := fun w0 w1 i u h =>
      ⟨h.os, h.tape, h.output, by simpa [World.setCell] using h.size, fun q hq hne => (Below.heap_setCell w1 ⟨gr, i, none⟩ u q (fun e => hne (by rw [e]))).trans (h.block q hq hne)⟩
    exact s _ _ _ _ (s _ _ _ _ (s _ _ _ _ (grown_refl W _)))
  have hk : Blk W' gr 35 #[.int .i64 kd, .slice PA pn pc, .slice LA ln lc] := ((h.kr.set_ 0 _).set_ 1 _).set_ 2 _
  have h1 := h.rlt
  have h3 := h.grl
  have ne : ∀ {q : Nat}, some gr = some q → gr = q := fun e => by injection e
  exact ⟨⟨by rw [hk.cell]; rfl, by rw [hk.cell]; rfl, by rw [hk.cell]; rfl⟩, h.pairs.kept hg (fun q hq e => by have e2 := ne hq; rw [← e2] at e; exact row_ne_blk h.pairs.2 h.kr (by decide) e),
    h.list.kept hg (fun q hq e => by have e2 := ne hq; rw [← e2] at e; exact row_ne_blk h.list.2 h.kr (by decide) e), h.rd.grown hg (fun q e => by have := ne e; omega), grown_own h.grown hg (fun q e => by have := ne e; omega)⟩
/-- what l92Event hands back -/
def EvDrawn (w0 : World) (R : Nat) (p : Int) (e : Ending) (w' : World) : Prop :=
  ∃ (kd : Int) (PA LA : Option Addr) (pn pc ln lc : Nat) (ps ls : List Int) (p' : Int), e = .returned (.agg #[.int .i64 kd, .slice PA pn pc, .slice LA ln lc]) ∧ OwnR w' w0.heap.size 42 2 PA pn pc ps ∧ pn ≤ 20 ∧ Own w' w0.heap.size LA ln lc ls ∧ ln ≤ 13 ∧ p ≤ p' ∧ p' ≤ p + 200 ∧ Rd w' R p' ∧ w0.grownBy w' (some R)

set_option maxHeartbeats 12800000 in
theorem event92_any (R : Nat) (p : Int) (dA sA mA hA : Option Addr) (dc sc mc hc bm : Nat) (sq zn : Int) (w : World) (hr : Rd w R p) (hp : p < 10000) (hm : MpR w bm mA 12 mc new12) (hbm : R < bm) :
    Calls Try.prog 40 #[.pointer (some ⟨R, 0, none⟩), .agg #[.slice dA 4 dc, .slice sA 0 sc, .slice mA 12 mc, .slice hA 12 hc, .int .i64 sq, .int .i64 zn]] w (EvDrawn w R p) := by
  have hRw := hr.lt
  obtain ⟨W, hW⟩ : ∃ W, (w.alloc (.cells #[.slice dA 4 dc, .slice sA 0 sc, .slice mA 12 mc, .slice hA 12 hc, .int .i64 sq, .int .i64 zn] 70)).alloc (.cells #[.int .i64 0, .slice none 0 0, .slice none 0 0] 35) = W := ⟨_, rfl⟩
  have HK : Hid (Kp w W [(w.heap.size + 1, 35, #[.int .i64 0, .slice none 0 0, .slice none 0 0]), (w.heap.size, 70, #[.slice dA 4 dc, .slice sA 0 sc, .slice mA 12 mc, .slice hA 12 hc, .int .i64 sq, .int .i64 zn])]) := by
    rw [← hW]
    exact ((Kp.refl w).push _ _).pushN _ (by simp) _ _
  have HM := hide (hm.below HK.out.below)
  have HRD := hide (hr.below HK.out.below)
  have hsz : W.heap.size = w.heap.size + 2 := by rw [← hW]; simp
  clear hm hr
  go_enter Try.func40, Try.ntmps40
  go_upto_region 1 with (fail)
  have hw2 : w.heap.size + 2 ≤ W.heap.size := by omega
  clear hW hsz
  go_wp2_with fail
  refine (draw91P_any R p W HRD.out (by omega)).mono ?_
  rintro e w2 ⟨PA, pn, pc, ps, p2, rfl, ho2, hpn, _, hp20, hp21, hr2, hg2⟩
  obtain ⟨w3, hw3⟩ : ∃ w3, (w2.alloc (.cells #[] 3)).alloc (.cells #[.int .i64 1, .slice PA pn pc, .slice (some ⟨w2.heap.size, 0, none⟩) 0 0] 35) = w3 := ⟨_, rfl⟩
  have hs2 := hg2.size
  have HE0 := hide (show EvS w w3 R p2 w.heap.size (w.heap.size + 1) (w2.heap.size + 1) #[.slice dA 4 dc, .slice sA 0 sc, .slice mA 12 mc, .slice hA 12 hc, .int .i64 sq, .int .i64 zn] mA mc bm PA pn pc ps 1 (some ⟨w2.heap.size, 0, none⟩) 0 0 [] from by
    rw [← hw3]
    have ne : ∀ {q : Nat}, some R = some q → R = q := fun e => by injection e
    exact { rd := (hr2.alloc _).alloc _, rlt := hRw, kv := (((HK.out.blk (w.heap.size, 70, #[.slice dA 4 dc, .slice sA 0 sc, .slice mA 12 mc, .slice hA 12 hc, .int .i64 sq, .int .i64 zn]) (by simp)).1.grown hg2 (fun e => by have := ne e.symm; simp only at this; omega)).alloc _).alloc _,
            kr := ((HK.out.hd.grown hg2 (fun e => by have := ne e.symm; omega)).alloc _).alloc _, ke := by
              have := Blk.new (w2.alloc (.cells #[] 3)) 35 #[.int .i64 1, .slice PA pn pc, .slice (some ⟨w2.heap.size, 0, none⟩) 0 0]
              simpa using this
            gvl := Nat.le_refl _, grl := by omega, gel := by omega, gne := by omega, map := ((HM.out.kept hg2 (fun q hq e => by have := ne hq; have := (HM.out.2.block _ e).1; omega)).alloc _).alloc _, bml := hbm,
            pairs := ((ho2.mono (by omega)).alloc _).alloc _, list := (Own.lit0 w2 _ (by omega)).alloc _,
            grown := grown_alloc (grown_alloc (grown_trans' (grown_of_below HK.out.below _) hg2) _) _ })
  clear ho2 hr2 hg2 HK HM HRD
  go_upto_region 2 with (fail)
  obtain ⟨ge, hge⟩ : ∃ ge, w2.heap.size + 1 = ge := ⟨_, rfl⟩
  rw [hge] at HE0 ⊢
  clear hge hw3
  go_upto_block 0 with (go_at_call 37; refine (pick_any R p2 16 w3 HE0.out.rd (by omega) (by omega)).mono ?_; rintro e w3b ⟨v, rfl, hv0, hv1, hr3, hg3⟩; have HE := hide (HE0.out.pick hr3 hg3); clear hr3 hg3 HE0)
  obtain ⟨p3, hp3⟩ : ∃ p3, p2 + 1 = p3 := ⟨_, rfl⟩
  rw [hp3] at HE
  have hp30 : p ≤ p3 := by omega
  have hp31 : p3 ≤ p + 101 := by omega
  clear hp3
  go_cut [] from 12 (fun wx => ∃ (kd : Int) (LA : Option Addr) (ln lc : Nat) (ls : List Int) (p' : Int), Hid (EvS w wx R p' w.heap.size (w.heap.size + 1) ge #[.slice dA 4 dc, .slice sA 0 sc, .slice mA 12 mc, .slice hA 12 hc, .int .i64 sq, .int .i64 zn] mA mc bm PA pn pc ps kd LA ln lc ls) ∧ ln ≤ 13 ∧ p ≤ p' ∧ p' ≤ p + 130)
  case first =>
    obtain ⟨e0, e1, e2, f0, f1, f2⟩ := HE.out.cells
    have hv : v = 0 ∨ v = 1 ∨ v = 2 ∨ v = 3 ∨ v = 4 ∨ v = 5 ∨ v = 6 ∨ v = 7 ∨ v = 8 ∨ v = 9 ∨ v = 10 ∨ v = 11 ∨ v = 12 ∨ v = 13 ∨ v = 14 ∨ v = 15 := by omega
    clear hv0 hv1
    rcases hv with rfl | rfl | rfl | rfl | rfl | rfl | rfl | rfl | rfl | rfl | rfl | rfl | rfl | rfl | rfl | rfl
    · have HK1 := hide (HE.out.kind 2)
      go_wp2
      go_meet
      exact ⟨_, _, _, _, _, _, HK1, by omega, by omega, by omega⟩
    · have HK1 := hide (HE.out.kind 2)
      go_wp2
      go_meet
      exact ⟨_, _, _, _, _, _, HK1, by omega, by omega, by omega⟩
    · have HK1 := hide (HE.out.kind 3)
      have HSM := hide (some92_any R dA sA mA hA 4 dc 0 sc mc 12 hc bm sq zn 1 _ HK1.out.map (by omega))
      obtain ⟨x0, x1, x2, x3, x4, x5⟩ := HK1.out.cellsV
      obtain ⟨y0, y1, y2, g0, g1, g2⟩ := HK1.out.cells
      go_upto_region 9 with (fail)
      obtain ⟨W5, hW5⟩ : ∃ W, w3b.setCell ⟨ge, 0, none⟩ (.int .i64 3) = W := ⟨_, rfl⟩
      rw [hW5] at HK1 HSM x0 x1 x2 x3 x4 x5 y0 y1 y2 g0 g1 g2 ⊢
      clear hW5 HE e0 e1 e2 f0 f1 f2
      go_wp2_with fail
      refine HSM.out.mono ?_
      rintro e w6 ⟨A6, c6, rfl, ho6, hb6⟩
      have HK6 := hide (HK1.out.below hb6)
      have HK7 := hide (HK6.out.lst (ho6.mono HK1.out.grown.size))
      clear ho6 hb6 HK1 HSM y0 y1 y2 g0 g1 g2 x0 x1 x2 x3 x4 x5
      obtain ⟨y0, y1, y2, g0, g1, g2⟩ := HK6.out.cells
      go_wp2
      go_meet
      exact ⟨_, _, _, _, _, _, HK7, by omega, by omega, by omega⟩
    · have HK1 := hide (HE.out.kind 3)
      have HSM := hide (some92_any R dA sA mA hA 4 dc 0 sc mc 12 hc bm sq zn 1 _ HK1.out.map (by omega))
      obtain ⟨x0, x1, x2, x3, x4, x5⟩ := HK1.out.cellsV
      obtain ⟨y0, y1, y2, g0, g1, g2⟩ := HK1.out.cells
      go_upto_region 9 with (fail)
      obtain ⟨W5, hW5⟩ : ∃ W, w3b.setCell ⟨ge, 0, none⟩ (.int .i64 3) = W := ⟨_, rfl⟩
      rw [hW5] at HK1 HSM x0 x1 x2 x3 x4 x5 y0 y1 y2 g0 g1 g2 ⊢
      clear hW5 HE e0 e1 e2 f0 f1 f2
      go_wp2_with fail
      refine HSM.out.mono ?_
      rintro e w6 ⟨A6, c6, rfl, ho6, hb6⟩
      have HK6 := hide (HK1.out.below hb6)
      have HK7 := hide (HK6.out.lst (ho6.mono HK1.out.grown.size))
      clear ho6 hb6 HK1 HSM y0 y1 y2 g0 g1 g2 x0 x1 x2 x3 x4 x5
      obtain ⟨y0, y1, y2, g0, g1, g2⟩ := HK6.out.cells
      go_wp2
      go_meet
      exact ⟨_, _, _, _, _, _, HK7, by omega, by omega, by omega⟩
    · have HK1 := hide (HE.out.kind 4)
      have HSM := hide (some92_any R dA sA mA hA 4 dc 0 sc mc 12 hc bm sq zn 2 _ HK1.out.map (by omega))
      obtain ⟨x0, x1, x2, x3, x4, x5⟩ := HK1.out.cellsV
      obtain ⟨y0, y1, y2, g0, g1, g2⟩ := HK1.out.cells
      go_upto_region 12 with (fail)
      obtain ⟨W5, hW5⟩ : ∃ W, w3b.setCell ⟨ge, 0, none⟩ (.int .i64 4) = W := ⟨_, rfl⟩
      rw [hW5] at HK1 HSM x0 x1 x2 x3 x4 x5 y0 y1 y2 g0 g1 g2 ⊢
      clear hW5 HE e0 e1 e2 f0 f1 f2
      go_wp2_with fail
      refine HSM.out.mono ?_
      rintro e w6 ⟨A6, c6, rfl, ho6, hb6⟩
      have HK6 := hide (HK1.out.below hb6)
      have HK7 := hide (HK6.out.lst (ho6.mono HK1.out.grown.size))
      clear ho6 hb6 HK1 HSM y0 y1 y2 g0 g1 g2 x0 x1 x2 x3 x4 x5
      obtain ⟨y0, y1, y2, g0, g1, g2⟩ := HK6.out.cells
      go_wp2
      go_meet
      exact ⟨_, _, _, _, _, _, HK7, by omega, by omega, by omega⟩
    · have HK1 := hide (HE.out.kind 5)
      have HSM := hide (some92_any R dA sA mA hA 4 dc 0 sc mc 12 hc bm sq zn 1 _ HK1.out.map (by omega))
      obtain ⟨x0, x1, x2, x3, x4, x5⟩ := HK1.out.cellsV
      obtain ⟨y0, y1, y2, g0, g1, g2⟩ := HK1.out.cells
      go_upto_region 15 with (fail)
      obtain ⟨W5, hW5⟩ : ∃ W, w3b.setCell ⟨ge, 0, none⟩ (.int .i64 5) = W := ⟨_, rfl⟩
      rw [hW5] at HK1 HSM x0 x1 x2 x3 x4 x5 y0 y1 y2 g0 g1 g2 ⊢
      clear hW5 HE e0 e1 e2 f0 f1 f2
      go_wp2_with fail
      refine HSM.out.mono ?_
      rintro e w6 ⟨A6, c6, rfl, ho6, hb6⟩
      have HK6 := hide (HK1.out.below hb6)
      have HK7 := hide (HK6.out.lst (ho6.mono HK1.out.grown.size))
      clear ho6 hb6 HK1 HSM y0 y1 y2 g0 g1 g2 x0 x1 x2 x3 x4 x5
      obtain ⟨y0, y1, y2, g0, g1, g2⟩ := HK6.out.cells
      go_wp2
      go_meet
      exact ⟨_, _, _, _, _, _, HK7, by omega, by omega, by omega⟩
    · have HK1 := hide (HE.out.kind 6)
      go_wp2
      go_meet
      exact ⟨_, _, _, _, _, _, HK1, by omega, by omega, by omega⟩
    · have HK1 := hide (HE.out.kind 7)
      go_wp2
      go_meet
      exact ⟨_, _, _, _, _, _, HK1, by omega, by omega, by omega⟩
    · have HK1 := hide (HE.out.kind 7)
      go_wp2
      go_meet
      exact ⟨_, _, _, _, _, _, HK1, by omega, by omega, by omega⟩
    · have HK1 := hide (HE.out.kind 8)
      go_wp2
      go_meet
      exact ⟨_, _, _, _, _, _, HK1, by omega, by omega, by omega⟩
    · have HK1 := hide (HE.out.kind 9)
      go_wp2
      go_meet
      exact ⟨_, _, _, _, _, _, HK1, by omega, by omega, by omega⟩
    · have HK1 := hide (HE.out.kind 9)
      go_wp2
      go_meet
      exact ⟨_, _, _, _, _, _, HK1, by omega, by omega, by omega⟩
    · have HK1 := hide (HE.out.kind 10)
      go_upto_region 28 with (fail)
      obtain ⟨W5, hW5⟩ : ∃ W, w3b.setCell ⟨ge, 0, none⟩ (.int .i64 10) = W := ⟨_, rfl⟩
      rw [hW5] at HK1 ⊢
      clear hW5 HE e0 e1 e2 f0 f1 f2
      go_wp2_with fail
      refine (keep91_any R p3 W5 HK1.out.rd (by omega)).mono ?_
      rintro e w6 ⟨A6, m6, c6, xs6, rfl, ho6, hm6, hg6, p6, hp60, hp61, hr6⟩
      have HK6 := hide (HK1.out.pick hr6 hg6)
      have HK7 := hide (HK6.out.lst (ho6.mono HK1.out.grown.size))
      clear ho6 hg6 hr6 HK1
      obtain ⟨y0, y1, y2, g0, g1, g2⟩ := HK6.out.cells
      go_wp2
      go_meet
      exact ⟨_, _, _, _, _, _, HK7, by omega, by omega, by omega⟩
    · go_wp2
      go_meet
      exact ⟨_, _, _, _, _, _, HE, by omega, by omega, by omega⟩
    · go_wp2
      go_meet
      exact ⟨_, _, _, _, _, _, HE, by omega, by omega, by omega⟩
    · go_wp2
      go_meet
      exact ⟨_, _, _, _, _, _, HE, by omega, by omega, by omega⟩
  case rest =>
    clear HE
    obtain ⟨kd, LA, ln, lc, ls, p4, HE, hln, hp40, hp41⟩ := hcut
    go_upto_block 1 with (go_at_call 37; refine (pick_any R p4 32 _ HE.out.rd (by omega) (by omega)).mono ?_; rintro e w5 ⟨u, rfl, hu0, hu1, hr5, hg5⟩; have HE5 := hide (HE.out.pick hr5 hg5); clear hr5 hg5)
    obtain ⟨e0, e1, e2, f0, f1, f2⟩ := HE5.out.cells
    go_cut [] from 60 (fun wx => ∃ (kd : Int) (LA : Option Addr) (ln lc : Nat) (ls : List Int) (p' : Int), Hid (EvS w wx R p' w.heap.size (w.heap.size + 1) ge #[.slice dA 4 dc, .slice sA 0 sc, .slice mA 12 mc, .slice hA 12 hc, .int .i64 sq, .int .i64 zn] mA mc bm PA pn pc ps kd LA ln lc ls) ∧ ln ≤ 13 ∧ p ≤ p' ∧ p' ≤ p + 190)
    case first =>
      by_cases hu : u = 0
      · subst hu
        clear e0 e1 e2 f0 f1 f2
        go_wp2_with fail
        refine (pick_any R (p4 + 1) 13 _ HE5.out.rd (by omega) (by omega)).mono ?_
        rintro e w6 ⟨x, rfl, hx0, hx1, hr6, hg6⟩
        have HE6 := hide (HE5.out.pick hr6 hg6)
        have HK := hide (HE6.out.kind (x - 1))
        obtain ⟨e0, e1, e2, f0, f1, f2⟩ := HE6.out.cells
        have wx : IntKind.i64.wrap (x - 1) = x - 1 := IntWalk.i64_in _ (by omega)
        clear hr6 hg6
        go_wp2
        go_meet
        exact ⟨_, _, _, _, _, _, HK, by omega, by omega, by omega⟩
      · have hu' : (u == 0) = false := by simpa using hu
        by_cases hu2 : u = 1
        · subst hu2
          clear e0 e1 e2 f0 f1 f2
          go_wp2_with fail
          refine (blocks91_any R (p4 + 1) _ HE5.out.rd (by omega)).mono ?_
          rintro e w6 ⟨A6, n6, c6, xs6, p6, rfl, hn6, hp60, hp61, hk6⟩
          have HE6 := hide (HE5.out.pick hk6.rd hk6.grown)
          have HK := hide (HE6.out.lst (hk6.own.mono HE5.out.grown.size))
          obtain ⟨e0, e1, e2, f0, f1, f2⟩ := HE6.out.cells
          clear hk6
          go_wp2
          go_meet
          exact ⟨_, _, _, _, _, _, HK, by omega, by omega, by omega⟩
        · have hu2' : (u == 1) = false := by simpa using hu2
          clear hu hu2
          go_wp2
          go_meet
          exact ⟨_, _, _, _, _, _, HE5, by omega, by omega, by omega⟩
    case rest =>
      clear HE HE5 e0 e1 e2 f0 f1 f2 hu0 hu1
      obtain ⟨kd, LA, ln, lc, ls, p7, HE, hln, hp70, hp71⟩ := hcut
      obtain ⟨e0, e1, e2, f0, f1, f2⟩ := HE.out.cells
      obtain ⟨r0, r1, r2, g0, g1, g2⟩ := HE.out.cellsR
      have HF := hide HE.out.fin
      go_wp2
      obtain ⟨⟨q0, q1, q2⟩, _⟩ := HF.out
      exact bodyPost_ret (v := .agg #[.int .i64 kd, .slice PA pn pc, .slice LA ln lc]) (by simp [results, Try.results40, go_sem, q0, q1, q2]) rfl ⟨kd, PA, LA, pn, pc, ln, lc, ps, ls, p7, rfl, HF.out.2.1, hpn, HF.out.2.2.1, hln, hp70, by omega, HF.out.2.2.2.1, HF.out.2.2.2.2⟩
end Go.Proofs.Ytiopbgenkalfaaa
