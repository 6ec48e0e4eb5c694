/-
  The program's levels: put, take, grown.
-/
import Derived.Test.YtcekikblgbdcoaaImpB3
import Derived.Test.YtcekikblgbdcoaaRec
import Derived.Deep.RegionLaw
namespace Go.Proofs.Ytcekikblgbdcoaa
open Go.RowKit
set_option linter.unusedVariables false
set_option maxRecDepth 100000

theorem bktT : RT 50 24 4 32 (.agg #[.int .i64 0, .int .i64 0, .int .i64 0, .int .i64 0]) := ⟨Try.underlying50, by kernel_rfl, by decide, by decide, by decide⟩
theorem Ints.rec4 (w : World) (t : TypeId) (x y z u : Int) : Ints (w.alloc (.cells #[.int .i64 x, .int .i64 y, .int .i64 z, .int .i64 u] t)) (w.heap.size + 1) (some ⟨w.heap.size, 0, none⟩) (1 * 4) [x, y, z, u] := by
  refine ⟨rfl, fun _ => ⟨_, rfl, by simp, fun j hj => ?_⟩⟩
  rw [add_plain']
  have h := (Blk.new w t #[.int .i64 x, .int .i64 y, .int .i64 z, .int .i64 u]).cell j
  rw [h]
  rcases j with _ | _ | _ | _ | j
  · rfl
  · rfl
  · rfl
  · rfl
  · omega
theorem grown1B (w : World) (g i : Nat) (a : Value) : w.grownBy (w.setCell ⟨g, i, none⟩ a) (some g) :=
  ⟨rfl, rfl, rfl, by simp [World.setCell], fun q hq hne => Below.heap_setCell w ⟨g, i, none⟩ a q (fun e => hne (by rw [e]))⟩

/-- behind put -/
structure PutQ (w W : World) (Q base n : Nat) (A : Option Addr) (c : Nat) (xs : List Int) : Prop where
  blk : Blk W Q 50 #[.slice A n c]
  row : OwnR W base 24 4 A n c xs
  below : Below Q w W
theorem PutQ.app {w w1 w2 : World} {Q base n c c2 : Nat} {A A2 : Option Addr} {xs ys : List Int} (hq : Blk w Q 50 #[.slice A n c]) (ho : OwnR w base 24 4 A n c xs) (hQ : Q < base) (hb : base ≤ w.heap.size)
    (h1 : Below w.heap.size w w1) (ho2 : OwnR w2 base 24 4 A2 (n + 1) c2 ys) (hg : w1.grownBy w2 (Value.slice A n c).ownBlock) :
    w2.cell? ⟨Q, 0, none⟩ = some (.slice A n c) ∧ w2.frozen? ⟨Q, 0, none⟩ = false ∧ Hid (PutQ w (w2.setCell ⟨Q, 0, none⟩ (.slice A2 (n + 1) c2)) Q base (n + 1) A2 c2 ys) := by
  have hne : some Q ≠ (Value.slice A n c).ownBlock := fun e => by have := (ho.block Q e.symm).1; omega
  have hb2 : Blk w2 Q 50 #[.slice A n c] := (hq.below h1 hq.lt).grown hg hne
  have hgs := grown1B w2 Q 0 (.slice A2 (n + 1) c2)
  have hlow : Below Q w w2 := (h1.mono (by omega)).grown hg (by have := h1.size; omega) (fun k hk => by have := (ho.block k hk).1; omega)
  refine ⟨by rw [hb2.cell]; rfl, hb2.frozen 0, ⟨hb2.set_ 0 _, ho2.kept hgs (fun k e e' => ?_), hlow.grown hgs (by have := hlow.size; omega) (fun k hk => by injection hk with hk; omega)⟩⟩
  injection e with e
  have := (ho2.block k e').1
  omega

set_option maxHeartbeats 3200000 in
theorem put_any (Q base n c : Nat) (A : Option Addr) (xs : List Int) (l m r t : Int) (w : World) (hq : Blk w Q 50 #[.slice A n c]) (ho : OwnR w base 24 4 A n c xs) (hQ : Q < base) (hb : base ≤ w.heap.size) (hn : n ≤ 1000) :
    Calls Try.prog 36 #[.pointer (some ⟨Q, 0, none⟩), .agg #[.int .i64 l, .int .i64 m, .int .i64 r, .int .i64 t]] w fun e w' => e = .returned (.tuple #[]) ∧ ∃ A2 c2, PutQ w w' Q base (n + 1) A2 c2 (xs ++ [l, m, r, t]) := by
  have HX := hide fun (w1 w2 : World) (A2 : Option Addr) (c2 : Nat) (h1 : Below w.heap.size w w1) (ho2 : OwnR w2 base 24 4 A2 (n + 1) c2 (xs ++ [l, m, r, t])) (hg : w1.grownBy w2 (Value.slice A n c).ownBlock) => PutQ.app hq ho hQ hb h1 ho2 hg
  have hq1 := (hq.alloc (.cells #[.int .i64 l, .int .i64 m, .int .i64 r, .int .i64 t] 24))
  have hb1 := Blk.new w 24 #[.int .i64 l, .int .i64 m, .int .i64 r, .int .i64 t]
  have hbel := below_new w (.cells #[.int .i64 l, .int .i64 m, .int .i64 r, .int .i64 t] 24)
  have hsz : (w.alloc (.cells #[.int .i64 l, .int .i64 m, .int .i64 r, .int .i64 t] 24)).heap.size = w.heap.size + 1 := by simp
  have hO1 := ho.alloc (.cells #[.int .i64 l, .int .i64 m, .int .i64 r, .int .i64 t] 24)
  have hQw : Q < w.heap.size := hq.lt
  have hn9 : n + 1 ≤ 1000000000000 := by omega
  clear hq ho
  go_enter Try.func36, Try.ntmps36
  go_wp2_with fail
  generalize w.alloc (.cells #[.int .i64 l, .int .i64 m, .int .i64 r, .int .i64 t] 24) = W0 at *
  have HB2 := hide (below_drewN (hbel.alloc (by omega) (.cells #[.int .i64 l, .int .i64 m, .int .i64 r, .int .i64 t] 24)) 1)
  have HO2 := hide (hO1.alloc (.cells #[.int .i64 l, .int .i64 m, .int .i64 r, .int .i64 t] 24))
  have HR2 := hide (Ints.rec4 W0 24 l m r t)
  have q0 : W0.drew.cell? ⟨Q, 0, none⟩ = some (.slice A n c) := by show W0.cell? _ = _; rw [hq1.cell]; rfl
  have q1 : (W0.alloc (.cells #[.int .i64 l, .int .i64 m, .int .i64 r, .int .i64 t] 24)).drew.cell? ⟨Q, 0, none⟩ = some (.slice A n c) := by
    show (W0.alloc _).cell? _ = _; rw [(hq1.alloc _).cell]; rfl
  have b0 : W0.drew.cell? ⟨w.heap.size, 0, none⟩ = some (.int .i64 l) := by show W0.cell? _ = _; rw [hb1.cell]; rfl
  have b1 : W0.drew.cell? ⟨w.heap.size, 1, none⟩ = some (.int .i64 m) := by show W0.cell? _ = _; rw [hb1.cell]; rfl
  have b2 : W0.drew.cell? ⟨w.heap.size, 2, none⟩ = some (.int .i64 r) := by show W0.cell? _ = _; rw [hb1.cell]; rfl
  have b3 : W0.drew.cell? ⟨w.heap.size, 3, none⟩ = some (.int .i64 t) := by show W0.cell? _ = _; rw [hb1.cell]; rfl
  have hbs : base ≤ (W0.alloc (.cells #[.int .i64 l, .int .i64 m, .int .i64 r, .int .i64 t] 24)).drew.heap.size := by simp; omega
  clear hq1 hb1 hbel hO1 hsz
  go_region_law (first
    | (refine step_append_recs bktT ?_ (.tmp 7) (.tmp 9) ?_ base n c (W0.heap.size + 1) 1 1 A (some ⟨W0.heap.size, 0, none⟩) xs [l, m, r, t] ?_ ?_ ?_ ?_ ?_ ?_ ?_; rfl; rfl; rfl; exact HO2.out; rfl; exact HR2.out; exact hn9; exact hbs; intro A2 c2 w2 ho2 hg2 hat2; obtain ⟨hc2, hf2, HP⟩ := HX.out _ w2 A2 c2 HB2.out ho2 hg2; clear ho2 hg2 hat2))
  all_goals exact bodyPost_end (results_none Try.results36 _ _ _) rfl ⟨rfl, A2, c2, HP.out⟩
end Go.Proofs.Ytcekikblgbdcoaa
