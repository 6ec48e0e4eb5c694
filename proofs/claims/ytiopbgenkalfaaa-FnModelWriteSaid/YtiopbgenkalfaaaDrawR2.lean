/-
  A new volume: l21New; blocks of a tier in it: l92Some.
-/
import Derived.Test.YtiopbgenkalfaaaNewZ
import Derived.Test.YtiopbgenkalfaaaNewM
import Derived.Test.YtiopbgenkalfaaaNewH
import Derived.Test.YtiopbgenkalfaaaSpecM3
import Derived.Test.YtiopbgenkalfaaaModG
import Derived.Deep.DeepCutAuto
import Derived.Deep.CutBlock
namespace Go.Proofs.Ytiopbgenkalfaaa
open Go.RowKit
set_option linter.unusedVariables false
set_option maxRecDepth 100000

theorem tier_new (t : Int) (h : t = 1 ∨ t = 2) : tierM new12 t = [] := by rcases h with rfl | rfl <;> decide

theorem volBoxInfo : (Try.prog.info? 70).map (·.size) = some 6 := by kernel_rfl

theorem grownBox6 (W : World) (g : Nat) (u0 u1 u2 u3 u4 u5 : Value) : W.grownBy ((((((W.setCell ⟨g, 0, none⟩ u0).setCell ⟨g, 1, none⟩ u1).setCell ⟨g, 2, none⟩ u2).setCell ⟨g, 3, none⟩ u3).setCell ⟨g, 4, none⟩ u4).setCell ⟨g, 5, none⟩ u5) (some g) := by
  have s : ∀ (w0 w1 : World) (i : Nat) (u : Value), w0.grownBy w1 (some g) → w0.grownBy (w1.setCell ⟨g, i, none⟩ u) (some g) := fun w0 w1 i u h =>
    ⟨h.os, h.tape, h.output, by simpa [World.setCell] using h.size, fun q hq hne => (Below.heap_setCell w1 ⟨g, i, none⟩ u q (fun e => hne (by rw [e]))).trans (h.block q hq hne)⟩
  exact s _ _ _ _ (s _ _ _ _ (s _ _ _ _ (s _ _ _ _ (s _ _ _ _ (s _ _ _ _ (grown_refl W _))))))
set_option maxHeartbeats 3200000 in
theorem new21_any (w : World) :
    Calls Try.prog 41 #[] w fun e w' => ∃ (dA sA mA hA : Option Addr) (dc mc : Nat), e = .returned (.agg #[.slice dA 4 dc, .slice sA 0 0, .slice mA 12 mc, .slice hA 12 12, .int .i64 1, .int .i64 0]) ∧ MpR w' w.heap.size mA 12 mc new12 ∧ Below w.heap.size w w' := by
  have HK0 := hide ((Kp.refl w).push 70 #[.slice none 0 0, .slice none 0 0, .slice none 0 0, .slice none 0 0, .int .i64 0, .int .i64 0])
  have HN1 := hide fun (W : World) => specNew W
  have HN2 := hide fun (W : World) => l11New_any W
  have HN3 := hide fun (W : World) => new13_any W
  go_enter Try.func41, Try.ntmps41
  go_upto_region 1 with (fail)
  obtain ⟨W1, hW1⟩ : ∃ W, w.alloc (.cells #[.slice none 0 0, .slice none 0 0, .slice none 0 0, .slice none 0 0, .int .i64 0, .int .i64 0] 70) = W := ⟨_, rfl⟩
  rw [hW1] at HK0 ⊢
  clear hW1
  go_wp2_with fail
  refine (HN1.out W1).mono ?_
  rintro e w2 ⟨dA, dc, qs, rfl, _, _, hb2⟩
  have HK2 := hide ((HK0.out.step hb2).alloc (.cells #[] 127))
  clear hb2 HK0
  obtain ⟨W2, hW2⟩ : ∃ W, w2.alloc (.cells #[] 127) = W := ⟨_, rfl⟩
  rw [hW2] at HK2
  go_wp2_with fail
  clear hW2
  refine (HN2.out W2).mono ?_
  rintro e w3 ⟨rfl, hm3, hb3⟩
  have HK3 := hide (HK2.out.step hb3)
  have hs3 := HK2.out.below.size
  have HGM := hide HK2.out.lt
  have HM3 := hide hm3
  clear hb3 hm3 HK2
  go_wp2_with fail
  refine (HN3.out w3).mono ?_
  rintro e w4 ⟨rfl, _, hb4⟩
  have HK4 := hide (HK3.out.step hb4)
  have HM4 := hide (HM3.out.below hb4)
  clear hb4 HM3 HK3
  have hx := fun (i : Nat) => HK4.out.hd.cell i
  have z0 := hx 0
  have z1 := hx 1
  have z2 := hx 2
  have z3 := hx 3
  have z4 := hx 4
  have z5 := hx 5
  have hf := fun (i : Nat) => HK4.out.free i
  have f0 := hf 0
  have f1 := hf 1
  have f2 := hf 2
  have f3 := hf 3
  have f4 := hf 4
  have f5 := hf 5
  simp at z0 z1 z2 z3 z4 z5
  have hbk := HK4.out
  have HKF := hide ((((((hbk.put (by simp) 0 (.slice dA 4 dc)).put (by simp) 1 (.slice (some ⟨w2.heap.size, 0, none⟩) 0 0)).put (by simp) 2 (.slice (some ⟨W2.heap.size, 0, none⟩) 12 12)).put (by simp) 3 (.slice (some ⟨w3.heap.size, 0, none⟩) 12 12)).put (by simp) 4 (.int .i64 1)).put (by simp) 5 (.int .i64 0))
  clear hx hf hbk
  have hs1 : w.heap.size ≤ W2.heap.size := hs3
  have hgl : w.heap.size < w4.heap.size := HK4.out.lt
  have hgm : w.heap.size < W2.heap.size := HGM.out
  have HMF := hide (HM4.out.kept (grownBox6 w4 w.heap.size (.slice dA 4 dc) (.slice (some ⟨w2.heap.size, 0, none⟩) 0 0) (.slice (some ⟨W2.heap.size, 0, none⟩) 12 12) (.slice (some ⟨w3.heap.size, 0, none⟩) 12 12) (.int .i64 1) (.int .i64 0)) (by
    intro k hk e
    injection hk with hk
    subst hk
    have := (HM4.out.2.block _ e).1
    omega))
  go_wp2
  have hq := fun (i : Nat) => HKF.out.hd.cell i
  have q0 := hq 0
  have q1 := hq 1
  have q2 := hq 2
  have q3 := hq 3
  have q4 := hq 4
  have q5 := hq 5
  simp only [List.setIfInBounds_toArray, List.set_cons_zero, List.set_cons_succ, List.getElem?_toArray, List.getElem?_cons_zero, List.getElem?_cons_succ] at q0 q1 q2 q3 q4 q5
  exact bodyPost_ret (v := .agg #[.slice dA 4 dc, .slice (some ⟨w2.heap.size, 0, none⟩) 0 0, .slice (some ⟨W2.heap.size, 0, none⟩) 12 12, .slice (some ⟨w3.heap.size, 0, none⟩) 12 12, .int .i64 1, .int .i64 0]) (by simp [results, Try.results41, go_sem, q0, q1, q2, q3, q4, q5]) rfl ⟨dA, _, _, _, dc, 12, rfl, HMF.out.mono hs1, HKF.out.below⟩

set_option maxHeartbeats 1600000 in
theorem some92_any (R : Nat) (dA sA mA hA : Option Addr) (dn dc sn sc mc hn hc bm : Nat) (sq zn T : Int) (w : World) (hm : MpR w bm mA 12 mc new12) (hT : T = 1 ∨ T = 2) :
    Calls Try.prog 63 #[.pointer (some ⟨R, 0, none⟩), .agg #[.slice dA dn dc, .slice sA sn sc, .slice mA 12 mc, .slice hA hn hc, .int .i64 sq, .int .i64 zn], .int .i64 T] w fun e w' => ∃ (A2 : Option Addr) (c2 : Nat), e = .returned (.slice A2 0 c2) ∧ Own w' w.heap.size A2 0 c2 [] ∧ Below w.heap.size w w' := by
  have HK0 := hide ((Kp.refl w).push 70 #[.slice dA dn dc, .slice sA sn sc, .slice mA 12 mc, .slice hA hn hc, .int .i64 sq, .int .i64 zn])
  have HMT := hide (specMT mA 12 mc w.heap.size new12 T (w.alloc (.cells #[.slice dA dn dc, .slice sA sn sc, .slice mA 12 mc, .slice hA hn hc, .int .i64 sq, .int .i64 zn] 70)) (hm.mpi.alloc (Nat.le_refl _) _) (by simp) (by omega))
  rw [tier_new T hT] at HMT
  have z2 : (w.alloc (.cells #[.slice dA dn dc, .slice sA sn sc, .slice mA 12 mc, .slice hA hn hc, .int .i64 sq, .int .i64 zn] 70)).cell? ⟨w.heap.size, 2, none⟩ = some (.slice mA 12 mc) := by rw [HK0.out.hd.cell]; rfl
  clear hm hT
  go_enter Try.func63, Try.ntmps63
  go_upto_region 1 with (fail)
  obtain ⟨W1, hW1⟩ : ∃ W, w.alloc (.cells #[.slice dA dn dc, .slice sA sn sc, .slice mA 12 mc, .slice hA hn hc, .int .i64 sq, .int .i64 zn] 70) = W := ⟨_, rfl⟩
  rw [hW1] at HK0 HMT z2 ⊢
  clear hW1
  go_wp2_with fail
  refine HMT.out.mono ?_
  rintro e w2 ⟨A2, m, c2, rfl, ho2, hb2⟩
  have hm0 : m = 0 := ho2.1.symm
  subst hm0
  have HK2 := hide (HK0.out.step hb2)
  have hs2 := HK2.out.below.size
  have HO := hide (Own.lit0 w2 w.heap.size hs2)
  have HB := hide (HK2.out.below.alloc hs2 (.cells #[] 3))
  clear ho2 hb2 HK0 HMT z2
  go_wp2
  go_loop [8, 9] (fun o i => i = .int .i64 0 ∧ o = .slice (some ⟨w2.heap.size, 0, none⟩) 0 0) (fun _ _ => 0)
  case atStart => exact ⟨rfl, rfl⟩
  case round =>
    obtain ⟨rfl, rfl⟩ := hrel
    go_wp2
    go_ret
    exact ⟨_, _, rfl, HO.out, HB.out⟩
end Go.Proofs.Ytiopbgenkalfaaa
