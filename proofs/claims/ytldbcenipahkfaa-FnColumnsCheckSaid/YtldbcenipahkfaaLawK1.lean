/-
  The walk of FnColumnsCheck.
-/
import Derived.Test.YtldbcenipahkfaaDrawK2
namespace Go.Proofs.Ytldbcenipahkfaa
open Go.RowKit
set_option linter.unusedVariables false
set_option maxRecDepth 100000

set_option maxHeartbeats 6400000 in
theorem colCheck_walk (A : Option Addr) (n c : Nat) (bs : Nat → Int) (w : World) (hb : Bytes w w.heap.size A n bs) (hn : n ≤ c) (hc : c ≤ maxLen) :
    Calls Try.prog 3 #[.slice A n c] w fun e w' => e = .returned (.bool true) ∧ Below w.heap.size w w' := by
  by_cases hbig : 1048576 < n
  · go_enter Try.func3, Try.ntmps3
    go_wp2
    go_ret
    exact ⟨rfl, Below.refl _ _⟩
  · go_enter Try.func3, Try.ntmps3
    go_wp2_with fail
    refine (drawKC_any A n c bs _ hb hn hc).mono ?_
    rintro e w1 ⟨A1, m, cp, h, rfl, hd⟩
    have HB1 := hide hd.below
    have hm := hd.num
    have hs1 := hd.below.size
    have HP1 := hide (implCC A1 m cp _ h w1 hd.ints (Nat.le_refl _) (by omega))
    have HP2 := hide fun (W : World) (hB : Below w1.heap.size w1 W) => specCC A1 m cp _ h W (hd.ints.below hB (Nat.le_refl _)) hB.size (by omega)
    have HG := hide fun (x y : Int) (W : World) (hB : Below w1.heap.size w1 W) => implCG A1 m cp _ h x y W (hd.ints.below hB (Nat.le_refl _)) hB.size (by omega)
    have HR0 := hide (show colV h = false → ckR h = (0, 0) from fun e => by unfold ckR; rw [e]; rfl)
    have HR1 := hide (show colV h = true → ckR h = chk h from fun e => by unfold ckR; rw [e]; rfl)
    obtain ⟨v, hv⟩ : ∃ v, colV h = v := ⟨_, rfl⟩
    rw [hv] at HP1 HP2
    have HV := hide hv
    clear hb hd hv
    generalize hR : ckR h = r at *
    obtain ⟨s, t⟩ := r
    simp only at HP1 HP2
    clear hR
    go_wp2_with fail
    refine HP1.out.mono ?_
    rintro e w2 ⟨rfl, hb2⟩
    obtain ⟨g, hg⟩ : ∃ g, w2.heap.size = g := ⟨_, rfl⟩
    have HK2 := hide (((Kp.refl w1).step hb2).pushN g hg 26 #[.int .i64 s, .int .i64 t])
    clear hb2 HP1
    go_wp2_with fail
    clear hg
    refine (HP2.out _ HK2.out.below).mono ?_
    rintro e w3 ⟨rfl, hb3⟩
    obtain ⟨g2, hg2⟩ : ∃ g, w3.heap.size = g := ⟨_, rfl⟩
    have hgg : g < g2 := by rw [← hg2]; exact (HK2.out.step hb3).lt
    have HK3 := hide ((HK2.out.step hb3).pushN g2 hg2 26 #[.int .i64 s, .int .i64 t])
    obtain ⟨q0, q1⟩ := HK3.out.cb
    obtain ⟨r0, r1⟩ := HK3.out.tl.cb
    clear hb3 HK2 HP2
    rcases v with _ | _
    · have HE := hide (HB1.out.trans (HK3.out.below.mono hs1))
      go_wp2
      go_ret
      exact ⟨rfl, HE.out⟩
    · have hR := HR1.out HV.out
      have hrg := chk_rng h
      rw [← hR] at hrg
      unfold ckV at hrg
      rw [Bool.and_eq_true, inB_iff, inB_iff] at hrg
      simp only at hrg
      obtain ⟨⟨s0, s1⟩, t0, t1⟩ := hrg
      have w0 : IntKind.i64.wrap (s + 1) = s + 1 := IntWalk.i64_in _ (by omega)
      obtain ⟨u, hu⟩ : ∃ u, (s + 1) % 101 = u := ⟨_, rfl⟩
      have hus : u ≠ s := by omega
      have HG1 := hide fun (W : World) (hB : Below w1.heap.size w1 W) => HG.out s t W hB
      have HG2 := hide fun (W : World) (hB : Below w1.heap.size w1 W) => HG.out u t W hB
      rw [show goV h (s, t) = true by rw [hR]; exact goV_ck HV.out] at HG1
      rw [show goV h (u, t) = false from goV_no (by rw [← hR]; intro e; injection e with e; exact hus e.symm)] at HG2
      have HU := hide hu
      obtain ⟨g3, hg3⟩ : ∃ g, (w3.alloc (.cells #[.int .i64 s, .int .i64 t] 26)).heap.size = g := ⟨_, rfl⟩
      have hgg3 : g2 < g3 := by rw [← hg3]; simp; omega
      have HK4 := hide (HK3.out.pushN g3 hg3 26 #[.int .i64 s, .int .i64 t])
      have HK5 := hide (HK3.out.pushN g3 hg3 26 #[.int .i64 u, .int .i64 t])
      obtain ⟨d0, d1⟩ := HK4.out.tl.tl.cb
      obtain ⟨d2, d3⟩ := HK5.out.tl.tl.cb
      have HB5 := hide HK5.out.below
      clear hR HG hus HK3 HR0 HR1
      go_wp2_with fail
      refine (HG1.out _ HB5.out).mono ?_
      rintro e w6 ⟨rfl, hb6⟩
      have HK6 := hide (HK5.out.step hb6)
      obtain ⟨e0, e1⟩ := HK6.out.cb
      obtain ⟨e2, e3⟩ := HK6.out.tl.tl.cb
      clear hb6 HK4 HK5 HB5
      go_wp2_with fail
      refine (HG2.out _ HK6.out.below).mono ?_
      rintro e w7 ⟨rfl, hb7⟩
      have HK7 := hide (HK6.out.step hb7)
      obtain ⟨i0, i1⟩ := HK7.out.tl.tl.cb
      have HE := hide (HB1.out.trans (HK7.out.below.mono hs1))
      clear hb7 HK6
      go_wp2
      go_ret
      exact ⟨rfl, HE.out⟩
end Go.Proofs.Ytldbcenipahkfaa
