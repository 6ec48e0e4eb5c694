/-
  The walk of FnColumnsSum.
-/
import Derived.Test.YtldbcenipahkfaaDrawK2
namespace Go.Proofs.Ytldbcenipahkfaa
open Go.RowKit
set_option linter.unusedVariables false
set_option maxRecDepth 100000

set_option maxHeartbeats 6400000 in
theorem colSum_walk (A : Option Addr) (n c : Nat) (bs : Nat → Int) (w : World) (hb : Bytes w w.heap.size A n bs) (hn : n ≤ c) (hc : c ≤ maxLen) :
    Calls Try.prog 4 #[.slice A n c] w fun e w' => e = .returned (.bool true) ∧ Below w.heap.size w w' := by
  by_cases hbig : 1048576 < n
  · go_enter Try.func4, Try.ntmps4
    go_wp2
    go_ret
    exact ⟨rfl, Below.refl _ _⟩
  · go_enter Try.func4, Try.ntmps4
    go_wp2_with fail
    refine (drawKC_any A n c bs _ hb hn hc).mono ?_
    rintro e w1 ⟨A1, m, cp, h, rfl, hd⟩
    have HB1 := hide hd.below
    have hm := hd.num
    have hs1 := hd.below.size
    have HP1 := hide (implCC A1 m cp _ h w1 hd.ints (Nat.le_refl _) (by omega))
    have HP2 := hide fun (W : World) (hB : Below w1.heap.size w1 W) => specCC A1 m cp _ h W (hd.ints.below hB (Nat.le_refl _)) hB.size (by omega)
    have HI := hide hd.ints
    have HG := hide fun (x y : Int) (W : World) (hB : Below w1.heap.size w1 W) => implCG A1 m cp _ h x y W (hd.ints.below hB (Nat.le_refl _)) hB.size (by omega)
    have HR0 := hide (show colV h = false → ckR h = (0, 0) from fun e => by unfold ckR; rw [e]; rfl)
    have HR1 := hide (show colV h = true → ckR h = chk h from fun e => by unfold ckR; rw [e]; rfl)
    obtain ⟨v, hv⟩ : ∃ v, colV h = v := ⟨_, rfl⟩
    rw [hv] at HP1 HP2
    have HV := hide hv
    clear hb hd hv
    generalize hR : ckR h = r at *
    obtain ⟨s, t⟩ := r
    simp only at HP1 HP2
    clear hR
    go_wp2_with fail
    refine HP1.out.mono ?_
    rintro e w2 ⟨rfl, hb2⟩
    obtain ⟨g, hg⟩ : ∃ g, w2.heap.size = g := ⟨_, rfl⟩
    have HK2 := hide (((Kp.refl w1).step hb2).pushN g hg 26 #[.int .i64 s, .int .i64 t])
    clear hb2 HP1
    go_wp2_with fail
    clear hg
    refine (HP2.out _ HK2.out.below).mono ?_
    rintro e w3 ⟨rfl, hb3⟩
    obtain ⟨g2, hg2⟩ : ∃ g, w3.heap.size = g := ⟨_, rfl⟩
    have hgg : g < g2 := by rw [← hg2]; exact (HK2.out.step hb3).lt
    have HK3 := hide ((HK2.out.step hb3).pushN g2 hg2 26 #[.int .i64 s, .int .i64 t])
    obtain ⟨q0, q1⟩ := HK3.out.cb
    obtain ⟨r0, r1⟩ := HK3.out.tl.cb
    clear hb3 HK2 HP2
    rcases v with _ | _
    · have HE := hide (HB1.out.trans (HK3.out.below.mono hs1))
      go_wp2
      go_ret
      exact ⟨rfl, HE.out⟩
    · have hR := HR1.out HV.out
      have hrg := chk_rng h
      rw [← hR] at hrg
      unfold ckV at hrg
      rw [Bool.and_eq_true, inB_iff, inB_iff] at hrg
      simp only at hrg
      obtain ⟨⟨s0, s1⟩, t0, t1⟩ := hrg
      have hm6 : m ≤ 6 := by rw [← HI.out.1]; exact (colV_iff.1 HV.out).2.2
      have HRR := hide hR
      obtain ⟨z0, z1⟩ := HK3.out.tl.cb
      have HE := hide (HB1.out.trans (HK3.out.below.mono hs1))
      have HIW := hide (HI.out.below HK3.out.below (Nat.le_refl _))
      clear hR HG HR0 HR1 HK3 HI
      go_wp2_with fail
      generalize w3.alloc (.cells #[.int .i64 s, .int .i64 t] 26) = W at z0 z1 HE HIW q0 q1 r0 r1 ⊢
      go_loop [8, 9, 10] (fun a b i => ∃ k : Nat, k ≤ m ∧ i = .int .i64 k ∧ a = .int .i64 (sS (h.take k)) ∧ b = .int .i64 (wS 0 (h.take k)) ∧ (0 ≤ sS (h.take k) ∧ sS (h.take k) ≤ 600) ∧ (0 ≤ wS 0 (h.take k) ∧ wS 0 (h.take k) ≤ 600 * k)) (fun _ _ i => m - (intOf i).toNat)
      case atStart => exact ⟨0, by omega, rfl, rfl, rfl, by simp [sS], by simp [wS]⟩
      case round =>
        obtain ⟨k, hk, rfl, rfl, rfl, ha, hb⟩ := hrel
        by_cases hlt : k < m
        · have hkl : k < h.length := by rw [HIW.out.1]; exact hlt
          have HS1 := hide (sS_take hkl)
          have HS2 := hide (wS_take hkl)
          have hsm := sums_small (xs := h.take (k + 1)) fun x hx => (colV_iff.1 HV.out).1 x (List.mem_of_mem_take hx)
          have hln : (h.take (k + 1)).length ≤ 6 := by rw [List.length_take]; omega
          have hxr := colV_at HV.out hkl
          obtain ⟨ad, rfl, _, hc1⟩ := HIW.out.at_ hlt
          generalize h.getD k 0 = x at *
          have hy := mul_rng (a := (k : Int) + 1) (b := x) (by omega) (by omega) hxr.1 (by omega)
          have hy2 : ((k : Int) + 1) * x ≤ 600 := by
            have : k = 0 ∨ k = 1 ∨ k = 2 ∨ k = 3 ∨ k = 4 ∨ k = 5 := by omega
            rcases this with rfl | rfl | rfl | rfl | rfl | rfl <;> simp <;> omega
          have hr1 : 0 ≤ sS (h.take (k + 1)) ∧ sS (h.take (k + 1)) ≤ 600 := by omega
          have hr2 : 0 ≤ wS 0 (h.take (k + 1)) ∧ wS 0 (h.take (k + 1)) ≤ 600 * ((k + 1 : Nat) : Int) := by rw [HS2.out]; omega
          have k1 : (k : Int) < (m : Int) := by omega
          have k0 : (0 : Int) ≤ (k : Int) := by omega
          have w1 : IntKind.i64.wrap ((k : Int) + 1) = (k : Int) + 1 := IntWalk.i64_in _ (by omega)
          have w2 : IntKind.i64.wrap (((k : Int) + 1) * x) = ((k : Int) + 1) * x := IntWalk.i64_in _ (by omega)
          have w3 : IntKind.i64.wrap (wS 0 (h.take k) + ((k : Int) + 1) * x) = wS 0 (h.take k) + ((k : Int) + 1) * x := IntWalk.i64_in _ (by omega)
          have w4 : IntKind.i64.wrap (sS (h.take k) + x) = sS (h.take k) + x := IntWalk.i64_in _ (by omega)
          clear hsm hln hy2
          go_wp2
          go_round
          case rel => exact ⟨k + 1, by omega, by go_num, by rw [HS1.out], by rw [HS2.out], hr1, hr2⟩
          case measure => simp [intOf]; omega
        · obtain rfl : k = m := by omega
          have HD := hide (show h.take k = h from List.take_of_length_le (by rw [HIW.out.1]; exact Nat.le_refl _))
          rw [HD.out] at ha hb ⊢
          have e1 : sS h % 101 = s := by have := congrArg Prod.fst HRR.out; exact this.symm
          have e2 : wS 0 h % 101 = t := by have := congrArg Prod.snd HRR.out; exact this.symm
          clear hk hlt
          obtain ⟨a0, a1⟩ := ha
          obtain ⟨b0, b1⟩ := hb
          generalize sS h = a at *
          generalize wS 0 h = b at *
          go_wp2
          go_ret
          exact ⟨rfl, HE.out⟩
end Go.Proofs.Ytldbcenipahkfaa
