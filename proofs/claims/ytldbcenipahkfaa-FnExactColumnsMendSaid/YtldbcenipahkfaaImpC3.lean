/-
  The program's checkValid, hasColumn, tallyOf.
-/
import Derived.Test.YtldbcenipahkfaaImpC2
namespace Go.Proofs.Ytldbcenipahkfaa
open Go.RowKit
set_option linter.unusedVariables false
set_option maxRecDepth 100000

set_option maxHeartbeats 1600000 in
theorem implKV (c1 c2 : Int) (w : World) (h0 : -9223372036854775808 ≤ c1) (h1 : c1 ≤ 9223372036854775807) (h2 : -9223372036854775808 ≤ c2) (h3 : c2 ≤ 9223372036854775807) :
    Calls Try.prog 56 #[.agg #[.int .i64 c1, .int .i64 c2]] w fun e w' => e = .returned (.bool (ckV (c1, c2))) ∧ Below w.heap.size w w' := by
  have HB := hide ((Below.refl w.heap.size w).alloc (Nat.le_refl _) (.cells #[.int .i64 c1, .int .i64 c2] 26))
  rcases (show c1 < c2 ∨ c2 < c1 ∨ c1 = c2 by omega) with hle | hle | hle
  · by_cases ha : 0 ≤ c1
    · by_cases hb : c2 < 101
      · have E := hide (show ckV (c1, c2) = true by unfold ckV inB; rw [Bool.eq_iff_iff]; simp; omega)
        rw [E.out]
        go_enter Try.func56, Try.ntmps56
        go_wp2
        go_ret
        exact ⟨rfl, HB.out⟩
      · have E := hide (show ckV (c1, c2) = false by unfold ckV inB; rw [Bool.eq_iff_iff]; simp; omega)
        rw [E.out]
        have hd : decide (c2 < 101) = false := decide_eq_false hb
        go_enter Try.func56, Try.ntmps56
        go_wp2
        go_ret
        exact ⟨rfl, HB.out⟩
    · have E := hide (show ckV (c1, c2) = false by unfold ckV inB; rw [Bool.eq_iff_iff]; simp; omega)
      rw [E.out]
      have hd : decide (0 ≤ c1) = false := decide_eq_false ha
      go_enter Try.func56, Try.ntmps56
      go_wp2
      go_ret
      exact ⟨rfl, HB.out⟩
  · by_cases ha : 0 ≤ c2
    · by_cases hb : c1 < 101
      · have E := hide (show ckV (c1, c2) = true by unfold ckV inB; rw [Bool.eq_iff_iff]; simp; omega)
        rw [E.out]
        go_enter Try.func56, Try.ntmps56
        go_wp2
        go_ret
        exact ⟨rfl, HB.out⟩
      · have E := hide (show ckV (c1, c2) = false by unfold ckV inB; rw [Bool.eq_iff_iff]; simp; omega)
        rw [E.out]
        have hd : decide (c1 < 101) = false := decide_eq_false hb
        go_enter Try.func56, Try.ntmps56
        go_wp2
        go_ret
        exact ⟨rfl, HB.out⟩
    · have E := hide (show ckV (c1, c2) = false by unfold ckV inB; rw [Bool.eq_iff_iff]; simp; omega)
      rw [E.out]
      have hd : decide (0 ≤ c2) = false := decide_eq_false ha
      go_enter Try.func56, Try.ntmps56
      go_wp2
      go_ret
      exact ⟨rfl, HB.out⟩
  · subst hle
    by_cases ha : 0 ≤ c1
    · by_cases hb : c1 < 101
      · have E := hide (show ckV (c1, c1) = true by unfold ckV inB; rw [Bool.eq_iff_iff]; simp; omega)
        rw [E.out]
        go_enter Try.func56, Try.ntmps56
        go_wp2
        go_ret
        exact ⟨rfl, HB.out⟩
      · have E := hide (show ckV (c1, c1) = false by unfold ckV inB; rw [Bool.eq_iff_iff]; simp; omega)
        rw [E.out]
        have hd : decide (c1 < 101) = false := decide_eq_false hb
        go_enter Try.func56, Try.ntmps56
        go_wp2
        go_ret
        exact ⟨rfl, HB.out⟩
    · have E := hide (show ckV (c1, c1) = false by unfold ckV inB; rw [Bool.eq_iff_iff]; simp; omega)
      rw [E.out]
      have hd : decide (0 ≤ c1) = false := decide_eq_false ha
      go_enter Try.func56, Try.ntmps56
      go_wp2
      go_ret
      exact ⟨rfl, HB.out⟩

set_option maxHeartbeats 800000 in
theorem implHas (A : Option Addr) (n c : Nat) (a : Int) (w : World) :
    Calls Try.prog 46 #[.slice A n c, .int .i64 a] w fun e w' => e = .returned (.bool (inB a 0 ((n : Int) - 1))) ∧ w = w' := by
  have e : inB a 0 ((n : Int) - 1) = (decide (0 ≤ a) && decide (a < (n : Int))) := by
    unfold inB
    rw [Bool.eq_iff_iff]
    simp only [Bool.and_eq_true, decide_eq_true_eq]
    omega
  rw [e]
  clear e
  by_cases h0 : 0 ≤ a
  · by_cases h1 : a < (n : Int)
    · have E := hide (show (decide (0 ≤ a) && decide (a < (n : Int))) = true by rw [decide_eq_true h0, decide_eq_true h1]; rfl)
      rw [E.out]
      go_enter Try.func46, Try.ntmps46
      go_wp2
      go_ret
      exact ⟨rfl, rfl⟩
    · have E := hide (show (decide (0 ≤ a) && decide (a < (n : Int))) = false by rw [decide_eq_true h0, decide_eq_false h1]; rfl)
      rw [E.out]
      go_enter Try.func46, Try.ntmps46
      go_wp2
      go_ret
      exact ⟨rfl, rfl⟩
  · have E := hide (show (decide (0 ≤ a) && decide (a < (n : Int))) = false by rw [decide_eq_false h0]; rfl)
    rw [E.out]
    have hd : decide (0 ≤ a) = false := decide_eq_false h0
    go_enter Try.func46, Try.ntmps46
    go_wp2
    go_ret
    exact ⟨rfl, rfl⟩

/-- what tallyOf keeps: the column at hand, both sums -/
def TKp (w W : World) (g : Nat) (x s t : Int) : Prop :=
  Kp w W [(w.heap.size + 1, 55, #[.int .i64 s, .int .i64 t]), (g, 53, #[.int .i64 x]), (w.heap.size, 55, #[.int .i64 0, .int .i64 0])]
theorem TKp.cells {w W : World} {g : Nat} {x s t : Int} (h : TKp w W g x s t) :
    W.cell? ⟨w.heap.size + 1, 0, none⟩ = some (.int .i64 s) ∧ W.cell? ⟨w.heap.size + 1, 1, none⟩ = some (.int .i64 t) ∧ W.cell? ⟨g, 0, none⟩ = some (.int .i64 x) ∧ W.frozen? ⟨w.heap.size + 1, 0, none⟩ = false ∧ W.frozen? ⟨w.heap.size + 1, 1, none⟩ = false := by
  refine ⟨?_, ?_, ?_, Kp.free h 0, Kp.free h 1⟩
  · rw [(Kp.hd h).cell]; rfl
  · rw [(Kp.hd h).cell]; rfl
  · rw [(Kp.hd (Kp.tl h)).cell]; rfl
/-- a call that makes memory alone keeps them -/
theorem TKp.call {w W : World} {g : Nat} {x s t : Int} {f : FuncId} {args : Array Value} {r : Ending} (h : TKp w W g x s t) (hc : Calls Try.prog f args W fun e W' => e = r ∧ Below W.heap.size W W') :
    Calls Try.prog f args W fun e W' => e = r ∧ Hid (TKp w W' g x s t) ∧ W'.cell? ⟨w.heap.size + 1, 0, none⟩ = some (.int .i64 s) ∧ W'.cell? ⟨w.heap.size + 1, 1, none⟩ = some (.int .i64 t) ∧ W'.cell? ⟨g, 0, none⟩ = some (.int .i64 x) ∧ W'.frozen? ⟨w.heap.size + 1, 0, none⟩ = false ∧ W'.frozen? ⟨w.heap.size + 1, 1, none⟩ = false :=
  hc.mono fun e W' ⟨he, hb⟩ => ⟨he, Kp.step h hb, TKp.cells (Kp.step h hb)⟩

set_option maxHeartbeats 6400000 in
theorem tally_any (A : Option Addr) (n c B : Nat) (xs : List Int) (w : World) (hr : Ints w B A n xs) (hB : B ≤ w.heap.size) (hx : colV xs = true) :
    Calls Try.prog 38 #[.slice A n c] w fun e w' => e = .returned (.agg #[.int .i64 (chk xs).1, .int .i64 (chk xs).2]) ∧ Below w.heap.size w w' := by
  obtain ⟨X1, hX1⟩ : ∃ X, (chk xs).1 = X := ⟨_, rfl⟩
  obtain ⟨X2, hX2⟩ : ∃ X, (chk xs).2 = X := ⟨_, rfl⟩
  rw [hX1, hX2]
  have HX1 := hide hX1
  have HX2 := hide hX2
  have HR := hide hr
  have HV := hide hx
  have hn6 : n ≤ 6 := by rw [← hr.1]; exact (colV_iff.1 hx).2.2
  clear hX1 hX2 hr hx
  have HK0 := hide (((Kp.refl w).push 55 #[.int .i64 0, .int .i64 0]).pushN (w.heap.size + 1) (by simp) 55 #[.int .i64 0, .int .i64 0])
  go_enter Try.func38, Try.ntmps38
  go_wp2
  go_loopw [9] (fun i wr => ∃ k : Nat, k ≤ n ∧ i = .int .i64 k ∧ Hid (Kp w wr [(w.heap.size + 1, 55, #[.int .i64 (chk (xs.take k)).1, .int .i64 (chk (xs.take k)).2]), (w.heap.size, 55, #[.int .i64 0, .int .i64 0])])) (fun i _ => n - (intOf i).toNat)
  case atStart => exact ⟨0, by omega, rfl, HK0.out⟩
  case round =>
    clear HK0
    obtain ⟨k, hk, rfl, HK⟩ := hrel
    by_cases hlt : k < n
    · have k1 : (k : Int) < (n : Int) := by omega
      have hkl : k < xs.length := by rw [HR.out.1]; exact hlt
      have hxr := colV_at HV.out hkl
      have HS := hide (chk_step hkl)
      have hck := chk_rng (xs.take k)
      unfold ckV at hck
      rw [Bool.and_eq_true, inB_iff, inB_iff] at hck
      obtain ⟨ad, rfl, hab, hc⟩ := (HR.out.below HK.out.below hB).at_ hlt
      generalize xs.getD k 0 = x at hc HS hxr
      generalize (chk (xs.take k)).1 = s at HK HS hck ⊢
      generalize (chk (xs.take k)).2 = t at HK HS hck ⊢
      generalize hC : chk (xs.take (k + 1)) = C at HS
      have HC := hide hC
      clear hC
      obtain ⟨s0, s1⟩ := hck.1
      obtain ⟨t0, t1⟩ := hck.2
      obtain ⟨x0, x1⟩ := hxr
      have HM : Hid (∀ W : World, Calls Try.prog 54 #[.int .i64 x] W fun e w' => e = .returned (.agg #[.int .i64 x]) ∧ Below W.heap.size W w') := fun W => by
        have h := modOf_any x W (by omega) (by omega)
        rwa [show x % 101 = x by omega] at h
      obtain ⟨p, hp⟩ : ∃ p, (k : Int) + 1 = p := ⟨_, rfl⟩
      have HP : Hid (∀ W : World, Calls Try.prog 50 #[.int .i64 k] W fun e w' => e = .returned (.agg #[.int .i64 p]) ∧ Below W.heap.size W w') := fun W => by
        have h := placeOf_any k W (by omega) (by omega)
        rwa [show ((k : Int) + 1) % 101 = p by omega] at h
      have HT := hide fun (W : World) => times_any x p W x0 (by omega) (by omega) (by omega)
      have hy0 : 0 ≤ x * p % 101 := by omega
      have hy1 : x * p % 101 ≤ 100 := by omega
      have HA1 := hide fun (W : World) => plus_any s x W s0 s1 x0 (by omega)
      have HA2 := hide fun (W : World) => plus_any t (x * p % 101) W t0 t1 hy0 hy1
      have HE : Hid (C = ((s + x) % 101, (t + x * p % 101) % 101)) := by
        show _ = _
        rw [HS.out, hp, Int.mul_comm p x]
        simp only [Prod.mk.injEq, true_and]
        omega
      clear hp HS hck
      generalize x * p % 101 = y at *
      generalize (s + x) % 101 = s' at *
      generalize (t + y) % 101 = t' at *
      go_wp2_with fail
      refine (HM.out _).mono ?_
      rintro e w1 ⟨rfl, hb1⟩
      have HK1 := hide ((HK.out.step hb1).push 53 #[.int .i64 x])
      have h3 : Hid (TKp w (w1.alloc (.cells #[.int .i64 x] 53)) w1.heap.size x s t) := HK1.out.swap
      obtain ⟨g, hg⟩ : ∃ g, w1.heap.size = g := ⟨_, rfl⟩
      have hgl : w.heap.size + 1 < g := by rw [← hg]; exact (HK.out.step hb1).lt
      rw [hg] at h3
      obtain ⟨q0, q1, q2, f0, f1⟩ := TKp.cells h3.out
      clear hb1 HK1
      go_wp2_with fail
      refine (TKp.call h3.out (HA1.out _)).mono ?_
      rintro e w2 ⟨rfl, HK2, q0, q1, q2, f0, f1⟩
      have HK3 : Hid (TKp w (w2.setCell ⟨w.heap.size + 1, 0, none⟩ (.int .i64 s')).drew g x s' t) := (Kp.put HK2.out (by intro p hp; simp at hp; rcases hp with rfl | rfl <;> simp <;> omega) 0 (.int .i64 s')).drewN 1
      clear h3 hg
      go_wp2_with fail
      obtain ⟨q0, q1, q2, f0, f1⟩ := TKp.cells HK3.out
      go_region_with ((first
        | (go_at_call 50; refine (TKp.call HK3.out (HP.out _)).mono ?_; rintro e w4 ⟨rfl, HK4, q0, q1, q2, f0, f1⟩)
        | (go_at_call 52; refine (TKp.call HK4.out (HT.out _)).mono ?_; rintro e w5 ⟨rfl, HK5, q0, q1, q2, f0, f1⟩)
        | (go_at_call 55; refine (TKp.call HK5.out (HA2.out _)).mono ?_; rintro e w6 ⟨rfl, HK6, q0, q1, q2, f0, f1⟩)))
      all_goals
        have HK7 : Hid (Kp w (w6.setCell ⟨w.heap.size + 1, 1, none⟩ (.int .i64 t')) [(w.heap.size + 1, 55, #[.int .i64 C.1, .int .i64 C.2]), (w.heap.size, 55, #[.int .i64 0, .int .i64 0])]) := by
          rw [HE.out]
          exact (Kp.put HK6.out (by intro p hp; simp at hp; rcases hp with rfl | rfl <;> simp <;> omega) 1 (.int .i64 t')).sub (by intro p hp; simp only [List.mem_cons, List.not_mem_nil, or_false] at hp ⊢; rcases hp with h | h <;> simp [h])
        clear HK2 HK3 HK4 HK5 HK6 HK HM HP HT HA1 HA2
        go_wp2
        go_roundw
        case rel => exact ⟨k + 1, by omega, by go_num, by rw [HC.out]; exact HK7.out⟩
        case measure => simp [intOf]; omega
    · obtain rfl : k = n := by omega
      have HD := hide (show xs.take k = xs from List.take_of_length_le (by rw [HR.out.1]; exact Nat.le_refl _))
      rw [HD.out, HX1.out, HX2.out] at HK
      have h0 := HK.out.hd.cell 0
      have h1 := HK.out.hd.cell 1
      have h2 := HK.out.tl.hd.cell 0
      have h3 := HK.out.tl.hd.cell 1
      have f2 := HK.out.tl.free 0
      have f3 := HK.out.tl.free 1
      have HK2 := hide ((HK.out.tl.put (by intro p hp; cases hp) 0 (.int .i64 X1)).put (by intro p hp; cases hp) 1 (.int .i64 X2))
      have q0 := HK2.out.hd.cell 0
      have q1 := HK2.out.hd.cell 1
      simp at h0 h1 h2 h3 q0 q1
      go_wp2
      exact bodyPost_ret (v := .agg #[.int .i64 X1, .int .i64 X2]) (by simp [results, Try.results38, go_sem, q0, q1]) rfl ⟨rfl, HK2.out.below⟩
end Go.Proofs.Ytldbcenipahkfaa
