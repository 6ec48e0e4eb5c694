/-
  The program's over, tallyOf, columnsValid, checkValid, hasColumn.
-/
import Derived.Test.YtldbcenipahkfaaImpC1
namespace Go.Proofs.Ytldbcenipahkfaa
open Go.RowKit
set_option linter.unusedVariables false
set_option maxRecDepth 100000

set_option maxHeartbeats 3200000 in
theorem over_any (m d : Int) (w : World) (hm0 : 0 ≤ m) (hm1 : m ≤ 100) (hd0 : 0 ≤ d) (hd1 : d ≤ 100) :
    Calls Try.prog 45 #[.agg #[.int .i64 m], .agg #[.int .i64 d]] w fun e w' => e = .returned (.agg #[.int .i64 (ov m d)]) ∧ Below w.heap.size w w' := by
  have hmeth := meth_base
  obtain ⟨X, hX⟩ : ∃ X, ov m d = X := ⟨_, rfl⟩
  have HX := hide (show ovK d 99 m = X from hX)
  rw [hX]
  clear hX
  have HK0 := hide (((((Kp.refl w).push 53 #[.int .i64 m]).pushN (w.heap.size + 1) (by simp) 53 #[.int .i64 d]).pushN (w.heap.size + 1 + 1) (by simp) 53 #[.int .i64 0]).alloc (.cells #[] 64))
  go_enter Try.func45, Try.ntmps45
  go_wp2_with fail
  refine (base_any _).mono ?_
  rintro e w1 ⟨rfl, hb⟩
  have HK1 := hide (HK0.out.step hb)
  clear hb HK0 hmeth
  go_wp2
  go_loopw [10] (fun i wr => ∃ k : Nat, k ≤ 99 ∧ i = .int .i64 k ∧ Hid (Kp w wr [(w.heap.size, 53, #[.int .i64 (ovK d k m)]), (w.heap.size + 1, 53, #[.int .i64 d]), (w.heap.size + 1 + 1, 53, #[.int .i64 0])])) (fun i _ => 99 - (intOf i).toNat)
  case atStart => exact ⟨0, by omega, rfl, HK1.out.sub (by rw [show ovK d 0 m = m from rfl]; intro p hp; simp only [List.mem_cons, List.not_mem_nil, or_false] at hp ⊢; rcases hp with h | h | h <;> simp [h])⟩
  case round =>
    clear HK1
    obtain ⟨k, hk, rfl, HK⟩ := hrel
    have hr := ovK_rng (d := d) hm0 hm1 k
    have h0 := HK.out.hd.cell 0
    have h1 := HK.out.tl.hd.cell 0
    simp at h0 h1
    by_cases hlt : k < 99
    · have k1 : (k : Int) < 99 := by omega
      have HN : Hid (ovK d (k + 1) m = ovK d k m * d % 101) := by show _ = _; rfl
      obtain ⟨y, hy⟩ : ∃ y, ovK d k m * d % 101 = y := ⟨_, rfl⟩
      rw [hy] at HN
      have HT : Hid (∀ W : World, Calls Try.prog 52 #[.agg #[.int .i64 (ovK d k m)], .agg #[.int .i64 d]] W fun e w' => e = .returned (.agg #[.int .i64 y]) ∧ Below W.heap.size W w') := fun W => by
        have h := times_any (ovK d k m) d W hr.1 hr.2 hd0 hd1
        rwa [hy] at h
      clear hy
      generalize ovK d k m = x at *
      go_wp2_with fail
      refine (HT.out _).mono ?_
      rintro e w2 ⟨rfl, hb⟩
      have HK2 := hide (HK.out.step hb)
      have hfree := HK2.out.free 0
      have hcell := HK2.out.hd.cell 0
      simp at hcell
      have HK3 := hide (HK2.out.put (by intro p hp; simp at hp; rcases hp with rfl | rfl <;> simp <;> omega) 0 (.int .i64 y))
      clear hb HK
      go_wp2
      go_roundw
      case rel => exact ⟨k + 1, by omega, by go_num, by rw [HN.out]; exact HK3.out⟩
      case measure => simp [intOf]; omega
    · obtain rfl : k = 99 := by omega
      have h2 := HK.out.tl.tl.hd.cell 0
      have h3 := HK.out.tl.tl.free 0
      have HK2 := hide (HK.out.tl.tl.put (by intro p hp; cases hp) 0 (.int .i64 X))
      have q0 := HK2.out.hd.cell 0
      simp at h2 q0
      rw [HX.out] at h0
      go_wp2
      exact bodyPost_ret (v := .agg #[.int .i64 X]) (by simp [results, Try.results45, go_sem, q0]) rfl ⟨rfl, HK2.out.below⟩

theorem col_take {xs : List Int} {k : Nat} (hk : k < xs.length) : (xs.take (k + 1)).all (fun x => inB x 0 99) = ((xs.take k).all (fun x => inB x 0 99) && inB (xs.getD k 0) 0 99) := by
  have e : xs.getD k 0 = xs[k] := by simp [List.getD, hk]
  rw [List.take_succ_eq_append_getElem hk, List.all_append, e]
  simp
theorem col_no {xs : List Int} {k : Nat} (hk : k < xs.length) (hn : inB (xs.getD k 0) 0 99 = false) : colV xs = false := by
  have e : xs.getD k 0 = xs[k] := by simp [List.getD, hk]
  have : xs.all (fun x => inB x 0 99) = false := by
    rw [List.all_eq_false]
    exact ⟨_, List.getElem_mem hk, by rw [← e, hn]; simp⟩
  unfold colV
  rw [this]
  rfl

set_option maxHeartbeats 1600000 in
theorem implCV (A : Option Addr) (n c B : Nat) (xs : List Int) (w : World) (hr : Ints w B A n xs) (hn : n ≤ 1000000000000) :
    Calls Try.prog 37 #[.slice A n c] w fun e w' => e = .returned (.bool (colV xs)) ∧ w = w' := by
  have HR := hide hr
  clear hr
  by_cases hn1 : n < 1
  · have HN := hide (show colV xs = false by unfold colV; rw [HR.out.1, Bool.and_eq_false_iff]; right; unfold inB; rw [decide_eq_false (by omega)]; rfl)
    have hd : decide ((n : Int) < 1) = true := by simp; omega
    have hd2 : (n : Int) < 1 := by omega
    go_enter Try.func37, Try.ntmps37
    go_wp2
    go_ret
    exact ⟨ret_bool HN.out.symm, rfl⟩
  · by_cases hn6 : 6 < n
    · have HN := hide (show colV xs = false by unfold colV; rw [HR.out.1, Bool.and_eq_false_iff]; right; unfold inB; rw [decide_eq_false (p := (n : Int) ≤ 6) (by omega), Bool.and_false])
      have hd : ¬ (n : Int) < 1 := by omega
      have hd2 : (6 : Int) < (n : Int) := by omega
      go_enter Try.func37, Try.ntmps37
      go_wp2
      go_ret
      exact ⟨ret_bool HN.out.symm, rfl⟩
    · have hd : ¬ (n : Int) < 1 := by omega
      have hd2 : ¬ (6 : Int) < (n : Int) := by omega
      go_enter Try.func37, Try.ntmps37
      go_wp2
      go_loop [15] (fun i => ∃ k : Nat, k ≤ n ∧ i = .int .i64 k ∧ Hid ((xs.take k).all (fun x => inB x 0 99) = true)) (fun i => n - (intOf i).toNat)
      case atStart => exact ⟨0, Nat.zero_le _, rfl, rfl⟩
      case round =>
        obtain ⟨k, hk, rfl, HA⟩ := hrel
        by_cases hlt : k < n
        · have HT := hide (col_take (xs := xs) (k := k) (by rw [HR.out.1]; exact hlt))
          have HN := hide fun hx => col_no (xs := xs) (k := k) (by rw [HR.out.1]; exact hlt) hx
          obtain ⟨ad, rfl, hb, hc⟩ := HR.out.at_ hlt
          generalize xs.getD k 0 = x at hc HT HN
          have hk1 : (k : Int) < (n : Int) := by omega
          by_cases h1 : x < 0
          · have H1 := hide (show inB x 0 99 = false by unfold inB; rw [decide_eq_false (by omega)]; rfl)
            go_wp2
            go_ret
            exact ⟨ret_bool (HN.out H1.out).symm, rfl⟩
          · by_cases h2 : 99 < x
            · have H1 := hide (show inB x 0 99 = false by unfold inB; rw [decide_eq_false (p := x ≤ 99) (by omega), Bool.and_false])
              go_wp2
              go_ret
              exact ⟨ret_bool (HN.out H1.out).symm, rfl⟩
            · have H1 := hide (show inB x 0 99 = true from inB_iff.2 (by omega))
              go_wp2
              go_round
              case rel => exact ⟨k + 1, by omega, by go_num, by show _ = _; rw [HT.out, HA.out, H1.out]; rfl⟩
              case measure => simp [intOf]; omega
        · obtain rfl : k = n := by omega
          have HD := hide (show xs.all (fun x => inB x 0 99) = true by have := HA.out; rwa [List.take_of_length_le (by rw [HR.out.1]; exact Nat.le_refl _)] at this)
          go_wp2
          go_ret
          exact ⟨ret_bool (by unfold colV; rw [HD.out, HR.out.1, Bool.true_and]; symm; exact inB_iff.2 (by omega)), rfl⟩
end Go.Proofs.Ytldbcenipahkfaa
