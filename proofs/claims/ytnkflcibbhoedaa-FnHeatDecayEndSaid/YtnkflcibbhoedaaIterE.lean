/-
  slices.Values over a slice of ints, as the program bears it; blocks that ascend.
-/
import Derived.Test.YtnkflcibbhoedaaAsc
import Derived.Test.YtnkflcibbhoedaaChnM
namespace Go.Proofs.Ytnkflcibbhoedaa
open Go.RowKit Go.Shelf
set_option linter.unusedVariables false
set_option maxRecDepth 100000

attribute [local go_sem] Oper.semAt_some

set_option maxHeartbeats 400000 in
theorem values_any (A : Option Addr) (n c : Nat) (w : World) :
    Calls Try.prog 39 #[.slice A n c] w fun e w' => e = .returned (.func (.func 45) #[] #[.pointer (some ⟨w.heap.size, 0, none⟩)]) ∧ w' = w.alloc (.cells #[.slice A n c] 23) := by
  go_enter Try.func39, Try.ntmps39
  go_wp2
  go_ret
  exact ⟨rfl, rfl⟩

theorem blocksOf_succ1 (xs : List Int) (n : Nat) : blocksOf 1 xs (n + 1) = blocksOf 1 xs n ++ [xs.getD n 0] := by rw [blocksOf_succ, Nat.mul_one]
theorem blocksOf_one {xs : List Int} {n : Nat} (h : xs.length = n) : blocksOf 1 xs n = xs := by
  apply List.ext_getElem?
  intro i
  by_cases hi : i < n
  · have h1 := blocksOf_getD 1 xs n i hi
    rw [Nat.mul_one] at h1
    have l1 : i < (blocksOf 1 xs n).length := by rw [blocksOf_length]; exact hi
    have l2 : i < xs.length := by omega
    rw [List.getElem?_eq_getElem l1, List.getElem?_eq_getElem l2]
    simpa [List.getD, l1, l2] using h1
  · rw [List.getElem?_eq_none (by rw [blocksOf_length]; omega), List.getElem?_eq_none (by omega)]

set_option maxHeartbeats 4000000 in
theorem values_stops (A : Option Addr) (n c m Bs n₀ : Nat) (xs : List Int) (w : World) (hm : 1 ≤ m) (hBs : Bs < w.heap.size) (hn₀ : n₀ ≤ w.heap.size) (hc : w.cell? ⟨Bs, 0, none⟩ = some (.slice A n c)) (hI : Ints w n₀ A n xs) (hn : n ≤ 1000000000) :
    SeqStopsK Fence.wide m Try.prog 45 #[.pointer (some ⟨Bs, 0, none⟩)] (fun x : Int => #[Value.int .i64 x]) (Below n₀) (fun ys => ys = blocksOf 1 xs n) (fun pre => pre <+: blocksOf 1 xs n) n w := fun l J Jx W hW hJ hJx hY h0 => by
  have hc' := (hW.cell (p := ⟨Bs, 0, none⟩) hBs).trans hc
  have HI := hide (hI.below (hW.mono hn₀) (Nat.le_refl _))
  have hn1 : n₀ ≤ W.heap.size := Nat.le_trans hn₀ hW.size
  clear hI hc
  refine callsIn_of_wp Try.func45 rfl trivial ?_ rfl
  simp only [Try.ntmps45, List.size_toArray, List.length_cons, List.length_nil, Nat.reduceAdd, Nat.reduceSub, Array.replicate_succ, Array.replicate_zero, List.push_toArray, List.append_toArray, List.nil_append, List.cons_append]
  gi_wp2
  gi_loopw [7] (fun i wr => ∃ k : Nat, k ≤ n ∧ i = .int .i64 k ∧ J (blocksOf 1 xs k) wr ∧ Below n₀ W wr) (fun i _ => n - (intOf i).toNat)
  case atStart => exact ⟨0, Nat.zero_le _, rfl, h0, Below.refl _ _⟩
  case round =>
    obtain ⟨k, hk, rfl, hJs, hB⟩ := hrel
    by_cases hlt : k < n
    · obtain ⟨ad, rfl, hb, hc0⟩ := (HI.out.below hB (Nat.le_refl _)).at_ hlt
      obtain ⟨x0, hx0⟩ : ∃ x, xs.getD k 0 = x := ⟨_, rfl⟩
      rw [hx0] at hc0
      obtain ⟨fn, tmps, assign, body, hy, hR⟩ := hY _ x0 _ hJs (by rw [blocksOf_length]; exact hlt)
      have HBA := hide hB
      have HX := hide hx0
      have k0 : (0 : Int) ≤ (k : Int) := by omega
      have k1 : (k : Int) < (n : Int) := by omega
      clear hx0 hB hJs
      gi_wp2
      refine hR.mono ?_
      rintro e W3 (⟨rfl, hJ3, hk3⟩ | ⟨rfl, hJx3⟩)
      · gi_wp2
        go_roundw
        case rel => exact ⟨k + 1, by omega, by go_num, by rw [blocksOf_succ, Nat.mul_one, HX.out]; exact hJ3, HBA.out.trans hk3⟩
        case measure => simp [intOf]; omega
      · gi_wp2
        refine bodyPost_ret (results_none rfl _ _ _) rfl ?_
        exact ⟨⟨_, rfl⟩, .inr ⟨_, by rw [← HX.out, ← blocksOf_succ1]; exact blocksOf_prefix _ _ (by omega), hJx3⟩⟩
    · obtain rfl : k = n := by omega
      gi_wp2
      go_end0
      exact ⟨⟨_, rfl⟩, .inl ⟨_, rfl, hJs⟩⟩
end Go.Proofs.Ytnkflcibbhoedaa
