/-
  laws.samePairs, laws.sameColds: whether two lists of records are equal.
-/
import Derived.Test.YtapfbkjgmfmepaaRec
import Derived.Test.YtapfbkjgmfmepaaPairM
namespace Go.Proofs.Ytapfbkjgmfmepaa
open Go.RowKit
set_option linter.unusedVariables false
set_option maxRecDepth 100000

theorem take_rec_succ (s : Nat) (xs ys : List Int) (k : Nat) (hx : k * s + s ≤ xs.length) (hy : k * s + s ≤ ys.length) (h : xs.take (k * s) = ys.take (k * s)) :
    ((∀ j, j < s → xs.getD (k * s + j) 0 = ys.getD (k * s + j) 0) → xs.take ((k + 1) * s) = ys.take ((k + 1) * s)) ∧ ((∃ j, xs.getD (k * s + j) 0 ≠ ys.getD (k * s + j) 0) → xs ≠ ys) := by
  refine ⟨fun e => ?_, fun ⟨j, e⟩ h => e (by rw [h])⟩
  have hl : (k + 1) * s = k * s + s := Nat.succ_mul k s
  rw [hl]
  apply List.ext_getElem?
  intro i
  rcases Nat.lt_or_ge i (k * s) with hi | hi
  · have h2 : (xs.take (k * s))[i]? = (ys.take (k * s))[i]? := by rw [h]
    rw [List.getElem?_take_of_lt hi, List.getElem?_take_of_lt hi] at h2
    rw [List.getElem?_take_of_lt (by omega), List.getElem?_take_of_lt (by omega), h2]
  · rcases Nat.lt_or_ge i (k * s + s) with hi2 | hi2
    · obtain ⟨j, rfl⟩ := Nat.exists_eq_add_of_le hi
      have := e j (by omega)
      have h1 : k * s + j < xs.length := by omega
      have h2 : k * s + j < ys.length := by omega
      rw [List.getElem?_take_of_lt hi2, List.getElem?_take_of_lt hi2]
      simpa [List.getD, h1, h2] using this
    · rw [List.getElem?_eq_none (by rw [List.length_take]; omega), List.getElem?_eq_none (by rw [List.length_take]; omega)]

theorem cell_next {w : World} {ad p : Addr} {m i : Nat} {v : Value} (hi : i ≠ 0) (e : ad.add m = p) (h : w.cell? (ad.add (m + i)) = some v) : w.cell? ⟨p.block, p.off + i, none⟩ = some v := by
  rw [← add_of_add, e] at h
  simpa [Addr.add, hi] using h
theorem ints_at2 {w : World} {B n k : Nat} {A : Option Addr} {xs : List Int} (h : Ints w B A (n * 2) xs) (hk : k < n) : ∃ ad p, A = some ad ∧ ad.add (k * 2) = p ∧ p.block < B ∧ w.cell? p = some (.int .i64 (xs.getD (k * 2) 0)) ∧ w.cell? ⟨p.block, p.off + 1, none⟩ = some (.int .i64 (xs.getD (k * 2 + 1) 0)) := by
  obtain ⟨ad, e, hb, hc⟩ := h.2 (by omega)
  exact ⟨ad, _, e, rfl, by rw [block_of_add]; exact hb, hc _ (by omega), cell_next (by decide) rfl (hc (k * 2 + 1) (by omega))⟩
theorem ints_at3 {w : World} {B n k : Nat} {A : Option Addr} {xs : List Int} (h : Ints w B A (n * 3) xs) (hk : k < n) : ∃ ad p, A = some ad ∧ ad.add (k * 3) = p ∧ p.block < B ∧ w.cell? p = some (.int .i64 (xs.getD (k * 3) 0)) ∧ w.cell? ⟨p.block, p.off + 1, none⟩ = some (.int .i64 (xs.getD (k * 3 + 1) 0)) ∧ w.cell? ⟨p.block, p.off + 2, none⟩ = some (.int .i64 (xs.getD (k * 3 + 2) 0)) := by
  obtain ⟨ad, e, hb, hc⟩ := h.2 (by omega)
  exact ⟨ad, _, e, rfl, by rw [block_of_add]; exact hb, hc _ (by omega), cell_next (by decide) rfl (hc (k * 3 + 1) (by omega)), cell_next (by decide) rfl (hc (k * 3 + 2) (by omega))⟩

theorem take_rec2 (xs : List Int) (k : Nat) (h : k * 2 + 2 ≤ xs.length) : xs.take (k * 2) ++ [xs.getD (k * 2) 0, xs.getD (k * 2 + 1) 0] = xs.take ((k + 1) * 2) := by
  have h0 : k * 2 < xs.length := by omega
  have h1 : k * 2 + 1 < xs.length := by omega
  have e0 : xs.getD (k * 2) 0 = xs[k * 2] := by simp [List.getD, h0]
  have e1 : xs.getD (k * 2 + 1) 0 = xs[k * 2 + 1] := by simp [List.getD, h1]
  rw [show (k + 1) * 2 = k * 2 + 1 + 1 by omega, List.take_succ_eq_append_getElem h1, List.take_succ_eq_append_getElem h0, e0, e1, List.append_assoc]
  rfl
theorem take_rec3 (xs : List Int) (k : Nat) (h : k * 3 + 3 ≤ xs.length) : xs.take (k * 3) ++ [xs.getD (k * 3) 0, xs.getD (k * 3 + 1) 0, xs.getD (k * 3 + 2) 0] = xs.take ((k + 1) * 3) := by
  have h0 : k * 3 < xs.length := by omega
  have h1 : k * 3 + 1 < xs.length := by omega
  have h2 : k * 3 + 2 < xs.length := by omega
  have e0 : xs.getD (k * 3) 0 = xs[k * 3] := by simp [List.getD, h0]
  have e1 : xs.getD (k * 3 + 1) 0 = xs[k * 3 + 1] := by simp [List.getD, h1]
  have e2 : xs.getD (k * 3 + 2) 0 = xs[k * 3 + 2] := by simp [List.getD, h2]
  rw [show (k + 1) * 3 = k * 3 + 1 + 1 + 1 by omega, List.take_succ_eq_append_getElem h2, List.take_succ_eq_append_getElem h1, List.take_succ_eq_append_getElem h0, e0, e1, e2, List.append_assoc, List.append_assoc]
  rfl

/-- what PairsPut and ColdPut answer: the numbers themselves, or nothing -/
def PutPost (w : World) (v : Bool) (xs : List Int) (e : Ending) (w' : World) : Prop :=
  ∃ A2 m c2, e = .returned (.tuple #[.slice A2 m c2, .bool v]) ∧ Own w' w.heap.size A2 m c2 (if v then xs else []) ∧ Below w.heap.size w w'
/-- what PairsGet and ColdGet answer -/
def GetPost (w : World) (t : TypeId) (s : Nat) (v : Bool) (xs : List Int) (e : Ending) (w' : World) : Prop :=
  ∃ A2 m c2, e = .returned (.tuple #[.slice A2 m c2, .bool v]) ∧ OwnR w' w.heap.size t s A2 m c2 (if v then xs else []) ∧ Below w.heap.size w w'
/-- n numbers are a valid body -/
def okG (s : Nat) (mx : Int) (f : List Int → Nat → Bool) (xs : List Int) (n : Nat) : Bool := decide (n % s = 0) && validR s mx f xs (n / s)

set_option maxHeartbeats 1600000 in
theorem samePairs_any (A A' : Option Addr) (n c m d B B' : Nat) (xs ys : List Int) (w : World) (hx : Ints w B A (n * 2) xs) (hy : Ints w B' A' (m * 2) ys) (hn : n ≤ 1000000000) (hm : m ≤ 1000000000) :
    Calls Try.prog 58 #[.slice A n c, .slice A' m d] w fun e w' => e = .returned (.bool (decide (xs = ys))) ∧ ∃ q, w' = w.drewN q := by
  have HX := hide hx
  have HY := hide hy
  clear hx hy
  by_cases hnm : n = m
  · subst hnm
    go_enter Try.func58, Try.ntmps58
    go_wp2
    go_loopw [5] (fun i wr => ∃ k q : Nat, k ≤ n ∧ i = .int .i64 k ∧ wr = w.drewN q ∧ Hid (xs.take (k * 2) = ys.take (k * 2))) (fun i _ => n - (intOf i).toNat)
    case atStart => exact ⟨0, 0, Nat.zero_le _, rfl, rfl, by show _ = _; simp⟩
    case round =>
      obtain ⟨k, q, hk, rfl, rfl, HT⟩ := hrel
      by_cases hlt : k < n
      · obtain ⟨ad, p, rfl, hp, hb, hc0, hc1⟩ := ints_at2 HX.out hlt
        obtain ⟨ad', p', rfl, hp', hb', hd0, hd1⟩ := ints_at2 HY.out hlt
        have HE := hide (take_rec_succ 2 xs ys k (by rw [HX.out.1]; omega) (by rw [HY.out.1]; omega) HT.out)
        have k0 : (0 : Int) ≤ (k : Int) := by omega
        have k1 : (k : Int) < (n : Int) := by omega
        obtain ⟨x0, e0⟩ : ∃ x, xs.getD (k * 2) 0 = x := ⟨_, rfl⟩
        obtain ⟨y0, f0⟩ : ∃ x, ys.getD (k * 2) 0 = x := ⟨_, rfl⟩
        rw [e0] at hc0
        rw [f0] at hd0
        obtain ⟨x1, e1⟩ : ∃ x, xs.getD (k * 2 + 1) 0 = x := ⟨_, rfl⟩
        obtain ⟨y1, f1⟩ : ∃ x, ys.getD (k * 2 + 1) 0 = x := ⟨_, rfl⟩
        rw [e1] at hc1
        rw [f1] at hd1
        have HXY := hide (And.intro e0 (And.intro e1 (And.intro f0 (f1))))
        clear e0 f0 e1 f1
        by_cases h0 : x0 = y0
        · subst h0
          by_cases h1 : x1 = y1
          · subst h1
            go_wp2_with fail
            go_quiet (fail)
            go_wp2
            go_roundw
            case rel =>
              refine ⟨k + 1, _, by omega, by go_num, rfl, HE.out.1 ?_⟩
              intro j hj
              rcases j with _ | _ | j
              · exact (HXY.out.1).trans (HXY.out.2.2.1).symm
              · exact (HXY.out.2.1).trans (HXY.out.2.2.2).symm
              · omega
            case measure => simp [intOf]; omega
          · have g1 : (x1 == y1) = false := by simpa using h1
            go_wp2_with fail
            go_quiet (fail)
            go_wp2
            go_ret
            have hne := HE.out.2 ⟨1, by show xs.getD (k * 2 + 1) 0 ≠ ys.getD (k * 2 + 1) 0; rw [HXY.out.2.1, HXY.out.2.2.2]; exact h1⟩
            exact ⟨ret_bool (by simpa using hne), _, World.drewN_drewN _ _ _⟩
        · have g0 : (x0 == y0) = false := by simpa using h0
          go_wp2_with fail
          go_quiet (fail)
          go_wp2
          go_ret
          have hne := HE.out.2 ⟨0, by show xs.getD (k * 2) 0 ≠ ys.getD (k * 2) 0; rw [HXY.out.1, HXY.out.2.2.1]; exact h0⟩
          exact ⟨ret_bool (by simpa using hne), _, World.drewN_drewN _ _ _⟩
      · obtain rfl : k = n := by omega
        go_wp2
        go_ret
        refine ⟨ret_bool ?_, q, rfl⟩
        have h := HT.out
        rw [List.take_of_length_le (by rw [HX.out.1]; exact Nat.le_refl _), List.take_of_length_le (by rw [HY.out.1]; exact Nat.le_refl _)] at h
        simpa using h
  · have h' : ((n : Int) != (m : Int)) = true := by simp; omega
    have hne : xs ≠ ys := fun e => hnm (by have h1 := HX.out.1; have h2 := HY.out.1; rw [e] at h1; omega)
    have HN := hide hne
    clear hne
    go_enter Try.func58, Try.ntmps58
    go_wp2
    go_ret
    exact ⟨ret_bool (by simpa using HN.out), 0, rfl⟩
theorem samePairs_yes (A A' : Option Addr) (n c m d B B' : Nat) (xs ys : List Int) (w : World) (hx : Ints w B A (n * 2) xs) (hy : Ints w B' A' (m * 2) ys) (hn : n ≤ 1000000000) (hm : m ≤ 1000000000) (h : xs = ys) :
    Calls Try.prog 58 #[.slice A n c, .slice A' m d] w fun e w' => e = .returned (.bool true) ∧ ∃ q, w' = w.drewN q :=
  (samePairs_any A A' n c m d B B' xs ys w hx hy hn hm).mono fun e w' ⟨he, hw⟩ => ⟨by rw [he, decide_eq_true h], hw⟩


end Go.Proofs.Ytapfbkjgmfmepaa
