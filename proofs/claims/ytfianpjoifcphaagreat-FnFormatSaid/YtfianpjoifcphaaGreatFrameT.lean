/-
  The cursor of the frames: take.
-/
import Derived.Test.YtfianpjoifcphaaGreatG2
import Derived.Test.YtfianpjoifcphaaGreatClone
import Derived.Deep.RegionHeld3
namespace Go.Proofs.YtfianpjoifcphaaGreat
open Go.RowKit
set_option linter.unusedVariables false
set_option maxRecDepth 100000

/-- words from place a on, m of them -/
def cutW (xs : List Int) (a m : Nat) : List Int := (xs.drop a).take m
theorem cutW_eq (xs : List Int) (a m : Nat) : (xs.take (a + m)).drop a = cutW xs a m := by
  unfold cutW
  rw [List.drop_take, Nat.add_sub_cancel_left]
theorem cutW_length (xs : List Int) (a m : Nat) (h : a + m ≤ xs.length) : (cutW xs a m).length = m := by
  unfold cutW; rw [List.length_take, List.length_drop]; omega
theorem cutW_getD (xs : List Int) (a m j : Nat) (h : j < m) : (cutW xs a m).getD j 0 = xs.getD (a + j) 0 := by
  unfold cutW; rw [getD_take' _ _ _ h, getD_drop']

theorem Ints.cut' {w : World} {B n c : Nat} {A : Option Addr} {xs : List Int} (h : Ints w B A n xs) {a m : Nat} (hm : a + m ≤ n) (hc : n ≤ c) : Ints w B (if c = a then A else A.map (·.add a)) m (cutW xs a m) := by
  have := h.cut (k := a) (m := a + m) (cap := c) (by omega) hm hc
  rwa [cutW_eq, Nat.add_sub_cancel_left] at this

set_option maxHeartbeats 1600000 in
theorem take_no (C : Nat) (A : Option Addr) (n c : Nat) (p m : Int) (w : World) (hb : Blk w C 231 #[.slice A n c, .int .i64 p]) (hn : n ≤ 9223372036854775807) (hp : p ≤ 9223372036854775807)
    (h : m < 0 ∨ p < 0 ∨ (n : Int) - p < m) :
    Calls Tryz.prog 233 #[.pointer (some ⟨C, 0, none⟩), .int .i64 m] w fun e w' => e = .returned (.tuple #[.slice none 0 0, .bool false]) ∧ ∃ d, w' = w.drewN d := by
  have c0 := hb.cell 0
  have c1 := hb.cell 1
  simp at c0 c1
  by_cases h1 : m < 0
  · have g1 : decide (m < 0) = true := by simpa using h1
    clear h
    go_enter Tryz.func233, Tryz.ntmps233
    go_wp2_with fail
    go_quiet (fail)
    go_wp2
    go_ret2
    exact ⟨rfl, _, rfl⟩
  · have g1 : decide (m < 0) = false := by simpa using h1
    by_cases h2 : p < 0
    · have g2 : decide (p < 0) = true := by simpa using h2
      clear h
      go_enter Tryz.func233, Tryz.ntmps233
      go_wp2_with fail
      go_quiet (fail)
      go_wp2
      go_ret2
      exact ⟨rfl, _, rfl⟩
    · have g2 : decide (p < 0) = false := by simpa using h2
      have h3 : (n : Int) - p < m := by omega
      have g3 : decide ((n : Int) - p < m) = true := by simpa using h3
      have e1 : IntKind.i64.wrap ((n : Int) - p) = (n : Int) - p := IntWalk.i64_in _ (by omega)
      clear h
      go_enter Tryz.func233, Tryz.ntmps233
      go_wp2_with fail
      go_quiet (fail)
      go_wp2
      go_ret2
      exact ⟨rfl, _, rfl⟩

set_option maxHeartbeats 1600000 in
theorem take_yes (C : Nat) (A : Option Addr) (n c a m : Nat) (p q : Int) (xs : List Int) (w : World) (hp : p = a) (hq : q = m) (hb : Blk w C 231 #[.slice A n c, .int .i64 p]) (hi : Ints w C A n xs) (hn : n ≤ c) (hc : c ≤ 9223372036854775807)
    (hm : a + m ≤ n) (hm2 : m ≤ 17592186044416) (h0 : A = none → c = 0) :
    Calls Tryz.prog 233 #[.pointer (some ⟨C, 0, none⟩), .int .i64 q] w fun e w' => ∃ A2 c2, e = .returned (.tuple #[.slice A2 m c2, .bool true]) ∧ Own w' w.heap.size A2 m c2 (cutW xs a m) ∧
      Blk w' C 231 #[.slice A n c, .int .i64 ((a : Int) + m)] ∧ w.grownBy w' (some C) := by
  subst hp
  subst hq
  have c0 := hb.cell 0
  have c1 := hb.cell 1
  simp at c0 c1
  have HB := hide hb
  have HI := hide hi
  have hCw := hb.lt
  have g1 : decide ((m : Int) < 0) = false := by simp
  have g2 : decide ((a : Int) < 0) = false := by simp
  have g3 : decide ((n : Int) - (a : Int) < (m : Int)) = false := by simp; omega
  have e1 : IntKind.i64.wrap ((n : Int) - (a : Int)) = (n : Int) - (a : Int) := IntWalk.i64_in _ (by omega)
  have e2 : IntKind.i64.wrap ((a : Int) + (m : Int)) = (a : Int) + (m : Int) := IntWalk.i64_in _ (by omega)
  have hC := (fun k : Nat => (hi.cut' hm hn).drewN k)
  have hZ : (if c = a then A else Option.map (fun x => x.add a) A) = none → m = 0 ∧ c - a = 0 := by
    intro h
    have hA : A = none := by
      split at h
      · exact h
      · simpa using h
    have := h0 hA
    omega
  obtain ⟨D, hD⟩ : ∃ D, (if c = a then A else Option.map (fun x => x.add a) A) = D := ⟨_, rfl⟩
  rw [hD] at hZ
  simp only [hD] at hC
  have HC := hide hC
  have HZ := hide hZ
  clear hb hi h0 hC hZ
  go_enter Tryz.func233, Tryz.ntmps233
  go_wp2_with fail
  go_quiet (fail)
  go_wp2_with fail
  have i0 : (0 : Int) ≤ (a : Int) := by omega
  have i1 : (a : Int) ≤ (a : Int) + (m : Int) := by omega
  have i2 : (a : Int) + (m : Int) ≤ (c : Int) := by omega
  have e3 : ((a : Int) + (m : Int)).toNat = a + m := by omega
  have e4 : ((a : Int) + (m : Int) - (a : Int)).toNat = m := by omega
  go_region_held3 (fun w' => w'.cell? ⟨C, 0, none⟩ = some (.slice A n c) ∧ w'.cell? ⟨C, 1, none⟩ = some (.int .i64 (a : Int)))
    (first
      | go_keep
      | (refine ⟨(hB3.cell hCw).trans c0, (hB3.cell hCw).trans c1⟩))
    ((first
      | (go_at_call 136; refine (clone_any _ m _ C (cutW xs a m) _ ?_ ?_ hm2 HZ.out).mono ?_; exact HC.out _; exact Nat.le_of_lt hCw; rintro e w3 ⟨A3, c3, rfl, ho3, hB3⟩)))
  have hB3' : Below w.heap.size w w3 := ⟨hB3.os, hB3.tape, hB3.output, hB3.size, hB3.block⟩
  have hb3 : Blk w3 C 231 #[.slice A n c, .int .i64 (a : Int)] := HB.out.below hB3' hCw
  have d0 := hb3.cell 0
  have d1 := hb3.cell 1
  have d2 := hb3.frozen 1
  simp at d0 d1
  have hst := hb3.set_ 1 (.int .i64 ((a : Int) + m))
  simp at hst
  have HS := hide hst
  have HO := hide ho3
  have hrow : ∀ q, (Value.slice A3 m c3).ownBlock = some q → C ≠ q := fun q hq => by have := (ho3.block q hq).1; simp at this; omega
  have HG := hide (show w.grownBy (w3.setCell ⟨C, 1, none⟩ (.int .i64 ((a : Int) + m))) (some C) from
    ⟨hB3'.os, hB3'.tape, hB3'.output, by simpa [World.setCell] using hB3'.size, fun i hi hne => (Below.heap_setCell w3 ⟨C, 1, none⟩ _ i (by rintro rfl; exact hne rfl)).trans (hB3'.block i hi)⟩)
  have HO2 := hide (HO.out.kept (w' := w3.setCell ⟨C, 1, none⟩ (.int .i64 ((a : Int) + m))) (row := some C)
    ⟨rfl, rfl, rfl, by simp [World.setCell], fun i hi hne => Below.heap_setCell w3 ⟨C, 1, none⟩ _ i (by rintro rfl; exact hne rfl)⟩ (fun q hq e => hrow _ e (by injection hq)))
  clear hst hb3 ho3 hB3 hB3' hrow c0 c1
  go_wp2
  go_ret2
  exact ⟨_, _, rfl, HO2.out, HS.out, HG.out⟩
end Go.Proofs.YtfianpjoifcphaaGreat
