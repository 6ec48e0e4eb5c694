/-
  The exact laws' helpers on values: copies, equality, marks, a count.
-/
import Derived.Test.YtiopbgenkalfaaaSameP
import Derived.Test.YtiopbgenkalfaaaInts
import Derived.Test.YtiopbgenkalfaaaMarks
import Derived.Test.YtiopbgenkalfaaaRng
import Derived.Deep.RegionHeld3
namespace Go.Proofs.Ytiopbgenkalfaaa
open Go.RowKit
set_option linter.unusedVariables false
set_option maxRecDepth 100000

set_option maxHeartbeats 800000 in
theorem szPair_any (A : Option Addr) (n c : Nat) (w : World) (hn : n ≤ 9223372036854775807) :
    Calls Try.prog 54 #[.slice A n c, .int .i64 1048576] w fun e w' => e = .returned (.int .i64 (if 1048576 < n then -1 else 1048576 - (n : Int))) ∧ w = w' := by
  by_cases h : 1048576 < n
  · have h' : (1048576 : Int) - n < 0 := by omega
    go_enter Try.func54, Try.ntmps54
    go_wp2
    go_ret
    exact ⟨ret_int (by first | rfl | rw [if_pos h]), rfl⟩
  · have h' : ¬ (1048576 : Int) - n < 0 := by omega
    go_enter Try.func54, Try.ntmps54
    go_wp2
    go_ret
    exact ⟨ret_int (by first | rfl | rw [if_neg h]), rfl⟩

set_option maxHeartbeats 800000 in
theorem toPair_any (x0 x1 : Int) (w : World) :
    Calls Try.prog 75 #[.agg #[.int .i64 x0, .int .i64 x1]] w fun e w' => e = .returned (.agg #[.int .i64 x0, .int .i64 x1]) ∧ Below w.heap.size w w' := by
  go_enter Try.func75, Try.ntmps75
  go_wp2
  refine bodyPost_ret (v := .agg #[.int .i64 x0, .int .i64 x1]) (by simp [results, Try.results75, go_sem]) rfl ?_
  exact ⟨rfl, ((below_new w _).alloc (by simp) _).alloc (by simp; omega) _⟩

theorem made_same (z : Array Value) (v : Value) (hz : 0 < z.size) (h : ∀ i, i < z.size → z[i]! = v) (n : Nat) : (madeCells z n).toList = List.replicate n v := by
  apply List.ext_getElem
  · simp [madeCells]
  · intro i h1 h2
    simp only [madeCells, Array.toList_map, List.getElem_map, List.getElem_replicate]
    exact h _ (Nat.mod_lt _ hz)
theorem ext_getD {xs ys : List Int} (hl : xs.length = ys.length) (h : ∀ j, j < xs.length → xs.getD j 0 = ys.getD j 0) : xs = ys := by
  apply List.ext_getElem hl
  intro i h1 h2
  have := h i h1
  simpa [List.getD, h1, h2] using this
theorem getD_set_ (xs : List Int) (k j : Nat) (x : Int) (hk : k < xs.length) : (xs.set k x).getD j 0 = if k = j then x else xs.getD j 0 := by
  by_cases h : k = j
  · subst h; simp [List.getD, hk]
  · unfold List.getD; rw [List.getElem?_set_ne h, if_neg h]

set_option maxHeartbeats 3200000 in
theorem toPairS_any (A : Option Addr) (n c B : Nat) (xs : List Int) (w : World) (hr : Ints w B A (n * 2) xs) (hB : B ≤ w.heap.size) (hn : n ≤ 1000000000) :
    Calls Try.prog 56 #[.slice A n c] w fun e w' => ∃ A2 c2, e = .returned (.slice A2 n c2) ∧ OwnR w' w.heap.size 42 2 A2 n c2 xs ∧ Below w.heap.size w w' := by
  obtain ⟨i0, hi, hz0, hz1, hz2⟩ := info_parts pairT.info
  have HR := hide hr
  have HL := hide hr.1
  clear hr
  go_enter Try.func56, Try.ntmps56
  go_wp2_with (at_make; refine wpList_make_full _ rfl _ _ 33 rfl w.heap.size 42 i0 (Value.agg #[.int .i64 0, .int .i64 0]) 2 Try.underlying33 hi hz0 hz1 .i64 .i64 _ _ n rfl rfl rfl rfl (by rw [hz2]; omega) (by unfold maxLen; omega) (Nat.le_refl _) ?_; intro w1 hown hgrow)
  have ho : OwnR w1 w.heap.size 42 2 (some ⟨w.heap.size, 0, none⟩) n n (List.replicate (n * 2) 0) := by
    refine ⟨by simp, ?_⟩
    have e : (madeCells (Value.agg #[.int .i64 0, .int .i64 0]).cells (n * 2)).toList = (List.replicate (n * 2) (0 : Int)).map (Value.int .i64) := by
      rw [List.map_replicate]
      exact made_same _ _ (by decide) (fun i hi => by have h2 : i < 2 := hi; rcases i with _ | _ | i <;> first | rfl | omega) _
    rw [← e]
    exact hown
  have hB1 : Below w.heap.size w w1 := below_of_grown hgrow
  clear hown hgrow hi hz0 hz1 hz2
  go_loopw [4] (fun i wr => ∃ (k : Nat) (ys : List Int), k ≤ n ∧ i = .int .i64 k ∧ OwnR wr w.heap.size 42 2 (some ⟨w.heap.size, 0, none⟩) n n ys ∧ Hid (∀ j, j < k * 2 → ys.getD j 0 = xs.getD j 0) ∧ Below w.heap.size w wr)
    (fun i _ => n - (intOf i).toNat)
  case atStart => exact ⟨0, _, Nat.zero_le _, rfl, ho, by intro j hj; omega, hB1⟩
  case round =>
    clear ho hB1
    obtain ⟨k, ys, hk, rfl, hown, HP, hbel⟩ := hrel
    by_cases hlt : k < n
    · obtain ⟨ad, q, rfl, hq, hb, hc0, hc1⟩ := ints_at2 (HR.out.below hbel hB) hlt
      obtain ⟨x0, hx0⟩ : ∃ x, xs.getD (k * 2) 0 = x := ⟨_, rfl⟩
      rw [hx0] at hc0
      obtain ⟨x1, hx1⟩ : ∃ x, xs.getD (k * 2 + 1) 0 = x := ⟨_, rfl⟩
      rw [hx1] at hc1
      have HX := hide (And.intro hx0 hx1)
      have HO := hide hown
      have HBB := hide hbel
      clear hx0 hx1 hown hbel
      go_wp2_with fail
      refine (toPair_any x0 x1 _).mono ?_
      rintro e w2 ⟨rfl, hb2⟩
      have hown := HO.out.below hb2
      have hsz := HBB.out.size
      have hfree0 := hown.free (g := w.heap.size) (j := k * 2)
      have hcell0 := hown.cell (g := w.heap.size) (j := k * 2) (by omega)
      have hst0 := hown.stored (g := w.heap.size) (j := k * 2) x0
      have hfree1 := hst0.1.free (g := w.heap.size) (j := k * 2 + 1)
      have hcell1 := hst0.1.cell (g := w.heap.size) (j := k * 2 + 1) (by omega)
      have hst1 := hst0.1.stored (g := w.heap.size) (j := k * 2 + 1) x1
      have HS := hide (show OwnR _ w.heap.size 42 2 (some ⟨w.heap.size, 0, none⟩) n n ((ys.set (k * 2) x0).set (k * 2 + 1) x1) from hst1.1)
      have HB3 := hide ((HBB.out.trans (hb2.mono hsz)).grown (grown_trans' hst0.2 hst1.2) (by have := hb2.size; omega) (by intro g hg; injection hg with hg; omega))
      have hyl := hown.1
      have HP3 : Hid (∀ j, j < (k + 1) * 2 → ((ys.set (k * 2) x0).set (k * 2 + 1) x1).getD j 0 = xs.getD j 0) := by
        intro j hj
        have hx := HX.out
        rw [getD_set_ _ _ _ _ (by simp; omega), getD_set_ _ _ _ _ (by omega)]
        split
        · rename_i h; subst h; exact (hx.2).symm
        split
        · rename_i h; subst h; exact (hx.1).symm
        exact HP.out j (by omega)
      clear hst0 hst1 hown hb2 hyl HO HBB

      go_wp2
      go_roundw
      case rel => exact ⟨k + 1, _, by omega, by go_num, HS.out, HP3, HB3.out⟩
      case measure => simp [intOf]; omega
    · obtain rfl : k = n := by omega
      have hys : ys = xs := ext_getD (by rw [hown.1, HL.out]) (fun j hj => HP.out j (by rw [hown.1] at hj; exact hj))
      subst hys
      go_wp2
      go_ret
      exact ⟨_, _, rfl, hown, hbel⟩

set_option maxHeartbeats 800000 in
theorem eqPair_yes (x0 x1 : Int) (w : World) :
    Calls Try.prog 76 #[.agg #[.int .i64 x0, .int .i64 x1], .agg #[.int .i64 x0, .int .i64 x1]] w fun e w' => e = .returned (.bool true) ∧ Below w.heap.size w w' := by
  go_enter Try.func76, Try.ntmps76
  go_wp2
  go_ret
  exact ⟨rfl, (below_new w _).alloc (by simp) _⟩

set_option maxHeartbeats 3200000 in
theorem eqPairS_yes (A A' : Option Addr) (n c d B B' : Nat) (xs : List Int) (w : World) (hx : Ints w B A (n * 2) xs) (hB : B ≤ w.heap.size) (hy : Ints w B' A' (n * 2) xs) (hB' : B' ≤ w.heap.size) (hn : n ≤ 1000000000) :
    Calls Try.prog 57 #[.slice A n c, .slice A' n d] w fun e w' => e = .returned (.bool true) ∧ Below w.heap.size w w' := by
  have HX := hide hx
  have HY := hide hy
  clear hx hy
  go_enter Try.func57, Try.ntmps57
  go_wp2
  go_loopw [5] (fun i wr => ∃ k : Nat, k ≤ n ∧ i = .int .i64 k ∧ Hid (Below w.heap.size w wr)) (fun i _ => n - (intOf i).toNat)
  case atStart => exact ⟨0, Nat.zero_le _, rfl, Below.refl _ _⟩
  case round =>
    obtain ⟨k, hk, rfl, HW⟩ := hrel
    by_cases hlt : k < n
    · obtain ⟨ad, p, rfl, hp, hb, hc0, hc1⟩ := ints_at2 (HX.out.below HW.out hB) hlt
      obtain ⟨ad', p', rfl, hp', hb', hd0, hd1⟩ := ints_at2 (HY.out.below HW.out hB') hlt
      have k0 : (0 : Int) ≤ (k : Int) := by omega
      have k1 : (k : Int) < (n : Int) := by omega
      obtain ⟨x0, hx0⟩ : ∃ x, xs.getD (k * 2) 0 = x := ⟨_, rfl⟩
      rw [hx0] at hc0 hd0
      obtain ⟨x1, hx1⟩ : ∃ x, xs.getD (k * 2 + 1) 0 = x := ⟨_, rfl⟩
      rw [hx1] at hc1 hd1
      have hsz := HW.out.size
      have hpl : p.block < wr.heap.size := by omega
      have hpl' : p'.block < wr.heap.size := by omega
      clear hx0 hx1
      go_wp2_with fail
      go_region_held3 (fun W => W.cell? p = some (.int .i64 x0) ∧ W.cell? ⟨p.block, p.off + 1, none⟩ = some (.int .i64 x1) ∧ W.cell? p' = some (.int .i64 x0) ∧ W.cell? ⟨p'.block, p'.off + 1, none⟩ = some (.int .i64 x1))
        (first
          | go_keep
          | (exact ⟨(hb1.cell (p := p) hpl).trans hc0, (hb1.cell (p := ⟨p.block, p.off + 1, none⟩) hpl).trans hc1, (hb1.cell (p := p') hpl').trans hd0, (hb1.cell (p := ⟨p'.block, p'.off + 1, none⟩) hpl').trans hd1⟩))
        ((first
          | (go_at_call 76; refine (eqPair_yes x0 x1 _).mono ?_; rintro e w1 ⟨rfl, hb1'⟩; have hb1 : Below wr.heap.size wr w1 := ⟨hb1'.os, hb1'.tape, hb1'.output, hb1'.size, hb1'.block⟩; clear hb1')))
      have HW1 := hide (HW.out.trans (hb1.mono hsz))
      clear hb1
      go_wp2
      go_roundw
      case rel => exact ⟨k + 1, by omega, by go_num, HW1⟩
      case measure => simp [intOf]; omega
    · obtain rfl : k = n := by omega
      go_wp2
      go_ret
      exact ⟨rfl, HW.out⟩

set_option maxHeartbeats 1600000 in
theorem markPairS_any (A : Option Addr) (n c base : Nat) (k : Int) (xs : List Int) (w : World) (ho : OwnR w base 42 2 A n c xs) (hk0 : 0 ≤ k) (hk : k ≤ 1000000000) (hn : n ≤ 1000000000) :
    Calls Try.prog 58 #[.slice A n c, .int .i64 k] w fun e w' => e = .returned (.int .i64 (k + (n * 2 : Nat))) ∧ OwnR w' base 42 2 A n c (marks k (n * 2)) ∧ w.grownBy w' (Value.slice A n c).ownBlock := by
  by_cases hn0 : n = 0
  · subst hn0
    have hx : xs = [] := List.eq_nil_of_length_eq_zero (by have := ho.1; simpa using this)
    subst hx
    go_enter Try.func58, Try.ntmps58
    go_wp2
    refine wp_loop_rounds 1 ?_
    rw [rounds_succ]
    go_wp2
    go_ret
    exact ⟨ret_int (by simp), by simpa [marks] using ho, grown_refl w _⟩
  · obtain ⟨g, rfl, hgb, hgl⟩ := ho.shape (by omega)
    have HL := hide ho.1
    go_enter Try.func58, Try.ntmps58
    go_wp2
    go_loopw [1, 5] (fun kk i wr => ∃ (j : Nat) (v : Int), j ≤ n ∧ i = .int .i64 j ∧ kk = .int .i64 v ∧ 0 ≤ v ∧ v ≤ 5000000000 ∧ Hid (v = k + (j * 2 : Nat)) ∧ OwnR wr base 42 2 (some ⟨g, 0, none⟩) n c (markTo k xs (j * 2)) ∧ w.grownBy wr (some g)) (fun _ i _ => n - (intOf i).toNat)
    case atStart => exact ⟨0, k, Nat.zero_le _, rfl, rfl, hk0, by omega, by show _ = _; simp, by simpa [markTo_zero] using ho, grown_refl w _⟩
    case round =>
      obtain ⟨j, v, hj, rfl, rfl, hv0, hv1, HVV, hown, hg⟩ := hrel
      by_cases hlt : j < n
      · have hv := HVV.out
        have hf0 := hown.free (g := g) (j := j * 2)
        have hc0 := hown.cell (g := g) (j := j * 2) (by omega)
        have hst0 := hown.stored (g := g) (j := j * 2) (k + (j * 2 : Nat))
        rw [markTo_succ _ _ _ (by rw [HL.out]; omega), show k + ((j * 2 : Nat) : Int) = v by omega] at hst0
        have hown1 := hst0.1
        have hf1 := hown1.free (g := g) (j := j * 2 + 1)
        have hc1 := hown1.cell (g := g) (j := j * 2 + 1) (by omega)
        have hst1 := hown1.stored (g := g) (j := j * 2 + 1) (k + (j * 2 + 1 : Nat))
        rw [markTo_succ _ _ _ (by rw [HL.out]; omega), show k + ((j * 2 + 1 : Nat) : Int) = v + 1 by omega] at hst1
        have hown2 := hst1.1
        have HS := hide (hown2)
        have HG := hide (grown_trans' hg (grown_trans' hst0.2 hst1.2))
        generalize (markTo k xs (j * 2)).getD (j * 2) 0 = z0 at hc0
        generalize (markTo k xs (j * 2 + 1)).getD (j * 2 + 1) 0 = z1 at hc1
        clear hst0 hst1 hown hown1 hown2 hg hv
        go_wp2
        go_roundw
        case rel => exact ⟨j + 1, v + 1 + 1, by omega, by go_num, rfl, by have := HVV.out; omega, by have := HVV.out; omega, by have := HVV.out; show _ = _; omega, by rw [show (j + 1) * 2 = j * 2 + 2 by omega]; exact HS.out, HG.out⟩
        case measure => simp [intOf]; omega
      · obtain rfl : j = n := by omega
        have hm : markTo k xs (j * 2) = marks k (j * 2) := by rw [← HL.out]; exact markTo_all k xs
        rw [hm] at hown
        clear hm
        go_wp2
        go_ret
        exact ⟨ret_int HVV.out, hown, hg⟩

end Go.Proofs.Ytiopbgenkalfaaa
