/-
  The model's l5Marks, l5Extents.
-/
import Derived.Test.YthpipgcgnhgphaaSpecE1
import Derived.OwnWalk
namespace Go.Proofs.Ythpipgcgnhgphaa
open Go.RowKit
set_option linter.unusedVariables false
set_option maxRecDepth 100000

theorem info_bool : (Try.prog.info? 4).map (fun i => (i.zero, i.size, i.bytes)) = some (some (.bool false), 1, 1) := by kernel_rfl
theorem inE_take {es : Exs} {k : Nat} {e : Int × Int} (h : es[k]? = some e) (b : Int) : inE (es.take (k + 1)) b = (inE (es.take k) b || (decide (e.1 ≤ b) && decide (b < e.1 + e.2))) := by
  rw [List.take_add_one, h, inE_append]
  congr 1
  show inE [e] b = _
  unfold inE
  simp
theorem vE_at {es : Exs} (hv : exV es = true) {k : Nat} {e : Int × Int} (h : es[k]? = some e) : 0 ≤ e.1 ∧ 1 ≤ e.2 ∧ e.1 + e.2 ≤ 12 := by
  have key : ∀ (xs : Exs) (nx : Int), 0 ≤ nx → vE nx xs = true → ∀ x ∈ xs, 0 ≤ x.1 ∧ 1 ≤ x.2 ∧ x.1 + x.2 ≤ 12 := by
    intro xs
    induction xs with
    | nil => intro nx _ _ x hx; cases hx
    | cons y ys ih =>
      intro nx h0 hv x hx
      obtain ⟨h1, h2, h3⟩ := vE_cons.1 hv
      rcases List.mem_cons.1 hx with rfl | hx
      · omega
      · exact ih _ (by omega) h3 x hx
  exact key es 0 (by omega) hv e (List.mem_of_getElem? h)

set_option maxHeartbeats 3200000 in
theorem specMarks (A : Option Addr) (n c B : Nat) (es : Exs) (w : World) (hr : ExI w B A n es) (hB : B ≤ w.heap.size) (hn : n ≤ 1000000000000) (hv : exV es = true) :
    Calls Try.prog 35 #[.slice A n c] w fun e w' => e = .returned (.slice (some ⟨w.heap.size, 0, none⟩) 12 12) ∧ OwnM w' w.heap.size w.heap.size (inE es) ∧ Below w.heap.size w w' := by
  obtain ⟨i0, hi, hz0, hz1, hz2⟩ := info_parts info_bool
  have HR := hide hr
  have HV := hide hv
  clear hr hv
  go_enter Try.func35, Try.ntmps35
  go_wp2_with (at_make; refine wpList_make_full _ rfl _ _ 46 rfl w.heap.size 4 i0 (.bool false) 1 Try.underlying46 hi hz0 hz1 .i64 .i64 _ _ 12 rfl rfl rfl rfl (by rw [hz2]; omega) (by unfold maxLen; omega) (Nat.le_refl _) ?_; intro w1 hown hgrow; rw [made12] at hown)
  have HO0 : Hid (OwnM w1 w.heap.size w.heap.size (fun _ => false)) := hown
  have HB0 := hide (below_of_grown hgrow)
  clear hown hgrow hi hz0 hz1 hz2
  go_loopw [4] (fun i wr => ∃ (k : Nat), k ≤ n ∧ i = .int .i64 k ∧ Hid (OwnM wr w.heap.size w.heap.size (inE (es.take k))) ∧ Hid (Below w.heap.size w wr)) (fun i _ => n - (intOf i).toNat)
  case atStart => exact ⟨0, Nat.zero_le _, rfl, HO0.out, HB0.out⟩
  case round =>
    clear HO0 HB0
    obtain ⟨k, hk, rfl, HO, HB⟩ := hrel
    by_cases hlt : k < n
    · obtain ⟨e, he⟩ : ∃ e, es[k]? = some e := ⟨_, List.getElem?_eq_getElem (by rw [HR.out.1]; exact hlt)⟩
      have HT := hide (inE_take he)
      obtain ⟨f0, m0, fm⟩ := vE_at HV.out he
      have HAT := hide fun (W : World) (h : Below w.heap.size w W) => (HR.out.below h hB).at_ he
      clear he
      obtain ⟨f, m⟩ := e
      simp only at f0 m0 fm HT HAT
      obtain ⟨F, rfl⟩ := Int.eq_ofNat_of_zero_le f0
      obtain ⟨M, rfl⟩ := Int.eq_ofNat_of_zero_le (show 0 ≤ m by omega)
      have k0 : (0 : Int) ≤ (k : Int) := by omega
      have k1 : (k : Int) < (n : Int) := by omega
      go_wp2
      go_loopw [5] (fun i wr => ∃ (j : Nat), j ≤ M ∧ i = .int .i64 j ∧ Hid (OwnM wr w.heap.size w.heap.size (fun b => inE (es.take k) b || (decide ((F : Int) ≤ b) && decide (b < (F : Int) + (j : Int))))) ∧ Hid (Below w.heap.size w wr)) (fun i _ => M - (intOf i).toNat)
      case atStart => exact ⟨0, Nat.zero_le _, rfl, HO.out.ext (fun i _ => by
        by_cases h : (F : Int) ≤ (i : Int)
        · rw [decide_eq_false (p := (i : Int) < (F : Int) + ((0 : Nat) : Int)) (by omega)]; simp
        · rw [decide_eq_false h]; simp), HB.out⟩
      case round =>
        clear HO HB
        obtain ⟨j, hj, rfl, HO, HB⟩ := hrel
        obtain ⟨ad, p, rfl, hp, hb, hc0, hc1⟩ := HAT.out _ HB.out
        by_cases hlt2 : j < M
        · obtain ⟨J, hJ⟩ : ∃ J, F + j = J := ⟨_, rfl⟩
          have hJi : (F : Int) + (j : Int) = (J : Int) := by omega
          have J0 : (0 : Int) ≤ (J : Int) := by omega
          have J1 : (J : Int) < 12 := by omega
          have hJ12 : J < 12 := by omega
          have wJ : IntKind.i64.wrap (J : Int) = (J : Int) := IntWalk.i64_in _ (by omega)
          have hcell := HO.out.cell hJ12
          have hfree := HO.out.free J
          have hput := HO.out.put hJ12 true
          have HO2 := hide (hput.1.ext (q := fun b => inE (es.take k) b || (decide ((F : Int) ≤ b) && decide (b < (F : Int) + ((j + 1 : Nat) : Int)))) (fun i _ => by
            by_cases e : (i : Int) = (J : Int)
            · rw [if_pos e, decide_eq_true (p := (F : Int) ≤ (i : Int)) (by omega), decide_eq_true (p := (i : Int) < (F : Int) + ((j + 1 : Nat) : Int)) (by omega)]; simp
            · rw [if_neg e]
              congr 2
              rw [decide_eq_decide]
              omega))
          have HB2 := hide (HB.out.grown hput.2 HB.out.size (fun b hb => by injection hb with hb; omega))
          have j1 : (j : Int) < (M : Int) := by omega
          clear hput
          generalize (inE (es.take k) (J : Int) || (decide ((F : Int) ≤ (J : Int)) && decide ((J : Int) < (F : Int) + (j : Int)))) = y at hcell
          go_wp2
          go_roundw
          case rel => exact ⟨j + 1, by omega, by go_num, HO2.out, HB2.out⟩
          case measure => simp [intOf]; omega
        · obtain rfl : j = M := by omega
          have HO2 := hide (HO.out.ext (q := inE (es.take (k + 1))) (fun i _ => (HT.out i).symm))
          go_wp2
          go_roundw
          case rel => exact ⟨k + 1, by omega, by go_num, HO2.out, HB.out⟩
          case measure => simp [intOf]; omega
    · obtain rfl : k = n := by omega
      have HO2 := hide HO.out
      rw [List.take_of_length_le (by rw [HR.out.1]; exact Nat.le_refl _)] at HO2
      go_wp2
      go_ret
      exact ⟨rfl, HO2.out, HB.out⟩
end Go.Proofs.Ythpipgcgnhgphaa
