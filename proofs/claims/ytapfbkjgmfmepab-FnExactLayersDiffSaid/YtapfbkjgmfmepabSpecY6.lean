/-
  The model's LayersDiff.
-/
import Derived.Test.YtapfbkjgmfmepabSpecY2
namespace Go.Proofs.Ytapfbkjgmfmepab
open Go.RowKit
set_option linter.unusedVariables false
set_option maxRecDepth 100000

/-- numbers handed back by the model -/
def IntsPostY (w : World) (xs : List Int) (e : Ending) (w' : World) : Prop := ∃ A2 m c2, e = .returned (.slice A2 m c2) ∧ Own w' w.heap.size A2 m c2 xs ∧ Below w.heap.size w w'
theorem diffN_stepY (ls : List Ly) (a b k : Nat) : diffN ls a b (k + 1) = diffN ls a b k ++ (if readN ls k a = readN ls k b then [] else [((k : Nat) : Int)]) := rfl

set_option maxHeartbeats 6400000 in
theorem specDiff (A : Option Addr) (n c B : Nat) (qs : List Lq) (a b : Int) (w : World) (hr : LyI w B A n qs) (hB : B ≤ w.heap.size) (hs : ∀ q ∈ qs, q.ps.length ≤ 1000000000) (hn : n ≤ 1000000000) :
    Calls Try.prog 12 #[.slice A n c, .int .i64 a, .int .i64 b] w (IntsPostY w (dfL (lys qs) a b)) := by
  have hl := hr.1
  have hba := below_new w (.cells #[] 3)
  have HV := hide (specLays A n c B qs (w.alloc (.cells #[] 3)) (hr.alloc hB _) hs hn)
  have HO0 := hide (Own.lit0 w w.heap.size (Nat.le_refl _))
  rcases hv : laysV (lys qs) with _ | _
  · have HE := hide (show dfL (lys qs) a b = [] by unfold dfL dfV; rw [hv]; rfl)
    rw [hv] at HV
    clear hr hs hv
    go_enter Try.func12, Try.ntmps12
    go_wp2_with fail
    refine HV.out.mono ?_
    rintro e w2 ⟨rfl, z, rfl⟩
    go_wp2
    go_ret
    exact ⟨_, 0, 0, rfl, by rw [HE.out]; exact HO0.out.drewN z, below_drewN hba z⟩
  · rw [hv] at HV
    rcases h1 : inB a 0 n with _ | _
    · have HE := hide (show dfL (lys qs) a b = [] by unfold dfL dfV; rw [hv, lys_length, hl, h1]; rfl)
      have H1 := hide h1
      clear hr hs hv h1
      go_enter Try.func12, Try.ntmps12
      go_wp2_with fail
      refine HV.out.mono ?_
      rintro e w2 ⟨rfl, z, rfl⟩
      go_wp2_with fail
      refine (in_no _ _ _ _ H1.out).mono ?_
      rintro e w' ⟨rfl, rfl⟩
      go_wp2
      go_ret
      exact ⟨_, 0, 0, rfl, by rw [HE.out]; exact HO0.out.drewN z, below_drewN hba z⟩
    · rcases h2 : inB b 0 n with _ | _
      · have HE := hide (show dfL (lys qs) a b = [] by unfold dfL dfV; rw [hv, lys_length, hl, h1, h2]; rfl)
        have H1 := hide h1
        have H2 := hide h2
        clear hr hs hv h1 h2
        go_enter Try.func12, Try.ntmps12
        go_wp2_with fail
        refine HV.out.mono ?_
        rintro e w2 ⟨rfl, z, rfl⟩
        go_wp2_with fail
        refine (in_yes _ _ _ _ H1.out).mono ?_
        rintro e w' ⟨rfl, rfl⟩
        go_wp2_with fail
        refine (in_no _ _ _ _ H2.out).mono ?_
        rintro e w' ⟨rfl, rfl⟩
        go_wp2
        go_ret
        exact ⟨_, 0, 0, rfl, by rw [HE.out]; exact HO0.out.drewN z, below_drewN hba z⟩
      · have H1 := hide h1
        have H2 := hide h2
        obtain ⟨a0, a1⟩ := inB_iff.1 h1
        obtain ⟨b0, b1⟩ := inB_iff.1 h2
        obtain ⟨x, rfl⟩ : ∃ x : Nat, a = (x : Int) := ⟨a.toNat, by omega⟩
        obtain ⟨y, rfl⟩ : ∃ y : Nat, b = (y : Int) := ⟨b.toNat, by omega⟩
        have HE := hide (show dfL (lys qs) x y = diffN (lys qs) x y 12 by unfold dfL dfV; rw [hv, lys_length, hl, h1, h2]; rfl)
        have HVX := hide fun (W : World) (h : Below w.heap.size w W) (k : Nat) => specRd A n c B x qs (k : Int) W (hr.below h hB) hs hn (by omega)
        have HVY := hide fun (W : World) (h : Below w.heap.size w W) (k : Nat) => specRd A n c B y qs (k : Int) W (hr.below h hB) hs hn (by omega)
        clear hr hs hv h1 h2
        go_enter Try.func12, Try.ntmps12
        go_wp2_with fail
        refine HV.out.mono ?_
        rintro e w2 ⟨rfl, z, rfl⟩
        go_wp2_with fail
        refine (in_yes _ _ _ _ H1.out).mono ?_
        rintro e w' ⟨rfl, rfl⟩
        go_wp2_with fail
        refine (in_yes _ _ _ _ H2.out).mono ?_
        rintro e w' ⟨rfl, rfl⟩
        have HB2 := hide (below_drewN hba z)
        have HO2 := hide (HO0.out.drewN z)
        go_wp2
        go_loopw [7, 8] (fun o i wr => ∃ (k m c3 : Nat) (A3 : Option Addr), k ≤ 12 ∧ i = .int .i64 k ∧ o = .slice A3 m c3 ∧ m ≤ k ∧ Hid (Own wr w.heap.size A3 m c3 (diffN (lys qs) x y k)) ∧ Hid (Below w.heap.size w wr)) (fun _ i _ => 12 - (intOf i).toNat)
        case atStart => exact ⟨0, 0, 0, _, Nat.zero_le _, rfl, rfl, Nat.le_refl _, HO2.out, HB2.out⟩
        case round =>
          obtain ⟨k, m, c3, A3, hk, rfl, rfl, hmk, HO, HB⟩ := hrel
          have hsz := HB.out.size
          by_cases hlt : k < 12
          · have k0 : (0 : Int) ≤ (k : Int) := by omega
            have k1 : (k : Int) < 12 := by omega
            have HST := hide (diffN_stepY (lys qs) x y k)
            have HX := hide (HVX.out wr HB.out k)
            have HY := hide (HVY.out wr HB.out k)
            generalize readN (lys qs) k x = v1 at HX HST
            generalize readN (lys qs) k y = v2 at HY HST
            by_cases heq : v1 = v2
            · subst heq
              rw [if_pos rfl, List.append_nil] at HST
              go_wp2_with fail
              refine HX.out.mono ?_
              rintro e w' ⟨rfl, rfl⟩
              go_wp2_with fail
              refine HY.out.mono ?_
              rintro e w' ⟨rfl, rfl⟩
              go_wp2
              go_roundw
              case rel => exact ⟨k + 1, m, c3, A3, by omega, by go_num, rfl, by omega, by rw [HST.out]; exact HO.out, HB.out⟩
              case measure => simp [intOf]; omega
            · rw [if_neg heq] at HST
              have hne : (v1 != v2) = true := by simpa using heq
              go_wp2_with fail
              refine HX.out.mono ?_
              rintro e w' ⟨rfl, rfl⟩
              go_wp2_with fail
              refine HY.out.mono ?_
              rintro e w' ⟨rfl, rfl⟩
              go_wp2_with (at_builtin; refine wpList_append_ints rfl (.tmp 41) (.tmp 43) rfl w.heap.size m c3 _ 1 _ A3 _ (diffN (lys qs) x y k) [(k : Int)] rfl (HO.out.alloc _) rfl (Ints.one _ _) (by omega) (by simp; omega) ?_; intro A8 c8 w8 ho8 hg8 hat8; clear hat8)
              have HO8 := hide ho8
              have HB8 := hide ((HB.out.alloc hsz _).grown hg8 (by simp; omega) fun g hg => (HO.out.block g hg).1)
              clear ho8 hg8
              go_wp2
              go_roundw
              case rel => exact ⟨k + 1, m + 1, c8, A8, by omega, by go_num, rfl, by omega, by rw [HST.out]; exact HO8.out, HB8.out⟩
              case measure => simp [intOf]; omega
          · obtain rfl : k = 12 := by omega
            go_wp2
            go_ret
            exact ⟨A3, m, c3, rfl, by rw [HE.out]; exact HO.out, HB.out⟩
end Go.Proofs.Ytapfbkjgmfmepab
