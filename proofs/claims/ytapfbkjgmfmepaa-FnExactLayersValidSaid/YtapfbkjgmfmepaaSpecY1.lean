/-
  The model's l14Layer, LayersValid.
-/
import Derived.Test.YtapfbkjgmfmepaaLy
import Derived.Test.YtapfbkjgmfmepaaQo
namespace Go.Proofs.Ytapfbkjgmfmepaa
open Go.RowKit
set_option linter.unusedVariables false
set_option maxRecDepth 100000

theorem quiet_inY {P : Program} {f : FuncId} {args : Array Value} {W : World} {j : Nat} {r : Value} (c : Calls P f args (W.drewN j) fun e U => e = .returned r ∧ W.drewN j = U) :
    Calls P f args (W.drewN j) fun e U => e = .returned r ∧ ∃ z, U = W.drewN z := c.mono fun _ _ ⟨he, hz⟩ => ⟨he, j, hz.symm⟩
theorem prevL_succ {ps : Ly} {k : Nat} {e : Int × Int} (he : ps[k]? = some e) (l : Int) : prevL l ps (k + 1) = e.1 := by
  show (ps.getD k (0, 0)).1 = e.1
  simp [List.getD, he]

set_option maxHeartbeats 6400000 in
theorem specLay (A : Option Addr) (n c B : Nat) (ps : Ly) (w : World) (hr : PrI w B A n ps) (hn : n ≤ 1000000000) :
    Calls Try.prog 55 #[.slice A n c] w fun e w' => e = .returned (.bool (layV ps)) ∧ ∃ z, w' = w.drewN z := by
  have hl := hr.1
  have HR := hide hr
  clear hr
  go_enter Try.func55, Try.ntmps55
  go_wp2
  go_loopw [3] (fun i wr => ∃ (k z : Nat), k ≤ n ∧ i = .int .i64 k ∧ wr = w.drewN z ∧ Hid (layV ps = lyV (prevL (-1) ps k) (ps.drop k))) (fun i _ => n - (intOf i).toNat)
  case atStart => exact ⟨0, 0, Nat.zero_le _, rfl, rfl, rfl⟩
  case round =>
    obtain ⟨k, z, hk, rfl, rfl, HA⟩ := hrel
    by_cases hlt : k < n
    · obtain ⟨e, he⟩ : ∃ e, ps[k]? = some e := ⟨_, List.getElem?_eq_getElem (by omega)⟩
      have HX := hide (HA.out.trans (lyV_step he))
      have HP := hide (prevL_succ he (-1))
      obtain ⟨ad, p, rfl, hp, hb, hc0, hc1⟩ := (HR.out.drewN z).at_ he
      obtain ⟨f, m⟩ := e
      simp only at hc0 hc1 HX HP
      have k0 : (0 : Int) ≤ (k : Int) := by omega
      have k1 : (k : Int) < (n : Int) := by omega
      rcases h1 : inB f 0 11 with _ | _
      · have H1 := hide h1
        clear h1 HA he
        generalize hw : w.drewN z = wz at hc0 hc1 ⊢
        go_wp2_with fail
        go_quiet ((go_at_call 49; exact quiet_inY (in_no _ _ _ _ H1.out)))
        go_wp2
        go_ret
        exact ⟨ret_bool (by rw [HX.out, H1.out]; rfl), by rw [← hw]; first | exact ⟨_, World.drewN_drewN _ _ _⟩ | exact ⟨_, rfl⟩⟩
      · obtain ⟨f0, f1⟩ := inB_iff.1 h1
        have H1 := hide h1
        clear h1
        rcases h2 : inB m 0 99 with _ | _
        · have H2 := hide h2
          clear h2 HA he
          generalize hw : w.drewN z = wz at hc0 hc1 ⊢
          go_wp2_with fail
          go_quiet ((first
            | (go_at_call 49; exact quiet_inY (in_yes _ _ _ _ H1.out))
            | (go_at_call 49; exact quiet_inY (in_no _ _ _ _ H2.out))))
          go_wp2
          go_ret
          exact ⟨ret_bool (by rw [HX.out, H1.out, H2.out]; rfl), by rw [← hw]; first | exact ⟨_, World.drewN_drewN _ _ _⟩ | exact ⟨_, rfl⟩⟩
        · have H2 := hide h2
          clear h2
          rcases k with _ | j
          · have HX2 := hide (show layV ps = lyV (prevL (-1) ps 1) (ps.drop 1) by
              rw [HX.out, H1.out, H2.out, HP.out, decide_eq_true (show prevL (-1) ps 0 < f by show (-1 : Int) < f; omega)]; rfl)
            clear HA he
            generalize hw : w.drewN z = wz at hc0 hc1 ⊢
            go_wp2_with fail
            go_quiet ((first
              | (go_at_call 49; exact quiet_inY (in_yes _ _ _ _ H1.out))
              | (go_at_call 49; exact quiet_inY (in_yes _ _ _ _ H2.out))))
            go_wp2
            go_roundw
            case rel => exact ⟨1, _, by omega, by go_num, by rw [← hw]; first | exact World.drewN_drewN _ _ _ | rfl, HX2.out⟩
            case measure => simp [intOf]; omega
          · obtain ⟨d, hd⟩ : ∃ d, ps[j]? = some d := ⟨_, List.getElem?_eq_getElem (by omega)⟩
            have hpl := prevL_succ hd (-1)
            obtain ⟨ad', p', had, hp', hb', hd0, hd1⟩ := (HR.out.drewN z).at_ hd
            injection had with had
            subst had
            obtain ⟨f', m'⟩ := d
            simp only at hd0 hd1 hpl
            have j0 : (0 : Int) ≤ (j : Int) := by omega
            have j1 : (j : Int) < (n : Int) := by omega
            have j2 : IntKind.i64.wrap (((j + 1 : Nat) : Int) - 1) = (j : Int) := by rw [show ((j + 1 : Nat) : Int) - 1 = (j : Int) by omega]; exact IntWalk.i64_in _ (by omega)
            have j3 : (0 : Int) < ((j + 1 : Nat) : Int) := by omega
            have HX2 := hide (show layV ps = (decide (f' < f) && lyV (prevL (-1) ps (j + 1 + 1)) (ps.drop (j + 1 + 1))) by
              rw [HX.out, H1.out, H2.out, HP.out, hpl]; rfl)
            by_cases hlt2 : f' < f
            · rw [decide_eq_true hlt2, Bool.true_and] at HX2
              clear HA he hd hpl
              generalize hw : w.drewN z = wz at hc0 hc1 hd0 hd1 ⊢
              go_wp2_with fail
              go_quiet ((first
                | (go_at_call 49; exact quiet_inY (in_yes _ _ _ _ H1.out))
                | (go_at_call 49; exact quiet_inY (in_yes _ _ _ _ H2.out))))
              go_wp2
              go_roundw
              case rel => exact ⟨j + 1 + 1, _, by omega, by go_num, by rw [← hw]; first | exact World.drewN_drewN _ _ _ | rfl, HX2.out⟩
              case measure => simp [intOf]; omega
            · rw [decide_eq_false hlt2, Bool.false_and] at HX2
              clear HA he hd hpl
              generalize hw : w.drewN z = wz at hc0 hc1 hd0 hd1 ⊢
              go_wp2_with fail
              go_quiet ((first
                | (go_at_call 49; exact quiet_inY (in_yes _ _ _ _ H1.out))
                | (go_at_call 49; exact quiet_inY (in_yes _ _ _ _ H2.out))))
              go_wp2
              go_ret
              exact ⟨ret_bool HX2.out.symm, by rw [← hw]; first | exact ⟨_, World.drewN_drewN _ _ _⟩ | exact ⟨_, rfl⟩⟩
    · obtain rfl : k = n := by omega
      go_wp2
      go_ret
      refine ⟨ret_bool ?_, _, rfl⟩
      rw [HA.out, List.drop_of_length_le (by omega)]
      rfl
end Go.Proofs.Ytapfbkjgmfmepaa
