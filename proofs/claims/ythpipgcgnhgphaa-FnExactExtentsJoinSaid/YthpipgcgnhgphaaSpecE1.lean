/-
  The model's ExtentsValid, l5Marks.
-/
import Derived.Test.YthpipgcgnhgphaaMk
import Derived.Test.YthpipgcgnhgphaaQo
namespace Go.Proofs.Ythpipgcgnhgphaa
open Go.RowKit
set_option linter.unusedVariables false
set_option maxRecDepth 100000

theorem quiet_in {P : Program} {f : FuncId} {args : Array Value} {W : World} {j : Nat} {r : Value} (c : Calls P f args (W.drewN j) fun e U => e = .returned r ∧ W.drewN j = U) :
    Calls P f args (W.drewN j) fun e U => e = .returned r ∧ ∃ z, U = W.drewN z := c.mono fun _ _ ⟨he, hz⟩ => ⟨he, j, hz.symm⟩
theorem vE_step {es : Exs} {k : Nat} {e : Int × Int} (h : es[k]? = some e) (nx : Int) : vE nx (es.drop k) = (inB e.1 nx 11 && inB e.2 1 (12 - e.1) && vE (e.1 + e.2 + 1) (es.drop (k + 1))) := by
  have hl : k < es.length := (List.getElem?_eq_some_iff.1 h).1
  have e2 : es[k] = e := (List.getElem?_eq_some_iff.1 h).2
  rw [List.drop_eq_getElem_cons hl, e2]
  rfl

set_option maxHeartbeats 3200000 in
theorem specEV (A : Option Addr) (n c B : Nat) (es : Exs) (w : World) (hr : ExI w B A n es) (hn : n ≤ 1000000000000) :
    Calls Try.prog 9 #[.slice A n c] w fun e w' => e = .returned (.bool (exV es)) ∧ ∃ z, w' = w.drewN z := by
  have HR := hide hr
  clear hr
  go_enter Try.func9, Try.ntmps9
  go_wp2
  go_loopw [3, 4] (fun l i wr => ∃ (k z : Nat) (nx : Int), k ≤ n ∧ i = .int .i64 k ∧ l = .int .i64 nx ∧ 0 ≤ nx ∧ nx ≤ 13 ∧ wr = w.drewN z ∧ Hid (exV es = vE nx (es.drop k))) (fun _ i _ => n - (intOf i).toNat)
  case atStart => exact ⟨0, 0, 0, Nat.zero_le _, rfl, rfl, by omega, by omega, rfl, rfl⟩
  case round =>
    obtain ⟨k, z, nx, hk, rfl, rfl, hx0, hx1, rfl, HA⟩ := hrel
    by_cases hlt : k < n
    · obtain ⟨e, he⟩ : ∃ e, es[k]? = some e := ⟨_, List.getElem?_eq_getElem (by rw [HR.out.1]; exact hlt)⟩
      have HX := hide (HA.out.trans (vE_step he nx))
      obtain ⟨ad, p, rfl, hp, hb, hc0, hc1⟩ := (HR.out.drewN z).at_ he
      clear HA he
      obtain ⟨f, m⟩ := e
      simp only at hc0 hc1 HX
      have k0 : (0 : Int) ≤ (k : Int) := by omega
      have k1 : (k : Int) < (n : Int) := by omega
      generalize hw : w.drewN z = wz at hc0 hc1 ⊢
      rcases h1 : inB f nx 11 with _ | _
      · have H1 := hide h1
        clear h1
        go_wp2_with fail
        go_quiet ((go_at_call 27; exact quiet_in (in_no _ _ _ _ H1.out)))
        go_wp2
        go_ret
        exact ⟨ret_bool (by rw [HX.out, H1.out]; rfl), by rw [← hw]; first | exact ⟨_, World.drewN_drewN _ _ _⟩ | exact ⟨_, rfl⟩⟩
      · obtain ⟨f0, f1⟩ := inB_iff.1 h1
        have H1 := hide h1
        have w12 : IntKind.i64.wrap (12 - f) = 12 - f := IntWalk.i64_in _ (by omega)
        clear h1
        rcases h2 : inB m 1 (12 - f) with _ | _
        · have H2 := hide h2
          clear h2
          go_wp2_with fail
          go_quiet ((first
            | (go_at_call 27; exact quiet_in (in_yes _ _ _ _ H1.out))
            | (go_at_call 27; exact quiet_in (in_no _ _ _ _ H2.out))))
          go_wp2
          go_ret
          exact ⟨ret_bool (by rw [HX.out, H1.out, H2.out]; rfl), by rw [← hw]; first | exact ⟨_, World.drewN_drewN _ _ _⟩ | exact ⟨_, rfl⟩⟩
        · obtain ⟨m0, m1⟩ := inB_iff.1 h2
          have H2 := hide h2
          have w13 : IntKind.i64.wrap (f + m) = f + m := IntWalk.i64_in _ (by omega)
          have w14 : IntKind.i64.wrap (f + m + 1) = f + m + 1 := IntWalk.i64_in _ (by omega)
          clear h2
          go_wp2_with fail
          go_quiet ((first
            | (go_at_call 27; exact quiet_in (in_yes _ _ _ _ H1.out))
            | (go_at_call 27; exact quiet_in (in_yes _ _ _ _ H2.out))))
          go_wp2_with fail
          go_quiet (fail)
          go_wp2
          go_roundw
          case rel => exact ⟨k + 1, _, f + m + 1, by omega, by go_num, by go_num, by omega, by omega, (by rw [← hw]; first | exact World.drewN_drewN _ _ _ | exact (World.drewN_drewN _ _ _).trans (World.drewN_drewN _ _ _) | rfl), by show _ = _; rw [HX.out, H1.out, H2.out]; rfl⟩
          case measure => simp [intOf]; omega
    · obtain rfl : k = n := by omega
      have HD := hide (show exV es = true by rw [HA.out, List.drop_of_length_le (by rw [HR.out.1]; exact Nat.le_refl _)]; rfl)
      go_wp2
      go_ret
      exact ⟨ret_bool HD.out.symm, z, rfl⟩
end Go.Proofs.Ythpipgcgnhgphaa
