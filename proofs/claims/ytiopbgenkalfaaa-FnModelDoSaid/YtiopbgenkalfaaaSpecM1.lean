/-
  The model's l11Where, MapValid.
-/
import Derived.Test.YtiopbgenkalfaaaMapM
import Derived.Test.YtiopbgenkalfaaaMapI
namespace Go.Proofs.Ytiopbgenkalfaaa
open Go.RowKit
set_option linter.unusedVariables false
set_option maxRecDepth 100000



set_option maxHeartbeats 3200000 in
theorem where_any (t z a i x : Int) (w : World) :
    Calls Try.prog 81 #[.agg #[.int .i64 t, .int .i64 z, .int .i64 a, .int .i64 i, .int .i64 x]] w fun e w' => e = .returned (.bool (whV (t, z, a, i, x))) ∧ Below w.heap.size w w' := by
  by_cases t0 : t = 0
  · subst t0
    have HV := hide (show whV (0, z, a, i, x) = decide ((0, z, a, i, x) = wh0) from rfl)
    go_enter Try.func81, Try.ntmps81
    go_wp2
    all_goals
      go_ret
      exact ⟨ret_bool (by rw [HV.out]; simp_all [wh0]), below_new w _⟩
  by_cases t1 : t = 1
  · subst t1
    have HV := hide (show whV (1, z, a, i, x) = (inB z 0 3 && (inB a 0 63 && (decide (i = 0) && decide (x = 0)))) from rfl)
    clear t0
    rcases h1 : inB z 0 3 with _ | _
    · have H1 := hide h1
      clear h1
      go_enter Try.func81, Try.ntmps81
      go_wp2_with fail
      refine (in_no _ _ _ _ H1.out).mono ?_
      rintro e w' ⟨rfl, rfl⟩
      go_wp2
      go_ret
      exact ⟨ret_bool (by rw [HV.out, H1.out]; rfl), below_new w _⟩
    · have H1 := hide h1
      clear h1
      rcases h2 : inB a 0 63 with _ | _
      · have H2 := hide h2
        clear h2
        go_enter Try.func81, Try.ntmps81
        go_wp2_with fail
        refine (in_yes _ _ _ _ H1.out).mono ?_
        rintro e w' ⟨rfl, rfl⟩
        go_wp2_with fail
        refine (in_no _ _ _ _ H2.out).mono ?_
        rintro e w' ⟨rfl, rfl⟩
        go_wp2
        go_ret
        exact ⟨ret_bool (by rw [HV.out, H1.out, H2.out]; rfl), below_new w _⟩
      · have H2 := hide h2
        clear h2
        go_enter Try.func81, Try.ntmps81
        go_wp2_with fail
        refine (in_yes _ _ _ _ H1.out).mono ?_
        rintro e w' ⟨rfl, rfl⟩
        go_wp2_with fail
        refine (in_yes _ _ _ _ H2.out).mono ?_
        rintro e w' ⟨rfl, rfl⟩
        go_wp2
        all_goals
          go_ret
          exact ⟨ret_bool (by rw [HV.out, H1.out, H2.out]; by_cases hi : i = 0 <;> by_cases hx : x = 0 <;> simp_all), below_new w _⟩
  by_cases t2 : t = 2
  · subst t2
    have HV := hide (show whV (2, z, a, i, x) = (inB z 0 3 && (inB a 0 63 && (inB i 1 999 && inB x 0 5))) from rfl)
    clear t0 t1
    rcases h1 : inB z 0 3 with _ | _
    · have H1 := hide h1
      clear h1
      go_enter Try.func81, Try.ntmps81
      go_wp2_with fail
      refine (in_no _ _ _ _ H1.out).mono ?_
      rintro e w' ⟨rfl, rfl⟩
      go_wp2
      go_ret
      exact ⟨ret_bool (by rw [HV.out, H1.out]; rfl), below_new w _⟩
    have H1 := hide h1
    clear h1
    rcases h2 : inB a 0 63 with _ | _
    · have H2 := hide h2
      clear h2
      go_enter Try.func81, Try.ntmps81
      go_wp2_with fail
      refine (in_yes _ _ _ _ H1.out).mono ?_
      rintro e w' ⟨rfl, rfl⟩
      go_wp2_with fail
      refine (in_no _ _ _ _ H2.out).mono ?_
      rintro e w' ⟨rfl, rfl⟩
      go_wp2
      go_ret
      exact ⟨ret_bool (by rw [HV.out, H1.out, H2.out]; rfl), below_new w _⟩
    have H2 := hide h2
    clear h2
    rcases h3 : inB i 1 999 with _ | _
    · have H3 := hide h3
      clear h3
      go_enter Try.func81, Try.ntmps81
      go_wp2_with fail
      refine (in_yes _ _ _ _ H1.out).mono ?_
      rintro e w' ⟨rfl, rfl⟩
      go_wp2_with fail
      refine (in_yes _ _ _ _ H2.out).mono ?_
      rintro e w' ⟨rfl, rfl⟩
      go_wp2_with fail
      refine (in_no _ _ _ _ H3.out).mono ?_
      rintro e w' ⟨rfl, rfl⟩
      go_wp2
      go_ret
      exact ⟨ret_bool (by rw [HV.out, H1.out, H2.out, H3.out]; rfl), below_new w _⟩
    have H3 := hide h3
    clear h3
    go_enter Try.func81, Try.ntmps81
    go_wp2_with fail
    refine (in_yes _ _ _ _ H1.out).mono ?_
    rintro e w' ⟨rfl, rfl⟩
    go_wp2_with fail
    refine (in_yes _ _ _ _ H2.out).mono ?_
    rintro e w' ⟨rfl, rfl⟩
    go_wp2_with fail
    refine (in_yes _ _ _ _ H3.out).mono ?_
    rintro e w' ⟨rfl, rfl⟩
    go_wp2_with fail
    refine (in_any _ _ _ _).mono ?_
    rintro e w' ⟨rfl, rfl⟩
    go_wp2
    go_ret
    exact ⟨ret_bool (by rw [HV.out, H1.out, H2.out, H3.out]; simp), below_new w _⟩
  · have HV := hide (show whV (t, z, a, i, x) = false by unfold whV; rw [if_neg t0, if_neg t1, if_neg t2])
    have g0 : (t == 0) = false := by simpa using t0
    have g1 : (t == 1) = false := by simpa using t1
    have g2 : (t == 2) = false := by simpa using t2
    go_enter Try.func81, Try.ntmps81
    go_wp2
    go_ret
    exact ⟨ret_bool HV.out.symm, below_new w _⟩
end Go.Proofs.Ytiopbgenkalfaaa
