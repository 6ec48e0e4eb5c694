/-
  The model's LayersRead.
-/
import Derived.Test.YtapfbkjgmfmepaaSpecY2
namespace Go.Proofs.Ytapfbkjgmfmepaa
open Go.RowKit
set_option linter.unusedVariables false
set_option maxRecDepth 100000

set_option maxHeartbeats 3200000 in
theorem specRead (A : Option Addr) (n c B : Nat) (qs : List Lq) (b : Int) (w : World) (hr : LyI w B A n qs) (hs : ∀ q ∈ qs, q.ps.length ≤ 1000000000) (hn : n ≤ 1000000000) :
    Calls Try.prog 17 #[.slice A n c, .int .i64 b] w fun e w' => e = .returned (.int .i64 (rdL (lys qs) b)) ∧ ∃ z, w' = w.drewN z := by
  have hl := hr.1
  have HV := hide (specLays A n c B qs w hr hs hn)
  have HRD := hide fun (z : Nat) => specRd A n c B n qs b (w.drewN z) (hr.drewN z) hs hn (Nat.le_refl _)
  have HE := hide (show rdL (lys qs) b = if laysV (lys qs) && inB b 0 11 then readN (lys qs) b n else -1 by unfold rdL; rw [lys_length, hl])
  clear hr hs
  generalize laysV (lys qs) = v at HV HE
  generalize readN (lys qs) b n = r at HRD HE
  rcases v with _ | _
  · go_enter Try.func17, Try.ntmps17
    go_wp2_with fail
    refine HV.out.mono ?_
    rintro e w2 ⟨rfl, z, rfl⟩
    go_wp2
    go_ret
    exact ⟨ret_int HE.out.symm, z, rfl⟩
  · rcases h1 : inB b 0 11 with _ | _
    · rw [h1] at HE
      have H1 := hide h1
      clear h1
      go_enter Try.func17, Try.ntmps17
      go_wp2_with fail
      refine HV.out.mono ?_
      rintro e w2 ⟨rfl, z, rfl⟩
      go_wp2_with fail
      refine (in_no _ _ _ _ H1.out).mono ?_
      rintro e w' ⟨rfl, rfl⟩
      go_wp2
      go_ret
      exact ⟨ret_int HE.out.symm, z, rfl⟩
    · rw [h1] at HE
      have H1 := hide h1
      clear h1
      go_enter Try.func17, Try.ntmps17
      go_wp2_with fail
      refine HV.out.mono ?_
      rintro e w2 ⟨rfl, z, rfl⟩
      go_wp2_with fail
      refine (in_yes _ _ _ _ H1.out).mono ?_
      rintro e w' ⟨rfl, rfl⟩
      go_wp2_with fail
      refine (HRD.out z).mono ?_
      rintro e w' ⟨rfl, rfl⟩
      go_wp2
      go_ret
      exact ⟨ret_int HE.out.symm, z, rfl⟩
end Go.Proofs.Ytapfbkjgmfmepaa
