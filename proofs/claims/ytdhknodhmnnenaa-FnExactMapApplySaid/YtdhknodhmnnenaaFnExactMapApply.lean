/-
  Proved here: the law FnExactMapApply answers true for every input that can be read, and turns nothing that was there (Rows.FnExactMapApplySaid).
  Conditions: none of its own; the arguments (a slice of elements of a map, a frame, an integer, an integer) are whatever the statement's row lets in.
-/
import Derived.Test.YtdhknodhmnnenaaRows
import Derived.Test.YtdhknodhmnnenaaFrame0
import Derived.Test.YtdhknodhmnnenaaReadE
import Derived.Test.YtdhknodhmnnenaaExMApply
import Derived.ProofKit
import Derived.OpenShut
import Derived.ShutString
import Derived.ChangeOld
import Derived.Below
import Derived.Lib.SmallJoins
namespace Go.Proofs.Ytdhknodhmnnenaa.fnExactMapApply
open Go.ChangeShapes Go.WideShapes Go.ChangeAt Go.RowKit
set_option linter.unusedVariables false
set_option maxRecDepth 100000

set_option maxRecDepth 100000 in
theorem lifted (os : Os) (started : os.Started) (H : Type) (enc : TypeId × Value → H) :
    ReturnsInHanded {} Try.checked os 4 .any (Rows.fnExactMapApplySpec.pre6 enc Try.prog Try.f4 Rows.fnExactMapApplyRow.domain false) (Rows.fnExactMapApplySpec.post enc Try.prog Try.f4 false true false false) := by
  refine returnsInHanded_of_change (C := Try.checked) own started (by kernel_rfl) Try.func4
    (ChangeSpec.witness6 (enc := enc) (C := Try.checked) false ⟨#[], #[.slice none 0 0, .agg #[.int .i64 0, .int .i64 0, .slice none 0 0], .int .i64 0, .int .i64 0], []⟩ 8 (by kernel_rfl) (by kernel_rfl) (by kernel_rfl) (by kernel_rfl)) ?_
  intro W base args ds gs before hval0 hW hcnd _
  have hval : ∀ (j : Nat) t v, Try.f4.params[j]? = some t → args[j]? = some v → Value.okWide Try.prog W .any base t v := hval0
  have hW' := hW
  obtain ⟨p, q, hA0, hV, rfl, hfz, hnd⟩ := hW
  have hA : DataW.TrodAll enc Try.prog W 0 (fun _ => true) true Try.f4.params.toList args.toList ds p := hA0
  rw [Try.params4] at hA hval
  obtain ⟨v0, vs0, d0, ds0, p0, q0, hargs, rfl, rfl, h0, r0⟩ := trodAll_cons hA
  obtain ⟨v1, vs1, d1, ds1, p1, q1, rfl, rfl, rfl, h1, r1⟩ := trodAll_cons r0
  obtain ⟨v2, vs2, d2, ds2, p2, q2, rfl, rfl, rfl, h2, r2⟩ := trodAll_cons r1
  obtain ⟨v3, vs3, d3, ds3, p3, q3, rfl, rfl, rfl, h3, r3⟩ := trodAll_cons r2
  obtain ⟨rfl, rfl, rfl⟩ := trodAll_nil r3
  obtain rfl : args = #[v0, v1, v2, v3] := by cases args; simp_all
  obtain ⟨rfl, rfl⟩ := trodVars_none hV
  obtain ⟨a0, len0, cap0, rfl⟩ := okWide_slice Try.underlying22 (hval 0 22 v0 rfl rfl)
  have k0 := h0
  have lt0 : ∀ x ∈ p0, x.block < W.heap.size := by obtain ⟨m, hm⟩ := k0; exact DataW.trod_lt m _ _ _ hm
  obtain ⟨z0, w0⟩ : ∃ xs, Ints W W.heap.size a0 (len0 * 5) xs ∧ len0 ≤ cap0 ∧ cap0 ≤ maxLen ∧ Rng (-9223372036854775808) 9223372036854775807 xs := by
    obtain ⟨fuel, hf⟩ := h0
    obtain ⟨A, l, c, xs, hcs, hx⟩ := open_recsR (s := 5) Try.underlying22 Try.underlying50 (by kernel_rfl) (by kernel_rfl) rfl (by omega) (fun j f hj => by
      rcases j with _ | _ | _ | _ | _ | _
      · cases hj; exact Try.underlying3
      · cases hj; exact Try.underlying3
      · cases hj; exact Try.underlying3
      · cases hj; exact Try.underlying3
      · cases hj; exact Try.underlying3
      · simp at hj) hf
    simp only [Value.cells, List.cons.injEq, and_true, Value.slice.injEq] at hcs
    obtain ⟨rfl, rfl, rfl⟩ := hcs
    exact ⟨xs, hx⟩
  have k1 := h1
  have lt1 : ∀ x ∈ p1, x.block < W.heap.size := by obtain ⟨m, hm⟩ := k1; exact DataW.trod_lt m _ _ _ hm
  obtain ⟨ka1, sa1, a1, len1, cap1, z1, rfl, w1⟩ : ∃ K S A n c xs, v1 = .agg #[.int .i64 K, .int .i64 S, .slice A n c] ∧ Ints W W.heap.size A n xs ∧ n ≤ c ∧ c ≤ maxLen := by
    obtain ⟨u0, u1, u2, y0, y1, y2, nf, e, _, _, g0, g1, g2⟩ := Go.Joins.open_agg3 Try.underlying31 (by kernel_rfl) (by kernel_rfl) (hval 1 31 v1 rfl rfl) h1
    obtain ⟨K, e0, _, _⟩ := DataW.trod_int Try.underlying3 g0
    obtain ⟨S, e1, _, _⟩ := DataW.trod_int Try.underlying3 g1
    simp only [List.cons.injEq, and_true] at e0 e1
    subst e0 e1
    rcases open_ints Try.underlying29 Try.underlying3 (by kernel_rfl) g2 with ⟨hcs, _⟩ | ⟨x, l, c, zs, hcs, _, hl, hm, hz, _, hcell, hwz⟩
    · simp only [List.cons.injEq, and_true] at hcs
      subst hcs
      exact ⟨K, S, none, 0, 0, [], e, Ints.nil_ _ _ _, Nat.le_refl _, Nat.zero_le _⟩
    · simp only [List.cons.injEq, and_true] at hcs
      subst hcs
      have hz' : zs.length = c := by simpa using hz
      exact ⟨K, S, some x, l, c, zs.take l, e, ints_of hl hz' hcell, hl, hm⟩
  obtain ⟨x2, rfl, rfl, rfl, w2⟩ := open_int Try.underlying3 (hval 2 3 v2 rfl rfl) h2
  obtain ⟨x3, rfl, rfl, rfl, w3⟩ := open_int Try.underlying3 (hval 3 3 v3 rfl rfl) h3
  clear hA0 hval0
  refine (exactMApply_walk a0 len0 cap0 z0 ka1 sa1 a1 len1 cap1 z1 x2 x3 W w0.1 w0.2.1 w0.2.2.1 w0.2.2.2 w1.1 w1.2.1 w1.2.2 (wf_lo w2) (wf_hi w2) (wf_lo w3) (wf_hi w3)).mono fun e W' ⟨he, bel⟩ => ?_
  subst he
  exact ⟨_, rfl, _, _, _, [], _, [], hW', trodAll_mk1 (shut_bool Try.underlying4 _), (trodAll_cons_mk (Below.trod laidOut (by kernel_rfl) (of_decide_eq_true (by kernel_rfl)) k0 bel lt0) (trodAll_cons_mk (Below.trod laidOut (by kernel_rfl) (of_decide_eq_true (by kernel_rfl)) k1 bel lt1) (trodAll_cons_mk (shut_int Try.underlying3 w2) (trodAll_cons_mk (shut_int Try.underlying3 w3) trodAll_mk0)))), rfl, bel.frame _, fun h => by cases h⟩

theorem over : Rows.fnExactMapApplyRow.holds Try.pinned (OpenSpec.ofChange Rows.fnExactMapApplySpec) :=
  OpenClaim.holds_of_wide 4 Try.f4 rfl rfl rfl rfl rfl rfl rfl ⟨rfl, rfl, rfl, rfl, rfl⟩ rfl rfl rfl rfl rfl (by kernel_rfl) Try.func4 (by kernel_rfl)
    (of_decide_eq_true (by kernel_rfl)) (by unfold Func.isWrapper; first | (rw [if_pos (by decide +kernel)]; kernel_rfl) | (rw [if_neg (by decide +kernel)]; exact ⟨rfl, rfl⟩))
    (fun os started H enc _ => lifted os started H enc)

theorem proved : Rows.FnExactMapApplySaid := over
end Go.Proofs.Ytdhknodhmnnenaa.fnExactMapApply
