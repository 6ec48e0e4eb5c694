/-
  The program's join of a chain.
-/
import Derived.Test.YthpipgcgnhgphaaImpE1
namespace Go.Proofs.Ythpipgcgnhgphaa
open Go.RowKit
set_option linter.unusedVariables false
set_option maxRecDepth 100000

/-- behind a change of a chain -/
def ChnPost (w : World) (base c : Nat) (es : Exs) (x : Ending) (w' : World) : Prop := x = .returned (.tuple #[]) ∧ ∃ ns, Chn w' base c ns ∧ exs ns = es ∧ Below base w w'

set_option maxHeartbeats 1600000 in
theorem join_any (base c : Nat) (ns : Nds) (f e : Int) (w : World) (h : Chn w base c ns) (hv : exV (exs ns) = true) (h0 : 0 ≤ f) (h1 : f < e) (h2 : e ≤ 12) :
    Calls Try.prog 33 #[.pointer (some ⟨c, 0, none⟩), .int .i64 f, .int .i64 e] w (ChnPost w base c (R fun i => inE (exs ns) i || sg f e i)) := by
  have HC := hide h
  have HV := hide hv
  have HP := hide (place_any base c ns f w h h0)
  clear h hv
  go_enter Try.func33, Try.ntmps33
  go_wp2_with (go_at_call 39; refine HP.out.mono ?_; rintro x w1 ⟨pre, rest, rfl, hns, hplc, rfl⟩; have HJ := hide (JnI.start hplc HV.out h0 h1 h2); have HC1 := hide (hns ▸ HC.out); have r1 := HC1.out.read; clear hplc HP; obtain ⟨q, HQ⟩ : ∃ q, Hid (pt rest none = q) := ⟨_, rfl⟩; rw [HQ.out] at r1; obtain ⟨p, HPL⟩ : ∃ p, Hid (plc c pre = p) := ⟨_, rfl⟩; rw [HPL.out] at r1 ⊢; have HNS := hide hns; clear hns)
  have HW := hide (Below.refl base w1)
  go_loopg [1, 2, 7] rest.length (fun k f' e' o wr => ∃ (rs : Nds) (F E : Int) (q : Option Addr), o = .pointer q ∧ f' = .int .i64 F ∧ e' = .int .i64 E ∧ Hid (pt rs none = q) ∧ Hid (rs.length = k) ∧ Hid (Chn wr base c (pre ++ rs)) ∧ Hid (JnI (exs ns) f e (exs pre) (exs rs) F E) ∧ Hid (Below base w1 wr))
  case atStart => exact ⟨rest, f, e, q, rfl, rfl, rfl, HQ, rfl, HC1, HJ, HW⟩
  case round =>
    obtain ⟨rs, F, E, q', rfl, rfl, rfl, HQ', HL, HC2, HJ2, HB⟩ := hrel
    clear HQ HJ HC1 HC
    have hsz := HC2.out.plc_ge
    have hs0 := HC2.out.cb
    rcases rs with _ | ⟨n, r⟩
    · have e1 := HQ'.out
      rw [pt] at e1
      subst e1
      have HK := hide (putLink_yes base c pre [] F E wr HC2.out HJ2.out.lt)
      rw [HPL.out] at HK
      have HD := hide (HJ2.out.done HV.out h0 h2 (fun x hx => by cases hx))
      go_wp2_with (go_at_call 40; refine HK.out.mono ?_; rintro x w2 ⟨g, rfl, hc2, hg2, hs2⟩; have HC3 := hide hc2; have HB2 := hide (HB.out.grown hg2 (by omega) (fun k hk => by injection hk with hk; rw [HPL.out] at hsz; omega)); clear hc2 hg2)
      exact bodyPost_end (results_none Try.results33 _ _ _) rfl ⟨rfl, _, HC3.out, by rw [exs_append, exs_append, List.append_assoc]; exact HD.out, HB2.out⟩
    · obtain ⟨g, a, m⟩ := n
      have e1 := HQ'.out
      rw [pt] at e1
      simp only at e1
      subst e1
      have hn := HC2.out.node.2
      have c0 := hn.cell 0
      have c1 := hn.cell 1
      have c2 := hn.cell 2
      simp only at c0 c1 c2
      by_cases hle : a ≤ E
      · have HJ3 := hide (HJ2.out.step hle)
        have HC3 := hide fun z => (HC2.out.drewN z).drop
        rw [HPL.out] at HC3
        obtain ⟨q2, HQ2⟩ : ∃ q, Hid (pt r none = q) := ⟨_, rfl⟩
        rw [HQ2.out] at c2
        clear hn
        go_wp2_with fail
        go_quiet (fail)
        obtain ⟨F2, HF2⟩ : ∃ F2, Hid ((if a < F then a else F) = F2) := ⟨_, rfl⟩
        obtain ⟨E2, HE2⟩ : ∃ E2, Hid ((if E < a + m then a + m else E) = E2) := ⟨_, rfl⟩
        simp only [HF2.out, HE2.out]
        have hd := HC2.out.drewN nq
        have r0 := hd.read
        have rz := hd.free
        have hoff := hd.off (g, a, m) (List.mem_cons_self ..)
        have hnz := hd.node.2
        have cz := hnz.cell 2
        have cs := (hnz.far (p := plc c pre) hoff (.pointer (pt r none))).cell 2
        have HCN := hide (HC3.out nq)
        have HBN := hide ((below_drewN HB.out nq).grown (grown_set (wr.drewN nq) p (.pointer q2)) (by have := hsz.2; have := hsz.1; show base ≤ wr.heap.size; omega) (fun k hk => by injection hk with hk; rw [HPL.out] at hsz; omega))
        rw [HPL.out] at r0 rz cs
        rw [HQ2.out] at cs cz HCN
        have em : min F a = F2 := by have := HF2.out; split at this <;> omega
        have eM : max E (a + m) = E2 := by have := HE2.out; split at this <;> omega
        rw [em, eM] at HJ3
        have HLL := hide (show r.length < gk by rw [← HL.out]; simp)
        simp only [pt, List.getElem?_toArray, List.getElem?_cons_zero, List.getElem?_cons_succ] at r0 cs cz
        clear HC3 hd hoff hnz c0 c1 c2 hle em eM r1 HC2 HB HL
        generalize wr.drewN nq = wz at *
        go_wp2
        go_roundg r.length
        case measure => exact HLL.out
        case rel => exact ⟨r, F2, E2, q2, rfl, rfl, rfl, HQ2, rfl, HCN, HJ3, HBN⟩
      · have HK := hide (putLink_yes base c pre ((g, a, m) :: r) F E wr HC2.out HJ2.out.lt)
        rw [HPL.out] at HK
        have HD := hide (HJ2.out.done HV.out h0 h2 (fun x hx => by injection hx with hx; subst hx; show E < a; omega))
        clear hn
        go_wp2_with (go_at_call 40; refine HK.out.mono ?_; rintro x w2 ⟨g, rfl, hc2, hg2, hs2⟩; have HC3 := hide hc2; have HB2 := hide (HB.out.grown hg2 (by omega) (fun k hk => by injection hk with hk; rw [HPL.out] at hsz; omega)); clear hc2 hg2)
        exact bodyPost_end (results_none Try.results33 _ _ _) rfl ⟨rfl, _, HC3.out, by rw [exs_append, exs_append, List.append_assoc]; exact HD.out, HB2.out⟩
end Go.Proofs.Ythpipgcgnhgphaa
