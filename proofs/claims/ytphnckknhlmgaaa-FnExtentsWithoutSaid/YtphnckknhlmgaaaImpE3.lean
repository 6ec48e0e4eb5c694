/-
  The program's cut of a chain.
-/
import Derived.Test.YtphnckknhlmgaaaImpE2
namespace Go.Proofs.Ytphnckknhlmgaaa
open Go.RowKit
set_option linter.unusedVariables false
set_option maxRecDepth 100000

set_option maxHeartbeats 1600000 in
theorem cut_any (base c : Nat) (ns : Nds) (f e : Int) (w : World) (h : Chn w base c ns) (hv : exV (exs ns) = true) (h0 : 0 ≤ f) (h1 : f < e) :
    Calls Try.prog 39 #[.pointer (some ⟨c, 0, none⟩), .int .i64 f, .int .i64 e] w (ChnPost w base c (R fun i => inE (exs ns) i && !sg f e i)) := by
  have HC := hide h
  have HV := hide hv
  have HP := hide (place_any base c ns f w h h0)
  clear h hv
  go_enter Try.func39, Try.ntmps39
  go_wp2_with (go_at_call 42; refine HP.out.mono ?_; rintro x w1 ⟨pre, rest, rfl, hns, hplc, rfl⟩; have HJ := hide (CtI.start (e := e) hplc HV.out); have HC1 := hide (hns ▸ HC.out); have r1 := HC1.out.read; clear hplc HP; obtain ⟨q, HQ⟩ : ∃ q, Hid (pt rest none = q) := ⟨_, rfl⟩; rw [HQ.out] at r1; obtain ⟨p, HPL⟩ : ∃ p, Hid (plc c pre = p) := ⟨_, rfl⟩; rw [HPL.out] at r1 ⊢; have HNS := hide hns; clear hns)
  have HW := hide (Below.refl base w1)
  go_loopg [6, 7] rest.length (fun k pl o wr => ∃ (ps rs : Nds) (q : Option Addr) (p : Addr), o = .pointer q ∧ pl = .pointer (some p) ∧ Hid (plc c ps = p) ∧ Hid (pt rs none = q) ∧ Hid (rs.length = k) ∧ Hid (Chn wr base c (ps ++ rs)) ∧ Hid (CtI (exs ns) f e (exs ps) (exs rs)) ∧ Hid (Below base w1 wr))
  case atStart => exact ⟨pre, rest, q, p, rfl, rfl, HPL, HQ, rfl, HC1, HJ, HW⟩
  case round =>
    clear r1 HPL
    obtain ⟨ps, rs, q', p', rfl, rfl, HPL, HQ', HL, HC2, HJ2, HB⟩ := hrel
    clear HQ HJ HC1 HC
    rcases rs with _ | ⟨n, r⟩
    · have e1 := HQ'.out
      rw [pt] at e1
      subst e1
      have HD := hide (HJ2.out.done HV.out (fun x hx => by cases hx))
      go_wp2
      exact bodyPost_end (results_none Try.results39 _ _ _) rfl ⟨rfl, _, HC2.out, by rw [exs_append]; exact HD.out, HB.out⟩
    · obtain ⟨g, a, m⟩ := n
      have e1 := HQ'.out
      rw [pt] at e1
      simp only at e1
      subst e1
      have hn := HC2.out.node.2
      have c0 := hn.cell 0
      have c1 := hn.cell 1
      have c2 := hn.cell 2
      simp only [List.getElem?_toArray, List.getElem?_cons_zero, List.getElem?_cons_succ] at c0 c1 c2
      by_cases hlt : a < e
      · have HJ3 := hide (HJ2.out.step h1 hlt)
        have HCD := hide HC2.out.drop
        have hsz := HC2.out.plc_ge
        have hoff := HC2.out.off (g, a, m) (List.mem_cons_self ..)
        have hgl := hn.lt
        simp only at hoff
        have HK1 := hide (putLink_any base c ps r a f _ HCD.out)
        have hnd := hn.far (p := plc c ps) hoff (.pointer (pt r none))
        have HND := hide hnd
        have d0 := hnd.cell 0
        simp only [List.getElem?_toArray, List.getElem?_cons_zero] at d0
        have r0 := HC2.out.read
        have rf := HC2.out.free
        have HBD := hide (HB.out.grown (grown_set wr (plc c ps) (.pointer (pt r none))) (by omega) (fun k hk => by injection hk with hk; omega))
        obtain ⟨q2, HQ2⟩ : ∃ q, Hid (pt r none = q) := ⟨_, rfl⟩
        have hszd : (wr.setCell (plc c ps) (.pointer (pt r none))).heap.size = wr.heap.size := by simp
        rw [HPL.out] at HK1 HCD HBD HND r0 rf d0 hsz hoff hszd
        rw [HQ2.out] at HCD HBD HND HK1 c2 d0 hszd
        simp only [pt] at r0
        have HLL := hide (show r.length < gk by rw [← HL.out]; simp)
        clear hn hnd HL HQ' c1 HJ2
        go_wp2_with fail
        refine HK1.out.mono ?_
        rintro x w2 ⟨ps2, rfl, hx2, hc2, hg2, hp2⟩
        rw [HPL.out] at hg2 hp2
        rw [hszd] at hp2
        have hge2 := hc2.plc_ge
        obtain ⟨p2, HPL2⟩ : ∃ p, Hid (plc c ps2 = p) := ⟨_, rfl⟩
        have hN2 := HND.out.grown hg2 (by intro e; injection e with e; exact hoff e)
        have d1 := hN2.cell 1
        simp only [List.getElem?_toArray, List.getElem?_cons_zero, List.getElem?_cons_succ] at d1
        have HK2 := hide (putLink_any base c ps2 r e (a + m) w2 hc2)
        rw [HPL2.out] at hp2 HK2 hge2 ⊢
        have hoff2 : g ≠ p2.block := by rcases hp2 with e | e <;> omega
        have HB2 := hide (HBD.out.grown hg2 (by rw [hszd]; omega) (fun k hk => by injection hk with hk; omega))
        have HN2 := hide hN2
        have HX2 := hide hx2
        clear hN2 hc2 hg2 hp2 HND d0 c0 c2 r0 rf HK1 HBD hx2
        go_wp2_with fail
        refine HK2.out.mono ?_
        rintro x w3 ⟨ps3, rfl, hx3, hc3, hg3, hp3⟩
        rw [HPL2.out] at hg3
        obtain ⟨p3, HPL3⟩ : ∃ p, Hid (plc c ps3 = p) := ⟨_, rfl⟩
        rw [HPL3.out]
        have d2 := (HN2.out.grown hg3 (by intro e; injection e with e; exact hoff2 e)).cell 2
        simp only [List.getElem?_toArray, List.getElem?_cons_zero, List.getElem?_cons_succ] at d2
        have HB3 := hide (HB2.out.grown hg3 (by omega) (fun k hk => by injection hk with hk; omega))
        have HJ4 := hide HJ3.out
        rw [← HX2.out, ← hx3] at HJ4
        have HC3 := hide hc3
        clear hc3 hg3 hp3 hx3 HN2 HX2 HK2 d1
        go_wp2
        go_roundg r.length
        case measure => exact HLL.out
        case rel => exact ⟨ps3, r, q2, p3, rfl, rfl, HPL3, HQ2, rfl, HC3, HJ4, HB3⟩
      · have HD := hide (HJ2.out.done HV.out (fun x hx => by injection hx with hx; subst hx; show e ≤ a; omega))
        clear hn
        go_wp2
        exact bodyPost_end (results_none Try.results39 _ _ _) rfl ⟨rfl, _, HC2.out, by rw [exs_append]; exact HD.out, HB.out⟩
end Go.Proofs.Ytphnckknhlmgaaa
