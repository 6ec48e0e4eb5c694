/-
  The program's extents of a chain.
-/
import Derived.Test.YthpipgcgnhgphaaImpE1
import Derived.RegionTactic
import Derived.Deep.RegionLaw
namespace Go.Proofs.Ythpipgcgnhgphaa
open Go.RowKit
set_option linter.unusedVariables false
set_option maxRecDepth 100000

theorem ExR.more_ {w : World} {base n c : Nat} {A : Option Addr} {es : Exs} {e : Int × Int} (h1 : es.length = n) (h : OwnR w base 42 2 A (n + 1) c (fl es ++ [e.1, e.2])) : ExR w base A (n + 1) c (es ++ [e]) :=
  ⟨by simp [h1], by rw [fl_append]; exact h⟩

set_option maxHeartbeats 3200000 in
theorem extents_any (base c : Nat) (ns : Nds) (w : World) (h : Chn w base c ns) (hv : exV (exs ns) = true) :
    Calls Try.prog 34 #[.pointer (some ⟨c, 0, none⟩)] w fun x w' => ∃ A2 n2 c2, x = .returned (.slice A2 n2 c2) ∧ ExR w' w.heap.size A2 n2 c2 (exs ns) ∧ Below w.heap.size w w' := by
  have HC := hide h
  have HV := hide hv
  have r0 := h.hd.cell 0
  simp only [List.getElem?_toArray, List.getElem?_cons_zero] at r0
  have HL12 := hide (exV_len hv)
  clear h hv
  obtain ⟨q, HQ⟩ : ∃ q, Hid (pt ns none = q) := ⟨_, rfl⟩
  rw [HQ.out] at r0
  go_enter Try.func34, Try.ntmps34
  go_wp2_with fail
  go_loopg [3, 4] ns.length (fun k s o wr => ∃ (ps rs : Nds) (q : Option Addr) (A2 : Option Addr) (n2 c2 : Nat), o = .pointer q ∧ s = .slice A2 n2 c2 ∧ Hid (pt rs none = q) ∧ Hid (ns = ps ++ rs) ∧ Hid (rs.length = k) ∧ Hid (ExR wr w.heap.size A2 n2 c2 (exs ps)) ∧ Hid (Below w.heap.size w wr))
  case atStart => exact ⟨[], ns, q, none, 0, 0, rfl, rfl, HQ, rfl, rfl, ⟨rfl, OwnR.nil_ _ _ _ _⟩, Below.refl _ _⟩
  case round =>
    clear r0 HQ
    obtain ⟨ps, rs, q', A2, n2, c2, rfl, rfl, HQ', HE, HL, HO, HB⟩ := hrel
    rcases rs with _ | ⟨n, r⟩
    · have e1 := HQ'.out
      rw [pt] at e1
      subst e1
      have HO2 := hide (show ExR wr w.heap.size A2 n2 c2 (exs ns) by rw [HE.out, List.append_nil]; exact HO.out)
      go_wp2
      go_ret
      exact ⟨_, _, _, rfl, HO2.out, HB.out⟩
    · obtain ⟨g, a, m⟩ := n
      have e1 := HQ'.out
      rw [pt] at e1
      simp only at e1
      subst e1
      have hCW := HC.out.below HB.out
      rw [HE.out] at hCW
      have hn := hCW.node.2
      have c0 := hn.cell 0
      have c1 := hn.cell 1
      have c2' := hn.cell 2
      simp only [List.getElem?_toArray, List.getElem?_cons_zero, List.getElem?_cons_succ] at c0 c1 c2'
      have hb := vE_far (show vE 0 (exs ns) = true from HV.out) (a, m) (by rw [HE.out, exs_append]; simp [exs])
      obtain ⟨b0, b1, b2⟩ := hb
      simp only at b0 b1 b2
      obtain ⟨e, he⟩ : ∃ e, a + m = e := ⟨_, rfl⟩
      have y1 : IntKind.i64.wrap (e - a) = m := by rw [IntWalk.i64_in _ (by omega)]; omega
      rw [he] at c1
      obtain ⟨q2, HQ2⟩ : ∃ q, Hid (pt r none = q) := ⟨_, rfl⟩
      rw [HQ2.out] at c2'
      have hs := HB.out.size
      have hn2 : n2 ≤ 12 := by
        have := HL12.out
        rw [HE.out, exs_append, List.length_append] at this
        have h1 := HO.out.1
        omega
      have HOA := hide (HO.out.2.alloc (.cells #[.int .i64 a, .int .i64 m] 42))
      have HIA := hide (Ints.rec2 wr 42 a m)
      have hnm : n2 + 1 ≤ 1000000000000 := by omega
      have hbs : w.heap.size ≤ (wr.alloc (.cells #[.int .i64 a, .int .i64 m] 42)).heap.size := by simp; omega
      have HNB := hide hn
      have HLL := hide (show r.length < gk by rw [← HL.out]; simp)
      have HE2 := hide (show ns = (ps ++ [(g, a, m)]) ++ r by rw [HE.out, List.append_assoc]; rfl)
      clear hCW hn b0 b1 b2 HL HQ' hn2
      go_wp2_with fail
      go_region_law ((refine step_append_recs extT ?_ (.tmp 15) (.tmp 30) ?_ w.heap.size n2 c2 (wr.heap.size + 1) 1 1 A2 (some ⟨wr.heap.size, 0, none⟩) (fl (exs ps)) [a, m] ?_ ?_ ?_ ?_ ?_ ?_ ?_; rfl; rfl; rfl; exact HOA.out; rfl; exact HIA.out; exact hnm; exact hbs; intro A3 c3 w3 ho3 hg3' hat3; have hg3 := grown_undrawn hg3'; clear hat3 hg3'))
      all_goals
        have hB3 := below_app_r HB.out hs HO.out.2 (Nat.le_refl _) hg3
        have hx3 := ExR.more_ (e := (a, m)) HO.out.1 ho3
        have HO3 := hide (show ExR w3 w.heap.size A3 (n2 + 1) c3 (exs (ps ++ [(g, a, m)])) by rw [exs_append]; exact hx3)
        have hCW := HC.out.below hB3
        rw [HE.out] at hCW
        have c3' := hCW.node.2.cell 2
        simp only [List.getElem?_toArray, List.getElem?_cons_zero, List.getElem?_cons_succ, HQ2.out] at c3'
        have HB3 := hide hB3
        clear ho3 hg3 hx3 hCW hB3 c0 c1 c2' HOA HIA HNB
        go_wp2
        go_roundg r.length
        case measure => exact HLL.out
        case rel => exact ⟨ps ++ [(g, a, m)], r, q2, A3, n2 + 1, c3, rfl, rfl, HQ2, HE2, rfl, HO3, HB3⟩
end Go.Proofs.Ythpipgcgnhgphaa
