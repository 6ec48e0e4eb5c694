/-
  The drawn arguments of the laws on devices.
-/
import Derived.Test.YtcocboigjfjnfaaDrawZ3
namespace Go.Proofs.Ytcocboigjfjnfaa
open Go.RowKit
set_option linter.unusedVariables false
set_option maxRecDepth 100000

/-- a drawn device -/
def DevDrawn (w0 w' : World) (A : Option Addr) (n c : Nat) (qs : List Zq) : Prop :=
  Zns w' w'.heap.size A n qs ∧ n ≤ 4 ∧ n ≤ c ∧ c ≤ maxLen ∧ (∀ q ∈ qs, q.words.length ≤ 70) ∧ Below w0.heap.size w0 w'

theorem grown_after {w w1 w2 : World} (hb : Below w.heap.size w w1) (hg : w1.grownBy w2 (some w.heap.size)) : Below w.heap.size w w2 :=
  hb.trans (below_of_grown' hg hb.size (by intro q hq; injection hq with hq; omega))

theorem results_tmp3 {fn : Func} {t u v : Tmp} (h : fn.results = #[.tmp t, .tmp u, .tmp v]) (tmps : Array Value) (P : Program) (w : World) :
    (results fn tmps).run P w = .ok (.tuple #[tmps.getD t undef, tmps.getD u undef, tmps.getD v undef]) w := by
  simp [results, h]




set_option maxHeartbeats 1600000 in
theorem drawFinish_any (A : Option Addr) (n c : Nat) (bs : Nat → Int) (w : World) (hb : Bytes w w.heap.size A n bs) (hn : n ≤ c) (hc : c ≤ maxLen) :
    Calls Try.prog 23 #[.slice A n c] w fun e w' => ∃ A2 m c2 qs z, e = .returned (.tuple #[.slice A2 m c2, .int .i64 z]) ∧ DevDrawn w w' A2 m c2 qs ∧ -1 ≤ z ∧ z ≤ 5 := by
  go_enter Try.func23, Try.ntmps23
  go_wp2_with fail
  refine (open_any A n c bs _ hb hn hc).mono ?_
  rintro e w1 ⟨rfl, hr, hB⟩
  have HB1 := hide hB
  clear hB hb
  go_wp2_with fail
  refine (device91_any _ 0 _ hr (by omega)).mono ?_
  rintro e w2 ⟨A2, m, c2, qs, p', rfl, hz, hm, hmc, hcm, hl, hp0, hp1, hr2, hg⟩
  have HZ := hide hz
  have HB2 := hide (grown_after HB1.out hg)
  have HL := hide hl
  clear hz hg hr hl
  go_wp2_with fail
  refine (zone91_any _ _ _ hr2 (by omega)).mono ?_
  rintro e w3 ⟨z, p3, rfl, hz0, hz1, _, _, hr3, hg3⟩
  have HZ3 := hide (HZ.out w3 hg3)
  have HB3 := hide (HB2.out.trans (below_of_grown' hg3 HB2.out.size (by intro q hq; injection hq with hq; omega)))
  clear hg3 hr3 hr2
  go_wp2
  go_ret2
  exact ⟨_, _, _, _, _, rfl, ⟨HZ3.out, hm, hmc, hcm, HL.out, HB3.out⟩, hz0, hz1⟩



end Go.Proofs.Ytcocboigjfjnfaa
