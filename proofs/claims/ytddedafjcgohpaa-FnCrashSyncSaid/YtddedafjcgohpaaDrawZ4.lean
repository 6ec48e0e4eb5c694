/-
  The drawn arguments of the laws on devices.
-/
import Derived.Test.YtddedafjcgohpaaDrawZ3
namespace Go.Proofs.Ytddedafjcgohpaa
open Go.RowKit
set_option linter.unusedVariables false
set_option maxRecDepth 100000

/-- a drawn device -/
def DevDrawn (w0 w' : World) (A : Option Addr) (n c : Nat) (qs : List Zq) : Prop :=
  Zns w' w'.heap.size A n qs ∧ n ≤ 4 ∧ n ≤ c ∧ c ≤ maxLen ∧ (∀ q ∈ qs, q.words.length ≤ 70) ∧ Below w0.heap.size w0 w'

theorem grown_after {w w1 w2 : World} (hb : Below w.heap.size w w1) (hg : w1.grownBy w2 (some w.heap.size)) : Below w.heap.size w w2 :=
  hb.trans (below_of_grown' hg hb.size (by intro q hq; injection hq with hq; omega))

theorem results_tmp3 {fn : Func} {t u v : Tmp} (h : fn.results = #[.tmp t, .tmp u, .tmp v]) (tmps : Array Value) (P : Program) (w : World) :
    (results fn tmps).run P w = .ok (.tuple #[tmps.getD t undef, tmps.getD u undef, tmps.getD v undef]) w := by
  simp [results, h]


set_option maxHeartbeats 800000 in
theorem drawSync_any (A : Option Addr) (n c : Nat) (bs : Nat → Int) (w : World) (hb : Bytes w w.heap.size A n bs) (hn : n ≤ c) (hc : c ≤ maxLen) :
    Calls Try.prog 19 #[.slice A n c] w fun e w' => ∃ A2 m c2 qs, e = .returned (.slice A2 m c2) ∧ DevDrawn w w' A2 m c2 qs := by
  go_enter Try.func19, Try.ntmps19
  go_wp2_with fail
  refine (open_any A n c bs _ hb hn hc).mono ?_
  rintro e w1 ⟨rfl, hr, hB⟩
  have HB1 := hide hB
  clear hB hb
  go_wp2_with fail
  refine (device91_any _ 0 _ hr (by omega)).mono ?_
  rintro e w2 ⟨A2, m, c2, qs, p', rfl, hz, hm, hmc, hcm, hl, _, _, hr2, hg⟩
  have HZ := hide (hz w2 (grown_refl _ _))
  have HB2 := hide (grown_after HB1.out hg)
  have HL := hide hl
  clear hz hg hr hr2 hl
  go_wp2
  go_ret
  exact ⟨_, _, _, _, rfl, HZ.out, hm, hmc, hcm, HL.out, HB2.out⟩

set_option maxHeartbeats 800000 in
theorem drawValid_any (A : Option Addr) (n c : Nat) (bs : Nat → Int) (w : World) (hb : Bytes w w.heap.size A n bs) (hn : n ≤ c) (hc : c ≤ maxLen) :
    Calls Try.prog 21 #[.slice A n c] w fun e w' => ∃ A2 m c2 qs, e = .returned (.slice A2 m c2) ∧ DevDrawn w w' A2 m c2 qs := by
  go_enter Try.func21, Try.ntmps21
  go_wp2_with fail
  refine (open_any A n c bs _ hb hn hc).mono ?_
  rintro e w1 ⟨rfl, hr, hB⟩
  have HB1 := hide hB
  clear hB hb
  go_wp2_with fail
  refine (device91_any _ 0 _ hr (by omega)).mono ?_
  rintro e w2 ⟨A2, m, c2, qs, p', rfl, hz, hm, hmc, hcm, hl, _, _, hr2, hg⟩
  have HZ := hide (hz w2 (grown_refl _ _))
  have HB2 := hide (grown_after HB1.out hg)
  have HL := hide hl
  clear hz hg hr hr2 hl
  go_wp2
  go_ret
  exact ⟨_, _, _, _, rfl, HZ.out, hm, hmc, hcm, HL.out, HB2.out⟩




set_option maxHeartbeats 3200000 in
theorem drawCut_any (A : Option Addr) (n c : Nat) (bs : Nat → Int) (w : World) (hb : Bytes w w.heap.size A n bs) (hn : n ≤ c) (hc : c ≤ maxLen) :
    Calls Try.prog 9 #[.slice A n c] w fun e w' => ∃ A2 m c2 qs z x, e = .returned (.tuple #[.slice A2 m c2, .int .i64 z, .int .i64 x]) ∧ DevDrawn w w' A2 m c2 qs ∧ -1 ≤ z ∧ z ≤ 5 ∧ -2 ≤ x ∧ x ≤ 100 := by
  go_enter Try.func9, Try.ntmps9
  go_wp2_with fail
  refine (open_any A n c bs _ hb hn hc).mono ?_
  rintro e w1 ⟨rfl, hr, hB⟩
  have HB1 := hide hB
  clear hB hb
  go_wp2_with fail
  refine (device91_any _ 0 _ hr (by omega)).mono ?_
  rintro e w2 ⟨A2, m, c2, qs, p', rfl, hz, hm, hmc, hcm, hl, hp0, hp1, hr2, hg⟩
  have HZ := hide hz
  have HB2 := hide (grown_after HB1.out hg)
  have HL := hide hl
  clear hz hg hr hl
  go_wp2_with fail
  refine (zone91_any _ _ _ hr2 (by omega)).mono ?_
  rintro e w3 ⟨z, p3, rfl, hz0, hz1, hp30, hp31, hr3, hg3⟩
  have HG3 := hide hg3
  have HR3 := hide hr3
  clear hg3 hr2 hr3
  have HEND : Hid (∀ (W : World) (x : Int), w2.grownBy W (some w.heap.size) → -2 ≤ x → x ≤ 100 →
      ∃ A2' m' c2' qs' z' x', (Ending.returned (.tuple #[.slice A2 m c2, .int .i64 z, .int .i64 x])) = .returned (.tuple #[.slice A2' m' c2', .int .i64 z', .int .i64 x']) ∧ DevDrawn w W A2' m' c2' qs' ∧ -1 ≤ z' ∧ z' ≤ 5 ∧ -2 ≤ x' ∧ x' ≤ 100) := by
    intro W x hg h0 h1
    exact ⟨_, _, _, _, _, _, rfl, ⟨HZ.out W hg, hm, hmc, hcm, HL.out, HB2.out.trans (below_of_grown' hg HB2.out.size (by intro q hq; injection hq with hq; omega))⟩, hz0, hz1, h0, h1⟩
  by_cases hin : 0 ≤ z ∧ z < (m : Int)
  · obtain ⟨hzz, hzm⟩ := hin
    obtain ⟨k, rfl⟩ := Int.eq_ofNat_of_zero_le hzz
    have hkm : k < m := by omega
    obtain ⟨q, hq⟩ : ∃ q, qs[k]? = some q := ⟨_, List.getElem?_eq_getElem (by have := (HZ.out w2 (grown_refl _ _)).1; omega)⟩
    have hql := HL.out q (List.mem_of_getElem? hq)
    have HQ := hide hq
    clear hq
    go_wp2_with fail
    refine (pick_any _ _ 6 _ HR3.out (by omega) (by omega)).mono ?_
    rintro e w4 ⟨v, rfl, hv0, hv1, hr4, hg4⟩
    have HG4 := hide (grown_trans' HG3.out hg4)
    have HR4 := hide hr4
    clear hr4 hg4
    by_cases hv : 0 < v
    · obtain ⟨ad, p, rfl, hp, hb4, hc0, _, _⟩ := (HZ.out w4 HG4.out).at_ HQ.out
      simp only [Zq.sl] at hc0
      generalize q.words.length = l at hc0 hql
      have k0 : (0 : Int) ≤ (k : Int) := by omega
      go_wp2_with fail
      refine (pick_any _ _ (l + 1) _ HR4.out (by omega) (by omega)).mono ?_
      rintro e w5 ⟨x, rfl, hx0, hx1, hr5, hg5⟩
      have HG5 := hide (grown_trans' HG4.out hg5)
      clear hr5 hg5
      go_wp2
      exact bodyPost_ret (results_tmp3 Try.results9 _ _ _) rfl (HEND.out _ x HG5.out (by omega) (by omega))
    · have hv' : decide (0 < v) = false := decide_eq_false hv
      go_wp2_with fail
      refine (pick_any _ _ 40 _ HR4.out (by omega) (by omega)).mono ?_
      rintro e w5 ⟨x, rfl, hx0, hx1, hr5, hg5⟩
      have HG5 := hide (grown_trans' HG4.out hg5)
      have HR5 := hide hr5
      clear hr5 hg5
      go_wp2_with fail
      refine (pick_any _ _ 6 _ HR5.out (by omega) (by omega)).mono ?_
      rintro e w6 ⟨y, rfl, hy0, hy1, hr6, hg6⟩
      have HG6 := hide (grown_trans' HG5.out hg6)
      clear hr6 hg6
      go_wp2
      exact bodyPost_ret (results_tmp3 Try.results9 _ _ _) rfl (HEND.out _ _ HG6.out (by omega) (by omega))
  · have hmm : m ≤ 9223372036854775807 := by omega
    rcases (show z < 0 ∨ (0 ≤ z ∧ (m : Int) ≤ z) by omega) with h | ⟨h, h2⟩
    · have h' : decide (0 ≤ z) = false := decide_eq_false (by omega)
      clear hin
      go_wp2_with fail
      refine (pick_any _ _ 40 _ HR3.out (by omega) (by omega)).mono ?_
      rintro e w5 ⟨x, rfl, hx0, hx1, hr5, hg5⟩
      have HG5 := hide (grown_trans' HG3.out hg5)
      have HR5 := hide hr5
      clear hr5 hg5
      go_wp2_with fail
      refine (pick_any _ _ 6 _ HR5.out (by omega) (by omega)).mono ?_
      rintro e w6 ⟨y, rfl, hy0, hy1, hr6, hg6⟩
      have HG6 := hide (grown_trans' HG5.out hg6)
      clear hr6 hg6
      go_wp2
      exact bodyPost_ret (results_tmp3 Try.results9 _ _ _) rfl (HEND.out _ _ HG6.out (by omega) (by omega))
    · have h' : decide (z < (m : Int)) = false := decide_eq_false (by omega)
      clear hin
      go_wp2_with fail
      refine (pick_any _ _ 40 _ HR3.out (by omega) (by omega)).mono ?_
      rintro e w5 ⟨x, rfl, hx0, hx1, hr5, hg5⟩
      have HG5 := hide (grown_trans' HG3.out hg5)
      have HR5 := hide hr5
      clear hr5 hg5
      go_wp2_with fail
      refine (pick_any _ _ 6 _ HR5.out (by omega) (by omega)).mono ?_
      rintro e w6 ⟨y, rfl, hy0, hy1, hr6, hg6⟩
      have HG6 := hide (grown_trans' HG5.out hg6)
      clear hr6 hg6
      go_wp2
      exact bodyPost_ret (results_tmp3 Try.results9 _ _ _) rfl (HEND.out _ _ HG6.out (by omega) (by omega))
end Go.Proofs.Ytddedafjcgohpaa
