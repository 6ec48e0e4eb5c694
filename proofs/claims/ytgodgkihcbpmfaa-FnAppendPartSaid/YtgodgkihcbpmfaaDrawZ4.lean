/-
  The drawn arguments of the laws on devices.
-/
import Derived.Test.YtgodgkihcbpmfaaDrawZ3
namespace Go.Proofs.Ytgodgkihcbpmfaa
open Go.RowKit
set_option linter.unusedVariables false
set_option maxRecDepth 100000

/-- a drawn device -/
def DevDrawn (w0 w' : World) (A : Option Addr) (n c : Nat) (qs : List Zq) : Prop :=
  Zns w' w'.heap.size A n qs ∧ n ≤ 4 ∧ n ≤ c ∧ c ≤ maxLen ∧ (∀ q ∈ qs, q.words.length ≤ 70) ∧ Below w0.heap.size w0 w'

theorem grown_after {w w1 w2 : World} (hb : Below w.heap.size w w1) (hg : w1.grownBy w2 (some w.heap.size)) : Below w.heap.size w w2 :=
  hb.trans (below_of_grown' hg hb.size (by intro q hq; injection hq with hq; omega))

theorem results_tmp3 {fn : Func} {t u v : Tmp} (h : fn.results = #[.tmp t, .tmp u, .tmp v]) (tmps : Array Value) (P : Program) (w : World) :
    (results fn tmps).run P w = .ok (.tuple #[tmps.getD t undef, tmps.getD u undef, tmps.getD v undef]) w := by
  simp [results, h]

set_option maxHeartbeats 800000 in
theorem drawErase_any (A : Option Addr) (n c : Nat) (bs : Nat → Int) (w : World) (hb : Bytes w w.heap.size A n bs) (hn : n ≤ c) (hc : c ≤ maxLen) :
    Calls Try.prog 11 #[.slice A n c] w fun e w' => ∃ A2 m c2 qs, e = .returned (.slice A2 m c2) ∧ DevDrawn w w' A2 m c2 qs := by
  go_enter Try.func11, Try.ntmps11
  go_wp2_with fail
  refine (open_any A n c bs _ hb hn hc).mono ?_
  rintro e w1 ⟨rfl, hr, hB⟩
  have HB1 := hide hB
  clear hB hb
  go_wp2_with fail
  refine (device91_any _ 0 _ hr (by omega)).mono ?_
  rintro e w2 ⟨A2, m, c2, qs, p', rfl, hz, hm, hmc, hcm, hl, _, _, hr2, hg⟩
  have HZ := hide (hz w2 (grown_refl _ _))
  have HB2 := hide (grown_after HB1.out hg)
  have HL := hide hl
  clear hz hg hr hr2 hl
  go_wp2
  go_ret
  exact ⟨_, _, _, _, rfl, HZ.out, hm, hmc, hcm, HL.out, HB2.out⟩

set_option maxHeartbeats 800000 in
theorem drawSync_any (A : Option Addr) (n c : Nat) (bs : Nat → Int) (w : World) (hb : Bytes w w.heap.size A n bs) (hn : n ≤ c) (hc : c ≤ maxLen) :
    Calls Try.prog 20 #[.slice A n c] w fun e w' => ∃ A2 m c2 qs, e = .returned (.slice A2 m c2) ∧ DevDrawn w w' A2 m c2 qs := by
  go_enter Try.func20, Try.ntmps20
  go_wp2_with fail
  refine (open_any A n c bs _ hb hn hc).mono ?_
  rintro e w1 ⟨rfl, hr, hB⟩
  have HB1 := hide hB
  clear hB hb
  go_wp2_with fail
  refine (device91_any _ 0 _ hr (by omega)).mono ?_
  rintro e w2 ⟨A2, m, c2, qs, p', rfl, hz, hm, hmc, hcm, hl, _, _, hr2, hg⟩
  have HZ := hide (hz w2 (grown_refl _ _))
  have HB2 := hide (grown_after HB1.out hg)
  have HL := hide hl
  clear hz hg hr hr2 hl
  go_wp2
  go_ret
  exact ⟨_, _, _, _, rfl, HZ.out, hm, hmc, hcm, HL.out, HB2.out⟩


set_option maxHeartbeats 1600000 in
theorem drawFinish_any (A : Option Addr) (n c : Nat) (bs : Nat → Int) (w : World) (hb : Bytes w w.heap.size A n bs) (hn : n ≤ c) (hc : c ≤ maxLen) :
    Calls Try.prog 23 #[.slice A n c] w fun e w' => ∃ A2 m c2 qs z, e = .returned (.tuple #[.slice A2 m c2, .int .i64 z]) ∧ DevDrawn w w' A2 m c2 qs ∧ -1 ≤ z ∧ z ≤ 5 := by
  go_enter Try.func23, Try.ntmps23
  go_wp2_with fail
  refine (open_any A n c bs _ hb hn hc).mono ?_
  rintro e w1 ⟨rfl, hr, hB⟩
  have HB1 := hide hB
  clear hB hb
  go_wp2_with fail
  refine (device91_any _ 0 _ hr (by omega)).mono ?_
  rintro e w2 ⟨A2, m, c2, qs, p', rfl, hz, hm, hmc, hcm, hl, hp0, hp1, hr2, hg⟩
  have HZ := hide hz
  have HB2 := hide (grown_after HB1.out hg)
  have HL := hide hl
  clear hz hg hr hl
  go_wp2_with fail
  refine (zone91_any _ _ _ hr2 (by omega)).mono ?_
  rintro e w3 ⟨z, p3, rfl, hz0, hz1, _, _, hr3, hg3⟩
  have HZ3 := hide (HZ.out w3 hg3)
  have HB3 := hide (HB2.out.trans (below_of_grown' hg3 HB2.out.size (by intro q hq; injection hq with hq; omega)))
  clear hg3 hr3 hr2
  go_wp2
  go_ret2
  exact ⟨_, _, _, _, _, rfl, ⟨HZ3.out, hm, hmc, hcm, HL.out, HB3.out⟩, hz0, hz1⟩

set_option maxHeartbeats 800000 in
theorem drawReset_any (A : Option Addr) (n c : Nat) (bs : Nat → Int) (w : World) (hb : Bytes w w.heap.size A n bs) (hn : n ≤ c) (hc : c ≤ maxLen) :
    Calls Try.prog 27 #[.slice A n c] w fun e w' => ∃ A2 m c2 qs z, e = .returned (.tuple #[.slice A2 m c2, .int .i64 z]) ∧ DevDrawn w w' A2 m c2 qs ∧ -1 ≤ z ∧ z ≤ 5 := by
  have HD := hide (drawFinish_any A n c bs w hb hn hc)
  clear hb
  go_enter Try.func27, Try.ntmps27
  go_wp2_with fail
  refine HD.out.mono ?_
  rintro e w1 ⟨A2, m, c2, qs, z, rfl, hd, hz0, hz1⟩
  have HX := hide hd
  clear hd
  go_wp2
  go_ret2
  exact ⟨_, _, _, _, _, rfl, HX.out, hz0, hz1⟩

set_option maxHeartbeats 3200000 in
theorem drawAppend_any (A : Option Addr) (n c : Nat) (bs : Nat → Int) (w : World) (hb : Bytes w w.heap.size A n bs) (hn : n ≤ c) (hc : c ≤ maxLen) :
    Calls Try.prog 17 #[.slice A n c] w fun e w' => ∃ A2 m c2 qs z X k d xs, e = .returned (.tuple #[.slice A2 m c2, .int .i64 z, .slice X k d]) ∧ DevDrawn w w' A2 m c2 qs ∧ -1 ≤ z ∧ z ≤ 5 ∧
      Ints w' w'.heap.size X k xs ∧ k ≤ 100 ∧ k ≤ d ∧ d ≤ maxLen := by
  go_enter Try.func17, Try.ntmps17
  go_wp2_with fail
  refine (open_any A n c bs _ hb hn hc).mono ?_
  rintro e w1 ⟨rfl, hr, hB⟩
  have HB1 := hide hB
  clear hB hb
  go_wp2_with fail
  refine (device91_any _ 0 _ hr (by omega)).mono ?_
  rintro e w2 ⟨A2, m, c2, qs, p', rfl, hz, hm, hmc, hcm, hl, hp0, hp1, hr2, hg⟩
  have HZ := hide hz
  have HB2 := hide (grown_after HB1.out hg)
  have HL := hide hl
  clear hz hg hr hl
  go_wp2_with fail
  refine (zone91_any _ _ _ hr2 (by omega)).mono ?_
  rintro e w3 ⟨z, p3, rfl, hz0, hz1, hp30, hp31, hr3, hg3⟩
  have HG3 := hide hg3
  have hRw : w.heap.size < w2.heap.size := hr2.lt
  have hs3 := hg3.size
  clear hg3 hr2
  go_wp2_with fail
  refine (words91_any _ _ 12 _ hr3 (by omega) (by omega) (by omega)).mono ?_
  rintro e w4 ⟨A4, k4, c4, xs4, p4, rfl, ho4, hk4, _, hp40, hp41, hr4, hg4⟩
  have HG4 := hide (grown_trans' HG3.out hg4)
  have HR4 := hide hr4
  have HO4 := hide (ho4.mono hs3)
  clear hg4 hr4 hr3 ho4
  go_wp2_with fail
  refine (pick_any _ _ 8 _ HR4.out (by omega) (by omega)).mono ?_
  rintro e w5 ⟨v5, rfl, hv50, hv51, hr5, hg5⟩
  have HG5 := hide (grown_trans' HG4.out hg5)
  have HR5 := hide hr5
  have HO5 := hide (HO4.out.kept hg5 (by intro g hg; injection hg with hg; subst hg; intro e; have := (HO4.out.block _ e).1; omega))
  clear hg5 hr5
  have HEND : Hid (∀ (W : World) (X : Option Addr) (k d : Nat) (xs : List Int), w2.grownBy W (some w.heap.size) → Own W w2.heap.size X k d xs → k ≤ 100 →
      ∃ A2' m' c2' qs' z' X' k' d' xs', (Ending.returned (.tuple #[.slice A2 m c2, .int .i64 z, .slice X k d])) = .returned (.tuple #[.slice A2' m' c2', .int .i64 z', .slice X' k' d']) ∧ DevDrawn w W A2' m' c2' qs' ∧ -1 ≤ z' ∧ z' ≤ 5 ∧
      Ints W W.heap.size X' k' xs' ∧ k' ≤ 100 ∧ k' ≤ d' ∧ d' ≤ maxLen) := by
    intro W X k d xs hg ho hk
    exact ⟨_, _, _, _, _, _, _, _, xs, rfl, ⟨HZ.out W hg, hm, hmc, hcm, HL.out, HB2.out.trans (below_of_grown' hg HB2.out.size (by intro q hq; injection hq with hq; omega))⟩, hz0, hz1, ho.ints, hk, ho.cap.1, ho.cap.2⟩
  by_cases hv : v5 = 0
  · subst hv
    go_wp2_with fail
    go_loopw [8] (fun s wr => ∃ (k d : Nat) (X : Option Addr) (xs : List Int) (px : Int), s = .slice X k d ∧ k ≤ 70 ∧ 0 ≤ px ∧ px ≤ 3000 + k ∧ Hid (Own wr w2.heap.size X k d xs) ∧ Hid (Rd wr w.heap.size px) ∧ Hid (w2.grownBy wr (some w.heap.size))) (fun s _ => 100 - (match s with | .slice _ k _ => k | _ => 0))
    case atStart => exact ⟨_, _, _, _, _, rfl, by omega, by omega, by omega, HO5.out, HR5.out, HG5.out⟩
    case round =>
      clear HO5 HR5 HG5 HO4 HR4 HG4
      obtain ⟨k, d, X, xs, px, rfl, hk, hpx0, hpx1, HO, HR, HG⟩ := hrel
      go_wp2_with fail
      refine (pick_any _ px 36 _ HR.out (by omega) (by omega)).mono ?_
      rintro e w6 ⟨x, rfl, hx0, hx1, hr6, hg6⟩
      have HG6 := hide (grown_trans' HG.out hg6)
      have HR6 := hide hr6
      have HO6 := hide (HO.out.kept hg6 (by intro g hg; injection hg with hg; subst hg; intro e; have := (HO.out.block _ e).1; omega))
      have hs6 : w2.heap.size ≤ w6.heap.size := HG6.out.size
      clear hg6 hr6
      by_cases hlt : (k : Int) < 30 + x
      · have hnm : k + 1 ≤ 17592186044416 := by omega
        go_wp2_with (at_builtin; refine wpList_append_ints rfl (.tmp 26) (.tmp 27) rfl w2.heap.size k d (w6.heap.size + 1) 1 1 X (some ⟨w6.heap.size, 0, none⟩) xs [5] rfl (HO6.out.alloc _) rfl (Ints.one w6 5) hnm (by simp; omega) ?_; intro A8 c8 w8 ho8 hg8 hat8)
        have HO8 := hide ho8
        have HG8 := hide (grown_own (grown_alloc HG6.out _) hg8 (fun g hg => by have := (HO6.out.block g hg).1; omega))
        have HR8 := hide ((HR6.out.alloc _).grown hg8 (fun g hg => by have := (HO6.out.block g hg).1; omega))
        clear ho8 hg8 hat8
        go_roundw
        case rel => exact ⟨k + 1, _, _, _, px + 1, rfl, by omega, by omega, by omega, HO8.out, HR8.out, HG8.out⟩
        case measure => simp; omega
      · go_wp2
        exact bodyPost_ret (results_tmp3 Try.results17 _ _ _) rfl (HEND.out _ _ _ _ _ HG6.out HO6.out (by omega))
  · have hv' : (v5 == 0) = false := by simpa using hv
    go_wp2
    exact bodyPost_ret (results_tmp3 Try.results17 _ _ _) rfl (HEND.out _ _ _ _ _ HG5.out HO5.out (by omega))

set_option maxHeartbeats 3200000 in
theorem drawCut_any (A : Option Addr) (n c : Nat) (bs : Nat → Int) (w : World) (hb : Bytes w w.heap.size A n bs) (hn : n ≤ c) (hc : c ≤ maxLen) :
    Calls Try.prog 30 #[.slice A n c] w fun e w' => ∃ A2 m c2 qs z x, e = .returned (.tuple #[.slice A2 m c2, .int .i64 z, .int .i64 x]) ∧ DevDrawn w w' A2 m c2 qs ∧ -1 ≤ z ∧ z ≤ 5 ∧ -2 ≤ x ∧ x ≤ 100 := by
  go_enter Try.func30, Try.ntmps30
  go_wp2_with fail
  refine (open_any A n c bs _ hb hn hc).mono ?_
  rintro e w1 ⟨rfl, hr, hB⟩
  have HB1 := hide hB
  clear hB hb
  go_wp2_with fail
  refine (device91_any _ 0 _ hr (by omega)).mono ?_
  rintro e w2 ⟨A2, m, c2, qs, p', rfl, hz, hm, hmc, hcm, hl, hp0, hp1, hr2, hg⟩
  have HZ := hide hz
  have HB2 := hide (grown_after HB1.out hg)
  have HL := hide hl
  clear hz hg hr hl
  go_wp2_with fail
  refine (zone91_any _ _ _ hr2 (by omega)).mono ?_
  rintro e w3 ⟨z, p3, rfl, hz0, hz1, hp30, hp31, hr3, hg3⟩
  have HG3 := hide hg3
  have HR3 := hide hr3
  clear hg3 hr2 hr3
  have HEND : Hid (∀ (W : World) (x : Int), w2.grownBy W (some w.heap.size) → -2 ≤ x → x ≤ 100 →
      ∃ A2' m' c2' qs' z' x', (Ending.returned (.tuple #[.slice A2 m c2, .int .i64 z, .int .i64 x])) = .returned (.tuple #[.slice A2' m' c2', .int .i64 z', .int .i64 x']) ∧ DevDrawn w W A2' m' c2' qs' ∧ -1 ≤ z' ∧ z' ≤ 5 ∧ -2 ≤ x' ∧ x' ≤ 100) := by
    intro W x hg h0 h1
    exact ⟨_, _, _, _, _, _, rfl, ⟨HZ.out W hg, hm, hmc, hcm, HL.out, HB2.out.trans (below_of_grown' hg HB2.out.size (by intro q hq; injection hq with hq; omega))⟩, hz0, hz1, h0, h1⟩
  by_cases hin : 0 ≤ z ∧ z < (m : Int)
  · obtain ⟨hzz, hzm⟩ := hin
    obtain ⟨k, rfl⟩ := Int.eq_ofNat_of_zero_le hzz
    have hkm : k < m := by omega
    obtain ⟨q, hq⟩ : ∃ q, qs[k]? = some q := ⟨_, List.getElem?_eq_getElem (by have := (HZ.out w2 (grown_refl _ _)).1; omega)⟩
    have hql := HL.out q (List.mem_of_getElem? hq)
    have HQ := hide hq
    clear hq
    go_wp2_with fail
    refine (pick_any _ _ 6 _ HR3.out (by omega) (by omega)).mono ?_
    rintro e w4 ⟨v, rfl, hv0, hv1, hr4, hg4⟩
    have HG4 := hide (grown_trans' HG3.out hg4)
    have HR4 := hide hr4
    clear hr4 hg4
    by_cases hv : 0 < v
    · obtain ⟨ad, p, rfl, hp, hb4, hc0, _, _⟩ := (HZ.out w4 HG4.out).at_ HQ.out
      simp only [Zq.sl] at hc0
      generalize q.words.length = l at hc0 hql
      have k0 : (0 : Int) ≤ (k : Int) := by omega
      go_wp2_with fail
      refine (pick_any _ _ (l + 1) _ HR4.out (by omega) (by omega)).mono ?_
      rintro e w5 ⟨x, rfl, hx0, hx1, hr5, hg5⟩
      have HG5 := hide (grown_trans' HG4.out hg5)
      clear hr5 hg5
      go_wp2
      exact bodyPost_ret (results_tmp3 Try.results30 _ _ _) rfl (HEND.out _ x HG5.out (by omega) (by omega))
    · have hv' : decide (0 < v) = false := decide_eq_false hv
      go_wp2_with fail
      refine (pick_any _ _ 40 _ HR4.out (by omega) (by omega)).mono ?_
      rintro e w5 ⟨x, rfl, hx0, hx1, hr5, hg5⟩
      have HG5 := hide (grown_trans' HG4.out hg5)
      have HR5 := hide hr5
      clear hr5 hg5
      go_wp2_with fail
      refine (pick_any _ _ 6 _ HR5.out (by omega) (by omega)).mono ?_
      rintro e w6 ⟨y, rfl, hy0, hy1, hr6, hg6⟩
      have HG6 := hide (grown_trans' HG5.out hg6)
      clear hr6 hg6
      go_wp2
      exact bodyPost_ret (results_tmp3 Try.results30 _ _ _) rfl (HEND.out _ _ HG6.out (by omega) (by omega))
  · have hmm : m ≤ 9223372036854775807 := by omega
    rcases (show z < 0 ∨ (0 ≤ z ∧ (m : Int) ≤ z) by omega) with h | ⟨h, h2⟩
    · have h' : decide (0 ≤ z) = false := decide_eq_false (by omega)
      clear hin
      go_wp2_with fail
      refine (pick_any _ _ 40 _ HR3.out (by omega) (by omega)).mono ?_
      rintro e w5 ⟨x, rfl, hx0, hx1, hr5, hg5⟩
      have HG5 := hide (grown_trans' HG3.out hg5)
      have HR5 := hide hr5
      clear hr5 hg5
      go_wp2_with fail
      refine (pick_any _ _ 6 _ HR5.out (by omega) (by omega)).mono ?_
      rintro e w6 ⟨y, rfl, hy0, hy1, hr6, hg6⟩
      have HG6 := hide (grown_trans' HG5.out hg6)
      clear hr6 hg6
      go_wp2
      exact bodyPost_ret (results_tmp3 Try.results30 _ _ _) rfl (HEND.out _ _ HG6.out (by omega) (by omega))
    · have h' : decide (z < (m : Int)) = false := decide_eq_false (by omega)
      clear hin
      go_wp2_with fail
      refine (pick_any _ _ 40 _ HR3.out (by omega) (by omega)).mono ?_
      rintro e w5 ⟨x, rfl, hx0, hx1, hr5, hg5⟩
      have HG5 := hide (grown_trans' HG3.out hg5)
      have HR5 := hide hr5
      clear hr5 hg5
      go_wp2_with fail
      refine (pick_any _ _ 6 _ HR5.out (by omega) (by omega)).mono ?_
      rintro e w6 ⟨y, rfl, hy0, hy1, hr6, hg6⟩
      have HG6 := hide (grown_trans' HG5.out hg6)
      clear hr6 hg6
      go_wp2
      exact bodyPost_ret (results_tmp3 Try.results30 _ _ _) rfl (HEND.out _ _ HG6.out (by omega) (by omega))
end Go.Proofs.Ytgodgkihcbpmfaa
