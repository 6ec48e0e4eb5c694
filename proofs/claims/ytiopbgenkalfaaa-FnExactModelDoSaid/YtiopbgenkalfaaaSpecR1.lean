/-
  The model's l42Values, l42Valid, l42Model, ModelNew.
-/
import Derived.Test.YtiopbgenkalfaaaMods
import Derived.Test.YtiopbgenkalfaaaInts
import Derived.Test.YtiopbgenkalfaaaQo
import Derived.Deep.DeepCutAuto
import Derived.Deep.CutBlock
namespace Go.Proofs.Ytiopbgenkalfaaa
open Go.RowKit
set_option linter.unusedVariables false
set_option maxRecDepth 100000

set_option maxHeartbeats 800000 in
theorem specVals (A : Option Addr) (n c B : Nat) (xs : List Int) (w : World) (hr : Ints w B A n xs) (hn : n ≤ maxLen) :
    Calls Try.prog 35 #[.slice A n c] w fun e w' => e = .returned (.bool (nowV xs)) ∧ w = w' := by
  unfold maxLen at hn
  have HL := hide hr.1
  go_enter Try.func35, Try.ntmps35
  go_wp2
  go_loop [3] (fun i => ∃ (k : Nat), k ≤ n ∧ i = .int .i64 k ∧ Hid (allN xs = allN (xs.drop k))) (fun i => n - (intOf i).toNat)
  case atStart => exact ⟨0, Nat.zero_le _, rfl, rfl⟩
  case round =>
    obtain ⟨k, hk, rfl, HS⟩ := hrel
    by_cases hlt : k < n
    · have hl := HL.out
      have hd := allN_drop (xs := xs) (k := k) (by omega)
      obtain ⟨ad, rfl, hb, hc⟩ := hr.at_ hlt
      have HX : Hid (_ = _) := HS.out.trans hd
      clear hd hl HS
      generalize xs.getD k 0 = x at hc HX
      rcases h1 : inB x 0 99 with _ | _
      · have HE := hide (show nowV xs = false by unfold nowV; rw [HX.out, h1]; rfl)
        have H1 := hide h1
        clear h1
        go_wp2_with fail
        refine (in_no _ _ _ _ H1.out).mono ?_
        rintro e w' ⟨rfl, rfl⟩
        go_wp2
        go_ret
        exact ⟨ret_bool HE.out.symm, rfl⟩
      · have HE := hide (HX.out.trans (by rw [h1]; rfl : _ = allN (xs.drop (k + 1))))
        have H1 := hide h1
        clear h1
        go_wp2_with fail
        refine (in_yes _ _ _ _ H1.out).mono ?_
        rintro e w' ⟨rfl, rfl⟩
        go_wp2
        go_round
        case rel => exact ⟨k + 1, by omega, by go_num, HE.out⟩
        case measure => simp [intOf]; omega
    · have HE := hide (show nowV xs = decide (n = 12) by unfold nowV; rw [HS.out, List.drop_of_length_le (by have := HL.out; omega), HL.out]; rfl)
      by_cases h12 : n = 12
      · have h12' : ((n : Int) == 12) = true := by subst h12; rfl
        have HE2 := hide (HE.out.trans (decide_eq_true h12))
        clear h12
        go_wp2
        go_ret
        exact ⟨ret_bool (by rw [HE2.out]; try rfl), rfl⟩
      · have h12' : ((n : Int) == 12) = false := by simp; omega
        have HE2 := hide (HE.out.trans (decide_eq_false h12))
        go_wp2
        go_ret
        exact ⟨ret_bool (by rw [HE2.out]; try rfl), rfl⟩

set_option maxHeartbeats 1600000 in
theorem specModel (A : Option Addr) (n c B : Nat) (xs : List Int) (w : World) (hr : Ints w B A n xs) (hB : B ≤ w.heap.size) (hn : n ≤ 1000000000) :
    Calls Try.prog 36 #[.slice A n c] w fun e w' => ∃ q : Mq, e = .returned q.val ∧ OwnM w' w.heap.size q ∧ q.xs = xs ∧ vsN q.qs = [xs] ∧ Below w.heap.size w w' := by
  have HR := hide hr
  have HK0 := hide ((Kp.refl w).push 27 #[.slice none 0 0, .slice none 0 0])
  clear hr
  go_enter Try.func36, Try.ntmps36
  go_upto_region 1 with (fail)
  obtain ⟨W1, hW1⟩ : ∃ W, w.alloc (.cells #[.slice none 0 0, .slice none 0 0] 27) = W := ⟨_, rfl⟩
  have hs1 : w.heap.size ≤ W1.heap.size := by rw [← hW1]; simp
  have HR1 := hide (show Ints W1 B A n xs by rw [← hW1]; exact HR.out.alloc hB _)
  rw [hW1] at HK0 ⊢
  have hgl : w.heap.size < W1.heap.size := by have := HK0.out.lt; exact this
  have hl := HR1.out.1
  clear hW1 HR
  go_wp2_with (at_builtin; first
    | (refine wpList_append_ints rfl _ _ rfl W1.heap.size 0 0 B n c _ _ [] xs rfl (Own.lit0 W1 _ (Nat.le_refl _)) rfl (HR1.out.alloc (by omega) _) (by omega) (by simp) ?_; intro A5 c5 w5 ho5 hg5 hat5; clear hat5; simp only [Nat.zero_add, List.nil_append] at ho5 ⊢; have hb5 := below_app0 (Below.refl W1.heap.size W1) (Nat.le_refl _) hg5; have HK5 := hide (HK0.out.step hb5); have hs5 := hb5.size; have HR5 := hide (HR1.out.below hb5 (by omega)); have HO5 := hide ho5; clear ho5 hg5 hb5 HK0 HR1)
    | (refine wpList_append_ints rfl _ _ rfl w5.heap.size 0 0 B n c _ _ [] xs rfl (Own.lit0 w5 _ (Nat.le_refl _)) rfl (HR5.out.alloc (by omega) _) (by omega) (by simp) ?_; intro A6 c6 w6 ho6 hg6 hat6; clear hat6; simp only [Nat.zero_add, List.nil_append] at ho6 ⊢; have hb6 := below_app0 (Below.refl w5.heap.size w5) (Nat.le_refl _) hg6; have HK6 := hide (HK5.out.step hb6); have hs6 := hb6.size; have HO6 := hide ho6; have HO5' := hide (HO5.out.below hb6); have HK7 := hide (HK6.out.alloc (.cells #[.slice A6 n c6] 23)); obtain ⟨⟨z0, z1⟩, f0, f1⟩ := HK7.out.cells2; clear ho6 hg6 hb6 HK5 HR5))
  have HK8 := hide (HK7.out.put2 (by simp) (.slice A5 n c5) (.slice (some ⟨w6.heap.size, 0, none⟩) 1 1))
  have hg8 := grown2 (w6.alloc (.cells #[.slice A6 n c6] 23)) w.heap.size (.slice A5 n c5) (.slice (some ⟨w6.heap.size, 0, none⟩) 1 1)
  have HM := hide (show OwnM _ W1.heap.size ⟨A5, n, c5, some ⟨w6.heap.size, 0, none⟩, 1, 1, xs, [⟨xs, A6, c6⟩]⟩ from
    (OwnM.single HO5'.out HO6.out (fun g e => (HO5.out.block g e).2) hs5 hs6).old hg8 hgl)
  generalize (w6.alloc (.cells #[.slice A6 n c6] 23)) = w7 at HK8 HM z0 z1 f0 f1 ⊢
  obtain ⟨⟨q0, q1⟩, _, _⟩ := HK8.out.cells2
  exact bodyPost_ret (v := .agg #[.slice A5 n c5, .slice (some ⟨w6.heap.size, 0, none⟩) 1 1]) (by simp [results, Try.results36, go_sem, q0, q1]) rfl ⟨⟨A5, n, c5, _, 1, 1, xs, _⟩, rfl, HM.out.mono hs1, rfl, rfl, HK8.out.below⟩

/-- what ModelNew answers -/
def newR (xs : List Int) : Option (List Int × List (List Int)) := if nowV xs = true then some (xs, [xs]) else none
theorem newR_yes {xs : List Int} (h : nowV xs = true) : newR xs = some (xs, [xs]) := by unfold newR; rw [if_pos h]
theorem newR_no {xs : List Int} (h : nowV xs = false) : newR xs = none := by unfold newR; rw [if_neg (by simp [h])]
set_option maxHeartbeats 1600000 in
theorem specNewM (A : Option Addr) (n c B : Nat) (xs : List Int) (w : World) (hr : Ints w B A n xs) (hB : B ≤ w.heap.size) (hn : n ≤ 1000000000) :
    Calls Try.prog 12 #[.slice A n c] w (MPost w (newR xs)) := by
  have HR := hide hr
  have HK0 := hide ((Kp.refl w).push 27 #[.slice none 0 0, .slice none 0 0])
  have HVA := hide fun (W : World) (h : Ints W B A n xs) => specVals A n c B xs W h (by unfold maxLen; omega)
  have HMO := hide fun (W : World) (h : Ints W B A n xs) (hB : B ≤ W.heap.size) => specModel A n c B xs W h hB hn
  clear hr
  go_enter Try.func12, Try.ntmps12
  go_upto_region 1 with (fail)
  obtain ⟨W1, hW1⟩ : ∃ W, w.alloc (.cells #[.slice none 0 0, .slice none 0 0] 27) = W := ⟨_, rfl⟩
  have hs1 : w.heap.size ≤ W1.heap.size := by rw [← hW1]; simp
  have HR1 := hide (show Ints W1 B A n xs by rw [← hW1]; exact HR.out.alloc hB _)
  rw [hW1] at HK0 ⊢
  clear hW1 HR
  go_wp2_with fail
  refine (HVA.out W1 HR1.out).mono ?_
  rintro e w' ⟨rfl, rfl⟩
  rcases hv : nowV xs with _ | _
  · have HE := hide (newR_no hv)
    clear hv
    obtain ⟨⟨z0, z1⟩, f0, f1⟩ := HK0.out.cells2
    have HK8 := hide (HK0.out.put2 (by simp) (.slice none 0 0) (.slice none 0 0))
    go_wp2
    obtain ⟨⟨q0, q1⟩, _, _⟩ := HK8.out.cells2
    exact bodyPost_ret (v := .tuple #[.agg #[.slice none 0 0, .slice none 0 0], .bool false]) (by simp [results, Try.results12, go_sem, q0, q1]) rfl (MPost.no w HK8.out.below HE.out)
  · have HE := hide (newR_yes hv)
    clear hv
    go_wp2_with fail
    refine (HMO.out W1 HR1.out (by omega)).mono ?_
    rintro e w5 ⟨q, rfl, hm, hx, hq, hb5⟩
    have HK5 := hide (HK0.out.step hb5)
    obtain ⟨⟨z0, z1⟩, f0, f1⟩ := HK5.out.cells2
    have hgl : w.heap.size < W1.heap.size := HK0.out.lt
    have HK8 := hide (HK5.out.put2 (by simp) (.slice q.A q.n q.c) (.slice q.P q.m q.d))
    have HM := hide (hm.old (grown2 w5 w.heap.size (.slice q.A q.n q.c) (.slice q.P q.m q.d)) hgl)
    have HX := hide hx
    have HQ := hide hq
    clear hm hx hq hb5
    unfold Mq.val
    go_wp2
    obtain ⟨⟨q0, q1⟩, _, _⟩ := HK8.out.cells2
    exact bodyPost_ret (v := .tuple #[.agg #[.slice q.A q.n q.c, .slice q.P q.m q.d], .bool true]) (by simp [results, Try.results12, go_sem, q0, q1]) rfl ⟨q, by rw [HE.out]; rfl, HM.out.mono hs1, by rw [HE.out]; exact HX.out, by rw [HE.out]; exact HQ.out, HK8.out.below⟩
end Go.Proofs.Ytiopbgenkalfaaa
