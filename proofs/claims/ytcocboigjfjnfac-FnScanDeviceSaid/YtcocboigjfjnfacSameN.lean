/-
  The laws' sameFound: equal lists of frames that were found are told equal.
-/
import Derived.Test.YtcocboigjfjnfacG3
import Derived.Test.YtcocboigjfjnfacG1
import Derived.StillTailTactics
namespace Go.Proofs.Ytcocboigjfjnfac
open Go.RowKit
set_option linter.unusedVariables false
set_option maxRecDepth 100000

set_option maxHeartbeats 6400000 in
theorem sameFnd_yes (A A' : Option Addr) (n c d B B' : Nat) (qs rs : List Fq) (w : World) (hx : Fnds w B A n qs) (hy : Fnds w B' A' n rs) (hB : B ≤ w.heap.size) (hB' : B' ≤ w.heap.size) (hn : n ≤ maxLen) (h : fns qs = fns rs) :
    Calls Try.prog 9 #[.slice A n c, .slice A' n d] w fun e w' => e = .returned (.bool true) ∧ Below w.heap.size w w' := by
  have HX := hide hx
  have HY := hide hy
  have HE := hide h
  unfold maxLen at hn
  clear hx hy h
  go_enter Try.func9, Try.ntmps9
  go_wp2
  go_loopw [5] (fun i wr => ∃ (k : Nat), k ≤ n ∧ i = .int .i64 k ∧ Hid (Below w.heap.size w wr)) (fun i _ => n - (intOf i).toNat)
  case atStart => exact ⟨0, Nat.zero_le _, rfl, Below.refl _ _⟩
  case round =>
    obtain ⟨k, hk, rfl, HB⟩ := hrel
    have hs := HB.out.size
    by_cases hlt : k < n
    · obtain ⟨q, hq⟩ : ∃ q, qs[k]? = some q := ⟨_, List.getElem?_eq_getElem (by rw [HX.out.1]; exact hlt)⟩
      obtain ⟨r, hr⟩ : ∃ r, rs[k]? = some r := ⟨_, List.getElem?_eq_getElem (by rw [HY.out.1]; exact hlt)⟩
      have her : r.fn = q.fn := by
        have h1 := fns_get hq
        have h2 := fns_get hr
        rw [HE.out, h2] at h1
        injection h1
      have hX := HX.out.below HB.out hB
      have hY := HY.out.below HB.out hB'
      obtain ⟨ad, p, rfl, hp, hb, hc0, hc1, hc2, hc3, hc4⟩ := hX.at_ hq
      obtain ⟨ad', p', rfl, hp', hb', hd0, hd1, hd2, hd3, hd4⟩ := hY.at_ hr
      obtain ⟨hi, hle, hcm, hnl⟩ := hX.words hq
      obtain ⟨hi', hle', hcm', hnl'⟩ := hY.words hr
      clear hq hr hX hY hnl hnl'
      obtain ⟨z, a, x0, x1, ws, qa, qc⟩ := q
      obtain ⟨z', a', x0', x1', ws', ra, rc⟩ := r
      unfold Fq.fn at her
      injection her with h1 her
      injection her with h2 her
      injection her with h3 her
      injection her with h4 h5
      subst h1
      subst h2
      subst h3
      subst h4
      subst h5
      simp only [Fq.sl] at hc0 hc1 hc2 hc3 hc4 hi hle hcm hd0 hd1 hd2 hd3 hd4 hi' hle' hcm'
      generalize hm : ws'.length = m at hc4 hi hle hd4 hi' hle'
      have hb_ : B ≤ wr.heap.size := by omega
      have hb2_ : B' ≤ wr.heap.size := by omega
      have HSI := hide fun (W : World) (h : Below wr.heap.size wr W) => sameFrame_yes x0' x1' qa ra m qc rc B B' ws' W (hi.below h hb_) (Nat.le_trans hb_ h.size) (hi'.below h hb2_) (Nat.le_trans hb2_ h.size) (Nat.le_trans hle hcm)
      have k0 : (0 : Int) ≤ (k : Int) := by omega
      have k1 : (k : Int) < (n : Int) := by omega
      clear hi hi' hle hle' hcm hcm' hm
      go_wp2_with fail
      go_still_tail 35, (by kernel_rfl)
      change wpList _ _ _ _ _ (wr.drewN 1)
      go_wp2_with fail
      refine (HSI.out (wr.drewN 1) ⟨rfl, rfl, rfl, Nat.le_refl _, fun _ _ => rfl⟩).mono ?_
      rintro e w5 ⟨rfl, hb5⟩
      have HB5 := hide hb5
      clear hb5
      go_wp2
      go_roundw
      case rel => exact ⟨k + 1, by omega, by go_num, HB.out.trans (below_undrewF (i := 1) (Below.mono HB5.out hs))⟩
      case measure => simp [intOf]; omega
    · obtain rfl : k = n := by omega
      go_wp2
      go_ret
      exact ⟨rfl, HB.out⟩
end Go.Proofs.Ytcocboigjfjnfac
