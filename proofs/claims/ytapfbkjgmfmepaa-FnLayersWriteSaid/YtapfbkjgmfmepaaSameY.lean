/-
  laws.sameLayers.
-/
import Derived.Test.YtapfbkjgmfmepaaLy
import Derived.Test.YtapfbkjgmfmepaaSameP
import Derived.Test.YtapfbkjgmfmepaaQo
namespace Go.Proofs.Ytapfbkjgmfmepaa
open Go.RowKit
set_option linter.unusedVariables false
set_option maxRecDepth 100000

set_option maxHeartbeats 1600000 in
theorem sameLy_yes (A A' : Option Addr) (n c d B B' : Nat) (qs rs : List Lq) (w : World) (hx : LyI w B A n qs) (hy : LyI w B' A' n rs) (hs : ∀ q ∈ qs, q.ps.length ≤ 1000000000) (hn : n ≤ 1000000000) (he : lys qs = lys rs) :
    Calls Try.prog 21 #[.slice A n c, .slice A' n d] w fun e w' => e = .returned (.bool true) ∧ ∃ z, w' = w.drewN z := by
  have hl := hx.1
  have hl' := hy.1
  have HX := hide hx
  have HY := hide hy
  have HS := hide hs
  have HE := hide he
  clear hx hy hs he
  go_enter Try.func21, Try.ntmps21
  go_wp2
  go_loopw [5] (fun i wr => ∃ (k z : Nat), k ≤ n ∧ i = .int .i64 k ∧ wr = w.drewN z) (fun i _ => n - (intOf i).toNat)
  case atStart => exact ⟨0, 0, Nat.zero_le _, rfl, rfl⟩
  case round =>
    obtain ⟨k, z, hk, rfl, rfl⟩ := hrel
    by_cases hlt : k < n
    · obtain ⟨q, hq⟩ : ∃ q, qs[k]? = some q := ⟨_, List.getElem?_eq_getElem (by omega)⟩
      obtain ⟨r, hr⟩ : ∃ r, rs[k]? = some r := ⟨_, List.getElem?_eq_getElem (by omega)⟩
      have her : q.ps = r.ps := by
        have h1 := lys_get hq
        have h2 := lys_get hr
        rw [HE.out, h2] at h1
        injection h1 with h1
        exact h1.symm
      have hX := HX.out.drewN z
      have hY := HY.out.drewN z
      obtain ⟨ad, rfl, hb, hc0⟩ := hX.at_ hq
      obtain ⟨ad', rfl, hb', hd0⟩ := hY.at_ hr
      have HSI := hide fun (i : Nat) => samePairs_yes q.addr r.addr q.ps.length q.cap r.ps.length r.cap B B' (fl q.ps) (fl r.ps) ((w.drewN z).drewN i) ((hX.layer hq).1.2.drewN i) ((hY.layer hr).1.2.drewN i) (HS.out q (List.mem_of_getElem? hq)) (by rw [← her]; exact HS.out q (List.mem_of_getElem? hq)) (by rw [her])
      unfold Lq.sl at hc0 hd0
      have k0 : (0 : Int) ≤ (k : Int) := by omega
      have k1 : (k : Int) < (n : Int) := by omega
      clear hq hr hX hY her
      generalize hw : w.drewN z = wz at hc0 hd0 HSI ⊢
      go_wp2_with fail
      go_quiet ((go_at_call 58; exact quiet_on3 (HSI.out _)))
      go_wp2
      go_roundw
      case rel => exact ⟨k + 1, _, by omega, by go_num, by rw [← hw]; first | exact World.drewN_drewN _ _ _ | rfl⟩
      case measure => simp [intOf]; omega
    · obtain rfl : k = n := by omega
      go_wp2
      go_ret
      exact ⟨rfl, z, rfl⟩
/-- two that are equal, as a call between worlds -/
theorem same_layers {W : World} {A A' : Option Addr} {n m c d B B' : Nat} {qs rs : List Lq} (hx : LyI W B A n qs) (hy : LyI W B' A' m rs) (hs : ∀ q ∈ qs, q.ps.length ≤ 1000000000) (hn : n ≤ 1000000000) (he : lys qs = lys rs) :
    m = n ∧ Calls Try.prog 21 #[.slice A n c, .slice A' n d] W fun e w' => e = .returned (.bool true) ∧ ∃ z, w' = W.drewN z := by
  have e : m = n := by
    have h := congrArg List.length he
    rw [lys_length, lys_length, hx.1, hy.1] at h
    exact h.symm
  subst e
  exact ⟨rfl, sameLy_yes A A' m c d B B' qs rs W hx hy hs hn he⟩
end Go.Proofs.Ytapfbkjgmfmepaa
