/-
  The laws' sameStore: equal stores are told equal.
-/
import Derived.Test.YteeeioiaogogmaaSpecO2
import Derived.Test.YteeeioiaogogmaaInts
import Derived.Test.YteeeioiaogogmaaQo
namespace Go.Proofs.Yteeeioiaogogmaa
open Go.RowKit
set_option linter.unusedVariables false
set_option maxRecDepth 100000

set_option maxHeartbeats 3200000 in
theorem sameSto_yes (A A' : Option Addr) (n c d B B' : Nat) (qs rs : List Oq) (w : World) (hx : Objs w B A n qs) (hy : Objs w B' A' n rs) (hn : n ≤ maxLen) (h : obs qs = obs rs) :
    Calls Try.prog 14 #[.slice A n c, .slice A' n d] w fun e w' => e = .returned (.bool true) ∧ ∃ z, w' = w.drewN z := by
  have HX := hide hx
  have HY := hide hy
  have HE := hide h
  unfold maxLen at hn
  clear hx hy h
  go_enter Try.func14, Try.ntmps14
  go_wp2
  go_loopw [5] (fun i wr => ∃ (k z : Nat), k ≤ n ∧ i = .int .i64 k ∧ wr = w.drewN z) (fun i _ => n - (intOf i).toNat)
  case atStart => exact ⟨0, 0, Nat.zero_le _, rfl, rfl⟩
  case round =>
    obtain ⟨k, z, hk, rfl, rfl⟩ := hrel
    by_cases hlt : k < n
    · obtain ⟨q, hq⟩ : ∃ q, qs[k]? = some q := ⟨_, List.getElem?_eq_getElem (by rw [HX.out.1]; exact hlt)⟩
      obtain ⟨r, hr⟩ : ∃ r, rs[k]? = some r := ⟨_, List.getElem?_eq_getElem (by rw [HY.out.1]; exact hlt)⟩
      have her : r.ob = q.ob := by
        have h1 := obs_get hq
        have h2 := obs_get hr
        rw [HE.out, h2] at h1
        injection h1
      have hX := HX.out.drewN z
      have hY := HY.out.drewN z
      obtain ⟨ad, p, rfl, hp, hb, hc0, hc1⟩ := hX.at_ hq
      obtain ⟨ad', p', rfl, hp', hb', hd0, hd1⟩ := hY.at_ hr
      obtain ⟨hi, hle, hcm, hnl⟩ := hX.words hq
      obtain ⟨hi', hle', hcm', hnl'⟩ := hY.words hr
      clear hq hr hX hY hnl hnl'
      obtain ⟨id, ws, qa, qc⟩ := q
      obtain ⟨id', ws', ra, rc⟩ := r
      unfold Oq.ob at her
      injection her with h1 h2
      subst h1
      subst h2
      simp only [Oq.sl] at hc0 hc1 hi hle hcm hd0 hd1 hi' hle' hcm'
      generalize ws'.length = m at hc1 hi hle hd1 hi' hle'
      have HSI := hide fun (i : Nat) => sameInts_yes qa ra m qc m rc B B' ws' ws' ((w.drewN z).drewN i) (hi.drewN i) (hi'.drewN i) (by omega) (by omega) rfl
      have k0 : (0 : Int) ≤ (k : Int) := by omega
      have k1 : (k : Int) < (n : Int) := by omega
      clear hi hi' hle hle' hcm hcm'
      generalize hw : w.drewN z = wz at hc0 hc1 hd0 hd1 HSI ⊢
      go_wp2_with fail
      go_quiet ((go_at_call 23; exact quiet_on3 (HSI.out _)))
      go_wp2
      go_roundw
      case rel => exact ⟨k + 1, _, by omega, by go_num, by rw [← hw]; first | exact World.drewN_drewN _ _ _ | rfl⟩
      case measure => simp [intOf]; omega
    · obtain rfl : k = n := by omega
      go_wp2
      go_ret
      exact ⟨rfl, z, rfl⟩

/-- two stores that are equal, each in memory of its own -/
theorem pair_same {w2 w3 : World} {b b' m2 m3 c2 c3 : Nat} {A2 A3 : Option Addr} {qs2 qs3 : List Oq} {D : Sto} (h2 : OwnO w2 b A2 m2 c2 qs2) (h3 : OwnO w3 b' A3 m3 c3 qs3) (z2 : obs qs2 = D) (z3 : obs qs3 = D) (hb : Below w2.heap.size w2 w3) :
    m3 = m2 ∧ m2 = D.length ∧ ∀ W, Below w3.heap.size w3 W → Calls Try.prog 14 #[.slice A2 m2 c2, .slice A3 m2 c3] W fun e w' => e = .returned (.bool true) ∧ Below W.heap.size W w' := by
  have e2 : m2 = D.length := by rw [← z2, obs_length]; exact h2.len.symm
  have e3 : m3 = D.length := by rw [← z3, obs_length]; exact h3.len.symm
  have e : m3 = m2 := e3.trans e2.symm
  subst e
  refine ⟨rfl, e2, fun W hW => ?_⟩
  have hs := hb.size
  refine (sameSto_yes A2 A3 m3 c2 c3 _ _ qs2 qs3 W ((h2.objs.below hb (Nat.le_refl _)).below hW hs) (h3.objs.below hW (Nat.le_refl _)) (Nat.le_trans h3.cap.1 h3.cap.2) (z2.trans z3.symm)).mono ?_
  rintro e w' ⟨rfl, z, rfl⟩
  exact ⟨rfl, below_drewN (Below.refl _ _) z⟩
/-- .. one of them was read -/
theorem pair_read {w2 w3 : World} {b n c m2 c2 : Nat} {A A2 : Option Addr} {qs qs2 : List Oq} (h2 : OwnO w2 b A2 m2 c2 qs2) (h3 : Objs w3 w3.heap.size A n qs) (z : obs qs2 = obs qs) (hb : Below w2.heap.size w2 w3) :
    m2 = n ∧ ∀ W, Below w3.heap.size w3 W → Calls Try.prog 14 #[.slice A2 n c2, .slice A n c] W fun e w' => e = .returned (.bool true) ∧ Below W.heap.size W w' := by
  have e2 : m2 = n := by
    have h := congrArg List.length z
    rw [obs_length, obs_length, h2.len, h3.1] at h
    exact h
  subst e2
  refine ⟨rfl, fun W hW => ?_⟩
  have hs := hb.size
  refine (sameSto_yes A2 A m2 c2 c _ _ qs2 qs W ((h2.objs.below hb (Nat.le_refl _)).below hW hs) (h3.below hW (Nat.le_refl _)) (Nat.le_trans h2.cap.1 h2.cap.2) z).mono ?_
  rintro e w' ⟨rfl, z, rfl⟩
  exact ⟨rfl, below_drewN (Below.refl _ _) z⟩
end Go.Proofs.Yteeeioiaogogmaa
