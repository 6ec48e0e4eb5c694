/-
  laws.sameModel.
-/
import Derived.Test.YtiopbgenkalfaaaMods
import Derived.Test.YtiopbgenkalfaaaInts
import Derived.Test.YtiopbgenkalfaaaQo
import Derived.Deep.DeepCutAuto
import Derived.Deep.CutBlock
namespace Go.Proofs.Ytiopbgenkalfaaa
open Go.RowKit
set_option linter.unusedVariables false
set_option maxRecDepth 100000

set_option maxHeartbeats 1600000 in
theorem sameMod_yes (q r : Mq) (B B' : Nat) (w : World) (hq : MdI w B q) (hr : MdI w B' r) (hB : B ≤ w.heap.size) (hB' : B' ≤ w.heap.size) (hx : q.xs = r.xs) (hv : vsN q.qs = vsN r.qs) :
    Calls Try.prog 13 #[.agg #[.slice q.A q.n q.c, .slice q.P q.m q.d], .agg #[.slice r.A r.n r.c, .slice r.P r.m r.d]] w fun e w' => e = .returned (.bool true) ∧ Below w.heap.size w w' := by
  obtain ⟨W, hW⟩ : ∃ W, (w.alloc (.cells #[.slice q.A q.n q.c, .slice q.P q.m q.d] 27)).alloc (.cells #[.slice r.A r.n r.c, .slice r.P r.m r.d] 27) = W := ⟨_, rfl⟩
  have HK : Hid (Kp w W [(w.heap.size + 1, 27, #[.slice r.A r.n r.c, .slice r.P r.m r.d]), (w.heap.size, 27, #[.slice q.A q.n q.c, .slice q.P q.m q.d])]) := by
    rw [← hW]
    exact ((Kp.refl w).push _ _).pushN _ (by simp) _ _
  have HQ := hide (hq.below HK.out.below hB)
  have HR := hide (hr.below HK.out.below hB')
  have hqn : q.n ≤ maxLen := by have := hq.nc; omega
  have hrn : r.n ≤ maxLen := by have := hr.nc; omega
  have hqm : q.m ≤ maxLen := by have := hq.md; omega
  have hmm : q.m = r.m := by
    have h := congrArg List.length hv
    rw [vsN_length, vsN_length, hq.past.1, hr.past.1] at h
    exact h
  have HS := hide (sameInts_yes q.A r.A q.n q.c r.n r.c B B' q.xs r.xs W HQ.out.now HR.out.now hqn hrn hx)
  have HV := hide hv
  unfold maxLen at hqm
  obtain ⟨⟨c0, c1⟩, _, _⟩ := HK.out.cells2
  obtain ⟨⟨d0, d1⟩, _, _⟩ := HK.out.tl.cells2
  obtain ⟨m, hm⟩ : ∃ m, r.m = m := ⟨_, rfl⟩
  rw [hm] at c1 hmm
  rw [hmm] at d1 hqm
  have HM1 := hide hmm
  have HM2 := hide hm
  clear hq hr hx hv hqn hrn hm hmm
  go_enter Try.func13, Try.ntmps13
  go_upto_region 1 with (fail)
  clear hW
  go_wp2_with fail
  refine HS.out.mono ?_
  rintro e w1 ⟨rfl, z0, rfl⟩
  go_wp2_with fail
  go_loopw [5] (fun i wr => ∃ (k z : Nat), k ≤ m ∧ i = .int .i64 k ∧ wr = W.drewN z) (fun i _ => m - (intOf i).toNat)
  case atStart => exact ⟨0, z0, Nat.zero_le _, rfl, rfl⟩
  case round =>
    obtain ⟨k, z, hk, rfl, rfl⟩ := hrel
    by_cases hlt : k < m
    · obtain ⟨a, ha⟩ : ∃ x, q.qs[k]? = some x := ⟨_, List.getElem?_eq_getElem (by rw [HQ.out.past.1, HM1.out]; exact hlt)⟩
      obtain ⟨b, hb⟩ : ∃ x, r.qs[k]? = some x := ⟨_, List.getElem?_eq_getElem (by rw [HR.out.past.1, HM2.out]; exact hlt)⟩
      have her : a.ps = b.ps := by
        have h1 := vsN_get ha
        have h2 := vsN_get hb
        rw [HV.out, h2] at h1
        injection h1 with h1
        exact h1.symm
      have hX := HQ.out.past.drewN z
      have hY := HR.out.past.drewN z
      obtain ⟨ad, e1, _, hc0⟩ := hX.at_ ha
      obtain ⟨ad', e2, _, hd0⟩ := hY.at_ hb
      have hla := (hX.row_ ha).2
      have hlb := (hY.row_ hb).2
      have HSI := hide fun (i : Nat) => quiet_on3 (sameInts_yes a.addr b.addr a.ps.length a.cap b.ps.length b.cap B B' a.ps b.ps ((W.drewN z).drewN i) ((hX.row_ ha).1.drewN i) ((hY.row_ hb).1.drewN i) (by omega) (by omega) her)
      rw [e1] at d1
      rw [e2] at c1
      unfold Nq.sl at hc0 hd0
      have k0 : (0 : Int) ≤ (k : Int) := by omega
      have k1 : (k : Int) < (m : Int) := by omega
      have x0 : (W.drewN z).cell? ⟨w.heap.size, 1, none⟩ = some (.slice (some ad) m q.d) := d1
      have x1 : (W.drewN z).cell? ⟨w.heap.size + 1, 1, none⟩ = some (.slice (some ad') m r.d) := c1
      clear ha hb hX hY her e1 e2 hla hlb c0 c1 d0 d1
      generalize hw : W.drewN z = wz at hc0 hd0 HSI x0 x1 ⊢
      go_wp2_with fail
      go_quiet ((go_at_call 14; exact HSI.out _))
      go_wp2
      go_roundw
      case rel => exact ⟨k + 1, _, by omega, by go_num, by rw [← hw]; first | exact World.drewN_drewN _ _ _ | rfl⟩
      case measure => simp [intOf]; omega
    · obtain rfl : k = m := by omega
      go_wp2
      go_ret
      exact ⟨rfl, below_drewN HK.out.below z⟩
end Go.Proofs.Ytiopbgenkalfaaa
