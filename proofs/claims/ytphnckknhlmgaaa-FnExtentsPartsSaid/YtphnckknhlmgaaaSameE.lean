/-
  The laws' sameExtents: equal extents are told equal.
-/
import Derived.Test.YtphnckknhlmgaaaSpecE4
import Derived.Test.YtphnckknhlmgaaaQo
namespace Go.Proofs.Ytphnckknhlmgaaa
open Go.RowKit
set_option linter.unusedVariables false
set_option maxRecDepth 100000

set_option maxHeartbeats 1600000 in
theorem sameExts_yes (A A' : Option Addr) (n c d B B' : Nat) (es : Exs) (w : World) (hx : ExI w B A n es) (hy : ExI w B' A' n es) (hn : n ≤ 1000000000) :
    Calls Try.prog 13 #[.slice A n c, .slice A' n d] w fun e w' => e = .returned (.bool true) ∧ ∃ z, w' = w.drewN z := by
  have HX := hide hx
  have HY := hide hy
  clear hx hy
  go_enter Try.func13, Try.ntmps13
  go_wp2
  go_loopw [5] (fun i wr => ∃ (k z : Nat), k ≤ n ∧ i = .int .i64 k ∧ wr = w.drewN z) (fun i _ => n - (intOf i).toNat)
  case atStart => exact ⟨0, 0, Nat.zero_le _, rfl, rfl⟩
  case round =>
    obtain ⟨k, z, hk, rfl, rfl⟩ := hrel
    by_cases hlt : k < n
    · obtain ⟨e, he⟩ : ∃ e, es[k]? = some e := ⟨_, List.getElem?_eq_getElem (by rw [HX.out.1]; exact hlt)⟩
      obtain ⟨ad, p, rfl, hp, hb, hc0, hc1⟩ := (HX.out.drewN z).at_ he
      obtain ⟨ad', p', rfl, hp', hb', hd0, hd1⟩ := (HY.out.drewN z).at_ he
      obtain ⟨f, m⟩ := e
      simp only at hc0 hc1 hd0 hd1
      have k0 : (0 : Int) ≤ (k : Int) := by omega
      have k1 : (k : Int) < (n : Int) := by omega
      clear he
      generalize hw : w.drewN z = wz at hc0 hc1 hd0 hd1 ⊢
      go_wp2_with fail
      go_quiet (fail)
      go_wp2
      go_roundw
      case rel => exact ⟨k + 1, _, by omega, by go_num, by rw [← hw]; first | exact World.drewN_drewN _ _ _ | rfl⟩
      case measure => simp [intOf]; omega
    · obtain rfl : k = n := by omega
      go_wp2
      go_ret
      exact ⟨rfl, z, rfl⟩

/-- two lists of extents that are equal, each in memory of its own -/
theorem pair_sameE {w2 w3 : World} {b b' m2 m3 c2 c3 : Nat} {A2 A3 : Option Addr} {D : Exs} (h2 : ExR w2 b A2 m2 c2 D) (h3 : ExR w3 b' A3 m3 c3 D) (hb : Below w2.heap.size w2 w3) (hm : m2 ≤ 1000000000) :
    m3 = m2 ∧ ∀ W, Below w3.heap.size w3 W → Calls Try.prog 13 #[.slice A2 m2 c2, .slice A3 m2 c3] W fun e w' => e = .returned (.bool true) ∧ Below W.heap.size W w' := by
  obtain rfl : m3 = m2 := h3.1.symm.trans h2.1
  refine ⟨rfl, fun W hW => ?_⟩
  have hs := hb.size
  refine (sameExts_yes A2 A3 m3 c2 c3 _ _ D W ((h2.exi.below hb (Nat.le_refl _)).below hW hs) (h3.exi.below hW (Nat.le_refl _)) hm).mono ?_
  rintro e w' ⟨rfl, z, rfl⟩
  exact ⟨rfl, below_drewN (Below.refl _ _) z⟩
/-- .. one of them was read -/
theorem pair_readE {w2 w3 : World} {b n c m2 c2 B : Nat} {A A2 : Option Addr} {D : Exs} (h2 : ExR w2 b A2 m2 c2 D) (h3 : ExI w3 B A n D) (hB : B ≤ w3.heap.size) (hb : Below w2.heap.size w2 w3) (hm : n ≤ 1000000000) :
    m2 = n ∧ ∀ W, Below w3.heap.size w3 W → Calls Try.prog 13 #[.slice A2 n c2, .slice A n c] W fun e w' => e = .returned (.bool true) ∧ Below W.heap.size W w' := by
  obtain rfl : m2 = n := h2.1.symm.trans h3.1
  refine ⟨rfl, fun W hW => ?_⟩
  have hs := hb.size
  refine (sameExts_yes A2 A m2 c2 c _ _ D W ((h2.exi.below hb (Nat.le_refl _)).below hW hs) (h3.below hW hB) hm).mono ?_
  rintro e w' ⟨rfl, z, rfl⟩
  exact ⟨rfl, below_drewN (Below.refl _ _) z⟩
end Go.Proofs.Ytphnckknhlmgaaa
