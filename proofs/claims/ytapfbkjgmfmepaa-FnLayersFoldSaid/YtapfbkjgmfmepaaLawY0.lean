/-
  Words that the walks of the laws on layers share.
-/
import Derived.Test.YtapfbkjgmfmepaaLyL
import Derived.Test.YtapfbkjgmfmepaaSameY
import Derived.Test.YtapfbkjgmfmepaaDrawY2
import Derived.Test.YtapfbkjgmfmepaaImpL8
import Derived.Test.YtapfbkjgmfmepaaSpecY4
namespace Go.Proofs.Ytapfbkjgmfmepaa
open Go.RowKit
set_option linter.unusedVariables false
set_option maxRecDepth 100000

theorem lens_of {L : List Ly} {v : Bool} (h1 : v = true → laysV L = true) (h0 : v = false → L = []) : ∀ p ∈ L, p.length ≤ 12 := by
  rcases v with _ | _
  · rw [h0 rfl]; intro p hp; cases hp
  · exact fun p hp => layV_len ((laysV_iff.1 (h1 rfl)).1 p hp)
theorem lens_count {L : List Ly} {v : Bool} (h1 : v = true → laysV L = true) (h0 : v = false → L = []) : L.length ≤ 5 := by
  rcases v with _ | _
  · rw [h0 rfl]; exact Nat.zero_le _
  · exact (laysV_iff.1 (h1 rfl)).2.2
theorem lens_qs {qs : List Lq} {L : List Ly} (e : lys qs = L) (h : ∀ p ∈ L, p.length ≤ 12) : ∀ q ∈ qs, q.ps.length ≤ 12 := fun q hq => h _ (by rw [← e]; exact List.mem_map_of_mem hq)
theorem big_qs {qs : List Lq} (h : ∀ q ∈ qs, q.ps.length ≤ 12) : ∀ q ∈ qs, q.ps.length ≤ 1000000000 := fun q hq => Nat.le_trans (h q hq) (by decide)
theorem undrew {w W : World} (z : Nat) : Below W.heap.size W (W.drewN z) := below_drewN (Below.refl _ _) z
/-- two results that are equal, each in memory of its own -/
theorem pair_sameY {w2 w3 : World} {b b' m2 m3 c2 c3 : Nat} {A2 A3 : Option Addr} {qs2 qs3 : List Lq} {L : List Ly} (h2 : OwnL w2 b A2 m2 c2 qs2) (h3 : OwnL w3 b' A3 m3 c3 qs3) (z2 : lys qs2 = L) (z3 : lys qs3 = L) (hL : ∀ p ∈ L, p.length ≤ 12) (hb : Below w2.heap.size w2 w3) (hm : L.length ≤ 5) :
    m3 = m2 ∧ m2 = L.length ∧ ∀ W, Below w3.heap.size w3 W → Calls Try.prog 21 #[.slice A2 m2 c2, .slice A3 m2 c3] W fun e w' => e = .returned (.bool true) ∧ Below W.heap.size W w' := by
  have e2 : m2 = L.length := by rw [← z2, lys_length]; exact h2.len.symm
  have e3 : m3 = L.length := by rw [← z3, lys_length]; exact h3.len.symm
  obtain rfl : m3 = m2 := e3.trans e2.symm
  refine ⟨rfl, e2, fun W hW => ?_⟩
  refine (sameLy_yes A2 A3 m3 c2 c3 _ _ qs2 qs3 W ((h2.lyi.below hb (Nat.le_refl _)).below hW hb.size) (h3.lyi.below hW (Nat.le_refl _)) (big_qs (lens_qs z2 hL)) (by omega) (z2.trans z3.symm)).mono ?_
  rintro e w' ⟨rfl, z, rfl⟩
  exact ⟨rfl, undrew (w := W) z⟩
theorem rdL_at {ls : List Ly} (h : laysV ls = true) {k : Nat} (hk : k < 12) : rdL ls k = readN ls k ls.length := by
  unfold rdL
  rw [h, inB_iff.2 ⟨by omega, by omega⟩]
  rfl
end Go.Proofs.Ytapfbkjgmfmepaa
