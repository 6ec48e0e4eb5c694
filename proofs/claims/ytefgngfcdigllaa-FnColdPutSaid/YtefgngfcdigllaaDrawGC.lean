/-
  DrawColdGet: a drawn body, the call's own.
-/
import Derived.Test.YtefgngfcdigllaaDrawC
import Derived.Test.YtefgngfcdigllaaSpecC
import Derived.Test.YtefgngfcdigllaaDrawG
namespace Go.Proofs.Ytefgngfcdigllaa
open Go.RowKit
set_option linter.unusedVariables false
set_option maxRecDepth 100000

set_option maxHeartbeats 1600000 in
theorem drawGC_any (A : Option Addr) (n c : Nat) (bs : Nat → Int) (w : World) (hb : Bytes w w.heap.size A n bs) (hn : n ≤ c) (hc : c ≤ maxLen) :
    Calls Try.prog 16 #[.slice A n c] w fun e w' => ∃ A2 k c2 xs, e = .returned (.slice A2 k c2) ∧ Own w' w.heap.size A2 k c2 xs ∧ k ≤ 100 ∧ Below w.heap.size w w' := by
  go_enter Try.func16, Try.ntmps16
  go_wp2_with fail
  refine (open_any A n c bs _ hb hn hc).mono ?_
  rintro e w1 ⟨rfl, hr, hB⟩
  have hz := hB.size
  have HB1 := hide hB
  clear hB hb
  go_wp2_with fail
  refine (draw91C_any _ 0 _ hr (by omega)).mono ?_
  rintro e w2 ⟨A2, k, c2, xs, p', rfl, hown, hk, hrng, hp0, hp1, hr2, hg⟩
  have HB2 := hide (HB1.out.trans (below_of_grown' hg hz (by intro q hq; injection hq with hq; omega)))
  have HR2 := hide hr2
  have HI2 := hide hown.ints
  have hlen := hown.1
  have hs2 := hg.size
  clear hown hg hr hr2
  go_wp2_with fail
  refine (specPutC A2 k c2 _ xs _ HI2.out (Nat.le_refl _) (by omega)).mono ?_
  rintro e w3 ⟨A3, m, c3, rfl, ho3, hb3⟩
  have hrng3 : Rng (-1) 10000 (if validC xs k then xs else []) := by
    split
    · exact hrng
    · simp [Rng]
  have hm : m ≤ 99 := by
    have h1 := ho3.1
    split at h1
    · omega
    · simp at h1; omega
  have HB3 := hide (HB2.out.trans (hb3.mono HB2.out.size))
  have HR3 := hide (HR2.out.below hb3)
  have hs3 := hb3.size
  have HI3 := hide ho3.ints
  generalize (if validC xs k then xs else []) = ys at ho3 hrng3 HI3
  clear ho3 hb3
  go_wp2_with fail
  refine (spoil_any _ p' A3 m c3 _ ys _ HR3.out HI3.out (Nat.le_refl _) hrng3 (by omega) (by omega)).mono ?_
  rintro e w4 ⟨A4, n4, c4, zs, p4, rfl, ho4, hn4, hrng4, _, _, _, hg4⟩
  have hs4 := hg4.size
  have HB4 := hide (HB3.out.trans (below_of_grown' hg4 (B := w.heap.size) (by omega) (by intro q e; injection e with e; omega)))
  have HO4 := hide (ho4.mono (show w.heap.size ≤ w3.heap.size by omega))
  clear ho4 hg4
  go_wp2
  go_ret
  exact ⟨_, _, _, zs, rfl, HO4.out, by omega, HB4.out⟩
end Go.Proofs.Ytefgngfcdigllaa
