/-
  The walk of FnExtentsBack.
-/
import Derived.Test.YtphnckknhlmgaaaSameE
import Derived.Test.YtphnckknhlmgaaaDrawE2
import Derived.Test.YtphnckknhlmgaaaImpE
import Derived.Test.YtphnckknhlmgaaaHasE
import Derived.Test.YtphnckknhlmgaaaInts
namespace Go.Proofs.Ytphnckknhlmgaaa
open Go.RowKit
set_option linter.unusedVariables false
set_option maxRecDepth 100000

theorem blkP_len (p : Int → Bool) : ∀ k : Nat, (blkP p k).length ≤ k := by
  intro k
  induction k with
  | zero => exact Nat.le_refl _
  | succ k ih =>
    rw [blkP_succ]
    rcases p k with _ | _ <;> simp <;> omega
theorem blkE_len (es : Exs) : (blkE es).length ≤ 12 := by
  unfold blkE
  split
  · exact blkP_len _ 12
  · exact Nat.zero_le _

set_option maxHeartbeats 6400000 in
theorem extentsBack_walk (A : Option Addr) (n c : Nat) (bs : Nat → Int) (w : World) (hb : Bytes w w.heap.size A n bs) (hn : n ≤ c) (hc : c ≤ maxLen) :
    Calls Try.prog 4 #[.slice A n c] w fun e w' => e = .returned (.bool true) ∧ Below w.heap.size w w' := by
  by_cases hbig : 1048576 < n
  · go_enter Try.func4, Try.ntmps4
    go_wp2
    go_ret
    exact ⟨rfl, Below.refl _ _⟩
  · go_enter Try.func4, Try.ntmps4
    go_wp2_with fail
    refine (drawEB_any A n c bs _ hb hn hc).mono ?_
    rintro e w1 ⟨A1, m, c1, es, rfl, hd⟩
    have HB1 := hide hd.below
    have hm := hd.num
    have hs1 := HB1.out.size
    have HP1 := hide (implBlocks A1 m c1 _ es w1 hd.exi (Nat.le_refl _) (by omega) hd.rng)
    have HP2 := hide fun (W : World) (h : Below w1.heap.size w1 W) => specBlocks A1 m c1 _ es W (hd.exi.below h (Nat.le_refl _)) h.size (by omega)
    have HI := hide hd.exi
    clear hb hd
    go_wp2_with fail
    refine HP1.out.mono ?_
    rintro e w2 ⟨A2, m2, c2, rfl, ho2, hB2⟩
    have HO2 := hide ho2
    have HW2 := hide hB2
    have hm2 : m2 ≤ maxLen := Nat.le_trans ho2.cap.1 ho2.cap.2
    have hl2 : m2 ≤ 12 := by have h1 := ho2.1; have h2 := blkE_len es; omega
    clear ho2 hB2 HP1
    go_wp2_with fail
    refine (HP2.out _ HW2.out).mono ?_
    rintro e w3 ⟨A3, m3, c3, rfl, ho3, hB3⟩
    have HW3 := hide (HW2.out.trans (hB3.mono HW2.out.size))
    obtain rfl : m3 = m2 := ho3.1.symm.trans HO2.out.1
    have HX2 := hide (HO2.out.ints.below hB3 (Nat.le_refl _))
    have HX3 := hide ho3.ints
    have HI3 := hide (HI.out.below HW3.out (Nat.le_refl _))
    have hs13 := HW3.out.size
    have hs23 := hB3.size
    have HYES := hide fun (z : Nat) => sameInts_yes A2 A3 m3 c2 m3 c3 _ _ (blkE es) (blkE es) (w3.drewN z) (HX2.out.drewN z) (HX3.out.drewN z) hm2 hm2 rfl
    have HBB := hide (HB1.out.trans (HW3.out.mono hs1))
    clear ho3 hB3 HP2
    go_wp2_with fail
    refine (HYES.out 0).mono ?_
    rintro e w4 ⟨rfl, z, rfl⟩
    have HEV := hide (specEV A1 m c1 _ es _ ((HI3.out.drewN 0).drewN z) (by omega))
    rcases hv : exV es with _ | _
    · rw [hv] at HEV
      clear hv
      go_wp2_with fail
      refine HEV.out.mono ?_
      rintro e w5 ⟨rfl, z2, rfl⟩
      go_wp2_with fail
      refine (HYES.out _).mono ?_
      rintro e w6 ⟨rfl, z3, rfl⟩
      go_wp2
      go_ret
      exact ⟨rfl, by first | exact below_drewN (below_drewN HBB.out _) _ | exact below_drewN HBB.out _⟩
    · rw [hv] at HEV
      obtain ⟨v1, v2⟩ := back hv
      have HOF := hide fun (W : World) (h : Below w3.heap.size w3 W) => implOf A2 m3 c2 _ (blkE es) W (HX2.out.below h hs23) (Nat.le_trans hs23 h.size) (by omega)
      rw [v1, v2] at HOF
      clear hv v1 v2
      go_wp2_with fail
      refine HEV.out.mono ?_
      rintro e w5 ⟨rfl, z2, rfl⟩
      go_wp2_with fail
      refine (HOF.out _ (by first | exact below_drewN (below_drewN (below_drewN (Below.refl _ _) _) _) _ | exact below_drewN (below_drewN (Below.refl _ _) _) _ | exact below_drewN (Below.refl _ _) _)).mono ?_
      rintro e w6 ⟨A6, m6, c6, rfl, ho6, hB6⟩
      have HB6 : Hid (Below w3.heap.size w3 w6) := (by first | exact below_drewN (below_drewN (below_drewN (Below.refl _ _) _) _) _ | exact below_drewN (below_drewN (Below.refl _ _) _) _ | exact below_drewN (Below.refl _ _) _ : Below w3.heap.size w3 _).trans hB6
      have HPS := hide (pair_readE (c := c1) ho6 (HI3.out.below HB6.out hs13) (Nat.le_trans hs13 HB6.out.size) (Below.refl _ _) (by omega))
      obtain rfl : m6 = m := HPS.out.1
      clear ho6 hB6
      go_wp2_with fail
      refine (HPS.out.2 _ (Below.refl _ _)).mono ?_
      rintro e w7 ⟨rfl, hb7⟩
      have HB7 := hide (HBB.out.trans ((HB6.out.trans (hb7.mono HB6.out.size)).mono HBB.out.size))
      clear hb7
      go_wp2
      go_ret
      exact ⟨rfl, HB7.out⟩
end Go.Proofs.Ytphnckknhlmgaaa
