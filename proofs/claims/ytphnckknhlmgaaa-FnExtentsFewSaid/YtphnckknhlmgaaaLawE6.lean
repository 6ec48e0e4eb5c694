/-
  The walk of FnExtentsFew.
-/
import Derived.Test.YtphnckknhlmgaaaSameE
import Derived.Test.YtphnckknhlmgaaaDrawE2
import Derived.Test.YtphnckknhlmgaaaImpE
import Derived.Test.YtphnckknhlmgaaaHasE
import Derived.Test.YtphnckknhlmgaaaInts
namespace Go.Proofs.Ytphnckknhlmgaaa
open Go.RowKit
set_option linter.unusedVariables false
set_option maxRecDepth 100000

theorem joinE_len (a b : Exs) : (joinE a b).length ≤ 12 := by
  unfold joinE
  split
  · exact runsP_len _ 12
  · exact Nat.zero_le _
theorem lessE_len (a b : Exs) : (lessE a b).length ≤ 12 := by
  unfold lessE
  split
  · exact runsP_len _ 12
  · exact Nat.zero_le _

set_option maxHeartbeats 6400000 in
theorem extentsFew_walk (A : Option Addr) (n c : Nat) (bs : Nat → Int) (w : World) (hb : Bytes w w.heap.size A n bs) (hn : n ≤ c) (hc : c ≤ maxLen) :
    Calls Try.prog 8 #[.slice A n c] w fun e w' => e = .returned (.bool true) ∧ Below w.heap.size w w' := by
  by_cases hbig : 1048576 < n
  · go_enter Try.func8, Try.ntmps8
    go_wp2
    go_ret
    exact ⟨rfl, Below.refl _ _⟩
  · go_enter Try.func8, Try.ntmps8
    go_wp2_with fail
    refine (drawEJ_any A n c bs _ hb hn hc).mono ?_
    rintro e w1 ⟨A1, m, c1, es, A1', m', c1', fs, rfl, hd, hd'⟩
    have HB1 := hide hd.below
    have hm := hd.num
    have hm' := hd'.num
    have hs1 := HB1.out.size
    have HP1 := hide (implJoin A1 A1' m c1 m' c1' _ _ es fs w1 hd.exi (Nat.le_refl _) (by omega) hd'.exi (Nat.le_refl _) (by omega) hd.rng hd'.rng)
    have HP2 := hide fun (W : World) (h : Below w1.heap.size w1 W) => specJoin A1 A1' m c1 m' c1' _ _ es fs W (hd.exi.below h (Nat.le_refl _)) h.size (by omega) (hd'.exi.below h (Nat.le_refl _)) h.size (by omega)
    have HI := hide hd.exi
    have HI' := hide hd'.exi
    clear hb hd hd'
    obtain ⟨V, hV⟩ : ∃ V : Bool, bothV es fs = V := ⟨_, rfl⟩
    obtain ⟨D, hD⟩ : ∃ D : Exs, joinE es fs = D := ⟨_, rfl⟩
    rw [hV, hD] at HP1 HP2
    have HV := hide hV
    have HD := hide hD
    have HDL := hide (show D.length ≤ 12 by rw [← hD]; exact joinE_len es fs)
    clear hV hD
    go_wp2_with fail
    refine HP1.out.mono ?_
    rintro e w2 ⟨A2, m2, c2, rfl, ho2, hB2⟩
    have HO2 := hide ho2
    have HW2 := hide hB2
    have hm2 : m2 ≤ 12 := by have h1 := ho2.1; have h2 := HDL.out; omega
    clear ho2 hB2 HP1
    go_wp2_with fail
    refine (HP2.out _ HW2.out).mono ?_
    rintro e w3 ⟨A3, m3, c3, rfl, ho3, hB3⟩
    have HW3 := hide (HW2.out.trans (hB3.mono HW2.out.size))
    have HPR := hide (pair_sameE HO2.out ho3 hB3 (by omega))
    have HX2 := hide (HO2.out.exi.below hB3 (Nat.le_refl _))
    have HB23 := hide hB3
    have hs23 := hB3.size
    obtain rfl : m3 = m2 := HPR.out.1
    clear ho3 hB3 HP2
    rcases V with _ | _
    all_goals
      go_wp2_with fail
      refine (HPR.out.2 _ (Below.refl _ _)).mono ?_
      rintro e w4 ⟨rfl, hB4⟩
      have HW4 := hide (HW3.out.trans (hB4.mono HW3.out.size))
      have HW34 := hide hB4
      have HX4 := hide (HX2.out.below hB4 hs23)
      have hs4 := hB4.size
      have hs14 := HW4.out.size
      have HEND := hide fun (W : World) (h : Below w4.heap.size w4 W) => HB1.out.trans ((HW4.out.trans (h.mono HW4.out.size)).mono hs1)
      have hs24 : w2.heap.size ≤ w4.heap.size := Nat.le_trans hs23 hs4
      clear hB4
      have HI4 := hide (HI.out.below HW4.out (Nat.le_refl _))
      have HI4' := hide (HI'.out.below HW4.out (Nat.le_refl _))
    · clear HI4 HI4' HX4
      go_wp2_with fail
      refine (HPR.out.2 _ HW34.out).mono ?_
      rintro e w5 ⟨rfl, hB5⟩
      have HB5 := hide (HEND.out _ hB5)
      clear hB5
      go_wp2
      go_ret
      exact ⟨rfl, HB5.out⟩
    · have hle : decide ((m3 : Int) ≤ (m : Int) + (m' : Int)) = true := by
        have h1 := join_few HV.out
        rw [HD.out, HO2.out.1, HI.out.1, HI'.out.1] at h1
        exact decide_eq_true (by omega)
      have HE := hide (HEND.out _ (Below.refl _ _))
      go_wp2
      go_ret
      exact ⟨rfl, HE.out⟩
end Go.Proofs.Ytphnckknhlmgaaa
