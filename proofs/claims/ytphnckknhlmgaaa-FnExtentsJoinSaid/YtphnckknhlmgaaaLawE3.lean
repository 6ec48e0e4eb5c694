/-
  The walk of FnExtentsJoin.
-/
import Derived.Test.YtphnckknhlmgaaaSameE
import Derived.Test.YtphnckknhlmgaaaDrawE2
import Derived.Test.YtphnckknhlmgaaaImpE
import Derived.Test.YtphnckknhlmgaaaHasE
import Derived.Test.YtphnckknhlmgaaaInts
namespace Go.Proofs.Ytphnckknhlmgaaa
open Go.RowKit
set_option linter.unusedVariables false
set_option maxRecDepth 100000

theorem joinE_len (a b : Exs) : (joinE a b).length ≤ 12 := by
  unfold joinE
  split
  · exact runsP_len _ 12
  · exact Nat.zero_le _
theorem lessE_len (a b : Exs) : (lessE a b).length ≤ 12 := by
  unfold lessE
  split
  · exact runsP_len _ 12
  · exact Nat.zero_le _

set_option maxHeartbeats 6400000 in
theorem extentsJoin_walk (A : Option Addr) (n c : Nat) (bs : Nat → Int) (w : World) (hb : Bytes w w.heap.size A n bs) (hn : n ≤ c) (hc : c ≤ maxLen) :
    Calls Try.prog 5 #[.slice A n c] w fun e w' => e = .returned (.bool true) ∧ Below w.heap.size w w' := by
  by_cases hbig : 1048576 < n
  · go_enter Try.func5, Try.ntmps5
    go_wp2
    go_ret
    exact ⟨rfl, Below.refl _ _⟩
  · go_enter Try.func5, Try.ntmps5
    go_wp2_with fail
    refine (drawEJ_any A n c bs _ hb hn hc).mono ?_
    rintro e w1 ⟨A1, m, c1, es, A1', m', c1', fs, rfl, hd, hd'⟩
    have HB1 := hide hd.below
    have hm := hd.num
    have hm' := hd'.num
    have hs1 := HB1.out.size
    have HP1 := hide (implJoin A1 A1' m c1 m' c1' _ _ es fs w1 hd.exi (Nat.le_refl _) (by omega) hd'.exi (Nat.le_refl _) (by omega) hd.rng hd'.rng)
    have HP2 := hide fun (W : World) (h : Below w1.heap.size w1 W) => specJoin A1 A1' m c1 m' c1' _ _ es fs W (hd.exi.below h (Nat.le_refl _)) h.size (by omega) (hd'.exi.below h (Nat.le_refl _)) h.size (by omega)
    have HI := hide hd.exi
    have HI' := hide hd'.exi
    clear hb hd hd'
    obtain ⟨V, hV⟩ : ∃ V : Bool, bothV es fs = V := ⟨_, rfl⟩
    obtain ⟨D, hD⟩ : ∃ D : Exs, joinE es fs = D := ⟨_, rfl⟩
    rw [hV, hD] at HP1 HP2
    have HV := hide hV
    have HD := hide hD
    have HDL := hide (show D.length ≤ 12 by rw [← hD]; exact joinE_len es fs)
    clear hV hD
    go_wp2_with fail
    refine HP1.out.mono ?_
    rintro e w2 ⟨A2, m2, c2, rfl, ho2, hB2⟩
    have HO2 := hide ho2
    have HW2 := hide hB2
    have hm2 : m2 ≤ 12 := by have h1 := ho2.1; have h2 := HDL.out; omega
    clear ho2 hB2 HP1
    go_wp2_with fail
    refine (HP2.out _ HW2.out).mono ?_
    rintro e w3 ⟨A3, m3, c3, rfl, ho3, hB3⟩
    have HW3 := hide (HW2.out.trans (hB3.mono HW2.out.size))
    have HPR := hide (pair_sameE HO2.out ho3 hB3 (by omega))
    have HX2 := hide (HO2.out.exi.below hB3 (Nat.le_refl _))
    have HB23 := hide hB3
    have hs23 := hB3.size
    obtain rfl : m3 = m2 := HPR.out.1
    clear ho3 hB3 HP2
    rcases V with _ | _
    all_goals
      go_wp2_with fail
      refine (HPR.out.2 _ (Below.refl _ _)).mono ?_
      rintro e w4 ⟨rfl, hB4⟩
      have HW4 := hide (HW3.out.trans (hB4.mono HW3.out.size))
      have HW34 := hide hB4
      have HX4 := hide (HX2.out.below hB4 hs23)
      have hs4 := hB4.size
      have hs14 := HW4.out.size
      have HEND := hide fun (W : World) (h : Below w4.heap.size w4 W) => HB1.out.trans ((HW4.out.trans (h.mono HW4.out.size)).mono hs1)
      have hs24 : w2.heap.size ≤ w4.heap.size := Nat.le_trans hs23 hs4
      clear hB4
      have HI4 := hide (HI.out.below HW4.out (Nat.le_refl _))
      have HI4' := hide (HI'.out.below HW4.out (Nat.le_refl _))
    · clear HI4 HI4' HX4
      go_wp2_with fail
      refine (HPR.out.2 _ HW34.out).mono ?_
      rintro e w5 ⟨rfl, hB5⟩
      have HB5 := hide (HEND.out _ hB5)
      clear hB5
      go_wp2
      go_ret
      exact ⟨rfl, HB5.out⟩
    · have hva : exV es = true := by have h := HV.out; unfold bothV at h; rw [Bool.and_eq_true] at h; exact h.1
      have hvb : exV fs = true := by have h := HV.out; unfold bothV at h; rw [Bool.and_eq_true] at h; exact h.2
      have hvd : exV D = true := by rw [← HD.out]; exact join_val es fs
      have HSET := hide (fun i => join_in HV.out i)
      rw [HD.out] at HSET
      obtain ⟨q1, q2⟩ := join_comm HV.out
      rw [HD.out] at q1
      have HP5 := hide (implJoin A1' A1 m' c1' m c1 _ _ fs es w4 HI4'.out hs14 (by omega) HI4.out hs14 (by omega) (Rg.val hvb) (Rg.val hva))
      rw [q1, q2] at HP5
      clear q1 q2
      go_wp2_with fail
      refine HP5.out.mono ?_
      rintro e w5 ⟨A5, m5, c5, rfl, ho5, hB5⟩
      have HBx := hide hB5
      have hs45 := hB5.size
      have HPS := hide (pair_readE (c := c2) ho5 (HX4.out.below hB5 hs24) (Nat.le_trans hs24 hB5.size) (Below.refl _ _) (by omega))
      obtain rfl : m3 = m5 := HPS.out.1.symm
      have HB58 := hide fun (W : World) (h : Below w5.heap.size w5 W) => HPS.out.2 W h
      clear ho5 hB5 HP5
      go_wp2_with fail
      refine (implBlocks A2 m3 c2 _ D _ (HX4.out.below HBx.out hs24) (Nat.le_trans hs24 HBx.out.size) (by omega) (Rg.val hvd)).mono ?_
      rintro e w6 ⟨A6, m6, c6, rfl, ho6, hB6⟩
      have HB6 := hide (HBx.out.trans (hB6.mono HBx.out.size))
      have HB65 := hide hB6
      have HO6 := hide ho6.ints
      have hm6 : m6 ≤ maxLen := Nat.le_trans ho6.cap.1 ho6.cap.2
      clear ho6 hB6
      go_wp2_with fail
      refine (implBlocks A1 m c1 _ es _ (HI4.out.below HB6.out hs14) (Nat.le_trans hs14 HB6.out.size) (by omega) (Rg.val hva)).mono ?_
      rintro e w7 ⟨A7, m7, c7, rfl, ho7, hB7⟩
      have HB7 := hide (HB6.out.trans (hB7.mono HB6.out.size))
      have HB75 := hide (HB65.out.trans (hB7.mono HB65.out.size))
      have HO67 := hide (HO6.out.below hB7 (Nat.le_refl _))
      have HO7 := hide ho7.ints
      have hs67 := hB7.size
      have hm7 : m7 ≤ maxLen := Nat.le_trans ho7.cap.1 ho7.cap.2
      clear ho7 hB7 HO6
      go_wp2_with fail
      refine (implBlocks A1' m' c1' _ fs _ (HI4'.out.below HB7.out hs14) (Nat.le_trans hs14 HB7.out.size) (by omega) (Rg.val hvb)).mono ?_
      rintro e w8 ⟨A8, m8, c8, rfl, ho8, hB8⟩
      have HB8 := hide (HB7.out.trans (hB8.mono HB7.out.size))
      have HB85 := hide (HB75.out.trans (hB8.mono HB75.out.size))
      have HO68 := hide (HO67.out.below hB8 hs67)
      have HO78 := hide (HO7.out.below hB8 (Nat.le_refl _))
      have HO8 := hide ho8.ints
      have hm8 : m8 ≤ maxLen := Nat.le_trans ho8.cap.1 ho8.cap.2
      clear ho8 hB8 HO67 HO7
      have H6 := hide fun (x : Int) => (has_blk hvd x) ▸ hasInt_any A6 m6 c6 _ x (blkE D) w8 HO68.out hm6
      have H7 := hide fun (x : Int) => (has_blk hva x) ▸ hasInt_any A7 m7 c7 _ x (blkE es) w8 HO78.out hm7
      have H8 := hide fun (x : Int) => (has_blk hvb x) ▸ hasInt_any A8 m8 c8 _ x (blkE fs) w8 HO8.out hm8
      have HVD := hide hvd
      clear HO68 HO78 HO8 hva hvb hvd
      go_wp2
      go_loop [14] (fun i => ∃ (j : Nat), j ≤ 12 ∧ i = .int .i64 j) (fun i => 12 - (intOf i).toNat)
      case atStart => exact ⟨0, by omega, rfl⟩
      case round =>
        obtain ⟨j, hj, rfl⟩ := hrel
        by_cases hlt : j < 12
        · have k1 : (j : Int) < 12 := by omega
          have K6 := hide (H6.out j)
          have K7 := hide (H7.out j)
          have K8 := hide (H8.out j)
          rw [HSET.out] at K6
          generalize inE es (j : Int) = x at K6 K7
          generalize inE fs (j : Int) = y at K6 K8
          rcases x with _ | _
          · skip
            rcases y with _ | _
            all_goals
              go_wp2_with fail
              refine K6.out.mono ?_
              rintro e w9 ⟨rfl, rfl⟩
              go_wp2_with fail
              refine K7.out.mono ?_
              rintro e w9 ⟨rfl, rfl⟩
              go_wp2_with fail
              refine K8.out.mono ?_
              rintro e w9 ⟨rfl, rfl⟩
              go_wp2
              go_round
              case rel => exact ⟨j + 1, by omega, by go_num⟩
              case measure => simp [intOf]; omega
          · skip
            go_wp2_with fail
            refine K6.out.mono ?_
            rintro e w9 ⟨rfl, rfl⟩
            go_wp2_with fail
            refine K7.out.mono ?_
            rintro e w9 ⟨rfl, rfl⟩
            go_wp2
            go_round
            case rel => exact ⟨j + 1, by omega, by go_num⟩
            case measure => simp [intOf]; omega
        · obtain rfl : j = 12 := by omega
          go_wp2_with fail
          refine (HPS.out.2 _ HB85.out).mono ?_
          rintro e w9 ⟨rfl, hb9⟩
          have HB9 := hide (HB8.out.trans (hb9.mono HB8.out.size))
          clear hb9
          have HEV := hide (HVD.out ▸ implEV A2 m3 c2 _ D _ (HX4.out.below HB9.out hs24) (Nat.le_trans hs24 HB9.out.size) (by omega) (Rg.val HVD.out))
          go_wp2_with fail
          refine HEV.out.mono ?_
          rintro e w10 ⟨rfl, hb10⟩
          have HB10 := hide (HEND.out _ (HB9.out.trans (hb10.mono HB9.out.size)))
          clear hb10
          go_wp2
          go_ret
          exact ⟨rfl, HB10.out⟩
end Go.Proofs.Ytphnckknhlmgaaa
