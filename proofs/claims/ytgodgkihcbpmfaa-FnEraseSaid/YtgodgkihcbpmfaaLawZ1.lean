/-
  The walk of FnErase.
-/
import Derived.Test.YtgodgkihcbpmfaaSameZ
import Derived.Test.YtgodgkihcbpmfaaDrawZ4
import Derived.Test.YtgodgkihcbpmfaaImpZ5
namespace Go.Proofs.Ytgodgkihcbpmfaa
open Go.RowKit
set_option linter.unusedVariables false
set_option maxRecDepth 100000

set_option maxHeartbeats 6400000 in
theorem erase_walk (A : Option Addr) (n c : Nat) (bs : Nat → Int) (w : World) (hb : Bytes w w.heap.size A n bs) (hn : n ≤ c) (hc : c ≤ maxLen) :
    Calls Try.prog 3 #[.slice A n c] w fun e w' => e = .returned (.bool true) ∧ Below w.heap.size w w' := by
  by_cases hbig : 1048576 < n
  · go_enter Try.func3, Try.ntmps3
    go_wp2
    go_ret
    exact ⟨rfl, Below.refl _ _⟩
  · go_enter Try.func3, Try.ntmps3
    go_wp2_with fail
    refine (drawErase_any A n c bs _ hb hn hc).mono ?_
    rintro e w1 ⟨A1, m, c1, qs, rfl, hz1, hm, hmc, hcm, hl1, hB1⟩
    have HB1 := hide hB1
    have HZ1 := hide hz1
    have hs1 := hB1.size
    have HP1 := hide (implErase A1 m c1 _ qs w1 hz1 (Nat.le_refl _) (by omega))
    have HP2 := hide fun (W : World) (h : Below w1.heap.size w1 W) => specErase A1 m c1 _ qs W (hz1.below h (Nat.le_refl _)) (by omega)
    have HP3 := hide fun (W : World) (h : Below w1.heap.size w1 W) => implDV A1 m c1 _ qs W (hz1.below h (Nat.le_refl _)) h.size (by omega)
    clear hb hB1 hz1 hl1
    generalize devV (zns qs) = v at HP1 HP2 HP3
    obtain ⟨D, hD⟩ : ∃ D : Dev, (if v then List.replicate 4 zone0 else []) = D := ⟨_, rfl⟩
    rw [hD] at HP1 HP2
    have HD := hide hD
    clear hD
    go_wp2_with fail
    refine HP1.out.mono ?_
    rintro e w2 ⟨A2, m2, c2, qs2, rfl, ho2, hz2, hB2⟩
    have HO2 := hide ho2
    have HZ2 := hide hz2
    have HW2 := hide hB2
    clear ho2 hz2 hB2 HP1
    go_wp2_with fail
    refine (HP2.out _ HW2.out).mono ?_
    rintro e w3 ⟨A3, m3, c3, qs3, rfl, ho3, hz3, hB3⟩
    have HW3 := hide (HW2.out.trans (hB3.mono HW2.out.size))
    have HPR := hide (pair_same HO2.out ho3 HZ2.out hz3 hB3)
    have HX2 := hide (HO2.out.zns.below hB3 (Nat.le_refl _))
    have hs23 := hB3.size
    obtain rfl : m3 = m2 := HPR.out.1
    clear ho3 hz3 hB3 HP2
    have HALL := hide (show ∀ q ∈ qs2, q.zn = zone0 by
      intro q hq
      have h : q.zn ∈ D := by rw [← HZ2.out]; exact List.mem_map_of_mem hq
      rw [← HD.out] at h
      split at h
      · exact (List.mem_replicate.1 h).2
      · cases h)
    have hmx := HO2.out.cap
    have hmx' : m3 ≤ 9223372036854775807 := by have h1 := hmx.1; have h2 := hmx.2; unfold maxLen at h2; omega
    clear hmx
    go_wp2_with fail
    refine (HPR.out.2.2 _ (Below.refl _ _)).mono ?_
    rintro e w4 ⟨rfl, hB4⟩
    have HW4 := hide (HW3.out.trans (hB4.mono HW3.out.size))
    have HX4 := hide (HX2.out.below hB4 hs23)
    have hs4 := hB4.size
    clear hB4
    go_wp2
    go_loopw [8] (fun i wr => ∃ (k : Nat), k ≤ m3 ∧ i = .int .i64 k ∧ Hid (Below w4.heap.size w4 wr)) (fun i _ => m3 - (intOf i).toNat)
    case atStart => exact ⟨0, Nat.zero_le _, rfl, Below.refl _ _⟩
    case round =>
      obtain ⟨k, hk, rfl, HB⟩ := hrel
      have hs := HB.out.size
      by_cases hlt : k < m3
      · obtain ⟨q, hq⟩ : ∃ q, qs2[k]? = some q := ⟨_, List.getElem?_eq_getElem (by rw [HX4.out.1]; exact hlt)⟩
        have hX := HX4.out.below HB.out (by omega)
        obtain ⟨ad, p, rfl, hp, hb5, hc0, hc1, hc2⟩ := hX.at_ hq
        obtain ⟨hi, hle, hcm⟩ := hX.words hq
        have hqz := HALL.out q (List.mem_of_getElem? hq)
        clear hq hX
        obtain ⟨ws, sy, fu, qa, qc⟩ := q
        unfold Zq.zn zone0 at hqz
        injection hqz with h1 h2
        injection h2 with h2 h3
        simp only at h1 h2 h3
        subst h1
        subst h2
        subst h3
        simp only [Zq.sl, List.length_nil] at hc0 hc1 hc2 hi hle hcm
        have HSZ := hide fun (W : World) (hW : Below wr.heap.size wr W) => sameZone_yes qa none 0 qc 0 w2.heap.size w2.heap.size 0 false [] W (Ints.nil_ _ _ _) (Ints.nil_ _ _ _) (by have := hW.size; omega) (by have := hW.size; omega) (Nat.zero_le _)
        have k0 : (0 : Int) ≤ (k : Int) := by omega
        have k1 : (k : Int) < (m3 : Int) := by omega
        clear hi hle hcm
        go_wp2_with fail
        refine (HSZ.out _ (Below.refl _ _)).mono ?_
        rintro e w5 ⟨rfl, hB5⟩
        have HB5 := hide (HB.out.trans (hB5.mono hs))
        clear hB5
        go_wp2
        go_roundw
        case rel => exact ⟨k + 1, by omega, by go_num, HB5.out⟩
        case measure => simp [intOf]; omega
      · obtain rfl : k = m3 := by omega
        have HW5 := hide (HW4.out.trans (HB.out.mono HW4.out.size))
        have HEND := hide (HB1.out.trans ((HW4.out.trans (HB.out.mono HW4.out.size)).mono hs1))
        have hs5 := HW5.out.size
        rcases v with _ | _
        · obtain rfl : k = 0 := by have h := HPR.out.2.1; rw [← HD.out] at h; exact h
          go_wp2_with fail
          refine (HP3.out _ HW5.out).mono ?_
          rintro e w6 ⟨rfl, hB6⟩
          have HB6 := hide (HEND.out.trans (hB6.mono (Nat.le_trans hs1 hs5)))
          clear hB6
          go_wp2
          go_ret
          exact ⟨rfl, HB6.out⟩
        · obtain rfl : k = 4 := by have h := HPR.out.2.1; rw [← HD.out] at h; exact h
          go_wp2_with fail
          refine (HP3.out _ HW5.out).mono ?_
          rintro e w6 ⟨rfl, hB6⟩
          have HB6 := hide (HEND.out.trans (hB6.mono (Nat.le_trans hs1 hs5)))
          clear hB6
          go_wp2
          go_ret
          exact ⟨rfl, HB6.out⟩
end Go.Proofs.Ytgodgkihcbpmfaa
