/-
  The walk of FnLayersFold.
-/
import Derived.Test.YtapfbkjgmfmepaaLawY0
import Derived.Test.YtapfbkjgmfmepaaImpL10
import Derived.Test.YtapfbkjgmfmepaaSpecY5
namespace Go.Proofs.Ytapfbkjgmfmepaa
open Go.RowKit
set_option linter.unusedVariables false
set_option maxRecDepth 100000

theorem fo_result (ls : List Ly) (a : Int) : (foV ls a = true → laysV (foL ls a) = true) ∧ (foV ls a = false → foL ls a = []) :=
  ⟨fun h => (fo_valid h).1, fun h => by unfold foL; rw [h]; rfl⟩

set_option maxHeartbeats 6400000 in
theorem layersFold_walk (A : Option Addr) (n c : Nat) (bs : Nat → Int) (w : World) (hb : Bytes w w.heap.size A n bs) (hn : n ≤ c) (hc : c ≤ maxLen) :
    Calls Try.prog 7 #[.slice A n c] w fun e w' => e = .returned (.bool true) ∧ Below w.heap.size w w' := by
  by_cases hbig : 1048576 < n
  · go_enter Try.func7, Try.ntmps7
    go_wp2
    go_ret
    exact ⟨rfl, Below.refl _ _⟩
  · go_enter Try.func7, Try.ntmps7
    go_wp2_with fail
    refine (drawLyF_any A n c bs _ hb hn hc).mono ?_
    rintro e w1 ⟨A1, m, c1, qs, b, rfl, hd⟩
    have HD := hide hd
    have hm := hd.num
    have hl := hd.lyi.1
    have hs1 := hd.below.size
    have HP1 := hide (implFold A1 m c1 _ qs b w1 hd.lyi (Nat.le_refl _) (big_qs hd.len) (by omega))
    have HP2 := hide fun (W : World) (h : Below w1.heap.size w1 W) => specFold A1 m c1 _ qs b W (hd.lyi.below h (Nat.le_refl _)) h.size (big_qs hd.len) (by omega) hd.nc hd.cm
    clear hb hd
    obtain ⟨r1, r0⟩ := fo_result (lys qs) b
    obtain ⟨V, hV⟩ : ∃ V : Bool, foV (lys qs) b = V := ⟨_, rfl⟩
    obtain ⟨L, hL⟩ : ∃ L : List Ly, foL (lys qs) b = L := ⟨_, rfl⟩
    rw [hV, hL] at HP1 HP2
    rw [hV, hL] at r1 r0
    have HV := hide hV
    have HL := hide hL
    have HLEN := hide (lens_of r1 r0)
    have HLC := hide (lens_count r1 r0)
    have HLV := hide r1
    clear hV hL r1 r0
    go_wp2_with fail
    refine HP1.out.mono ?_
    rintro e w2 ⟨A2, m2, c2, qs2, rfl, ho2, he2, hB2⟩
    have HO2 := hide ho2
    have HE2 := hide he2
    have HW2 := hide hB2
    clear ho2 he2 hB2 HP1
    go_wp2_with fail
    refine (HP2.out _ HW2.out).mono ?_
    rintro e w3 ⟨A3, m3, c3, qs3, rfl, ho3, he3, hB3⟩
    have HW3 := hide (HW2.out.trans (hB3.mono HW2.out.size))
    have HPR := hide (pair_sameY HO2.out ho3 HE2.out he3 HLEN.out hB3 HLC.out)
    have HX2 := hide (HO2.out.lyi.below hB3 (Nat.le_refl _))
    have hs23 := hB3.size
    obtain rfl : m3 = m2 := HPR.out.1
    have HM2 := hide HPR.out.2.1
    have hm25 : m3 ≤ 5 := by have h1 := HLC.out; have h2 := HM2.out; omega
    clear ho3 he3 hB3 HP2
    rcases V with _ | _
    all_goals
      go_wp2_with fail
      refine (HPR.out.2.2 _ (Below.refl _ _)).mono ?_
      rintro e w4 ⟨rfl, hB4⟩
      have HW4 := hide (HW3.out.trans (hB4.mono HW3.out.size))
      have HW34 := hide hB4
      have HX4 := hide (HX2.out.below hB4 hs23)
      have hs4 := hB4.size
      have hs14 := HW4.out.size
      have HEND := hide fun (W : World) (h : Below w4.heap.size w4 W) => HD.out.below.trans ((HW4.out.trans (h.mono HW4.out.size)).mono hs1)
      have hs24 : w2.heap.size ≤ w4.heap.size := Nat.le_trans hs23 hs4
      clear hB4
      have HI4 := hide (HD.out.lyi.below HW4.out (Nat.le_refl _))
    · go_wp2_with fail
      refine (HPR.out.2.2 _ HW34.out).mono ?_
      rintro e w5 ⟨rfl, hB5⟩
      have HB5 := hide (HEND.out _ hB5)
      clear hB5
      go_wp2
      go_ret
      exact ⟨rfl, HB5.out⟩
    · obtain ⟨v1, v2⟩ := fo_valid HV.out
      obtain ⟨kb, hkb, hk2, hk5, hlv, _⟩ := fo_parts HV.out
      have hll : (lys qs).length = m := by rw [lys_length, hl]
      have hml : m3 + 1 = m := by rw [HM2.out, ← HL.out, v2, hll]
      have HR1 := hide fun (W : World) (h : Below w4.heap.size w4 W) (k : Nat) => implRead A2 m3 c2 _ qs2 (k : Int) W (HX4.out.below h hs24) (Nat.le_trans hs24 h.size) (big_qs (lens_qs HE2.out HLEN.out)) (by omega)
      have HR2 := hide fun (W : World) (h : Below w4.heap.size w4 W) (k : Nat) => implRead A1 m c1 _ qs (k : Int) W (HI4.out.below h hs14) (Nat.le_trans hs14 h.size) (big_qs HD.out.len) (by omega)
      have HRR := hide fun (k : Nat) (hk : k < 12) => (show rdL (lys qs2) k = rdL (lys qs) k from by
        rw [HE2.out, ← HL.out, rdL_at v1 hk, rdL_at hlv hk]
        have h := HV.out
        rw [hkb] at h ⊢
        exact fo_read h hk)
      have HVL := hide fun (W : World) (h : Below w4.heap.size w4 W) => implLayers A2 m3 c2 _ qs2 W (HX4.out.below h hs24) (Nat.le_trans hs24 h.size) (big_qs (lens_qs HE2.out HLEN.out)) (by omega)
      rw [HE2.out, ← HL.out, v1] at HVL
      have wm : IntKind.i64.wrap ((m : Int) - 1) = (m : Int) - 1 := IntWalk.i64_in _ (by omega)
      have hcmp : ((m3 : Int) == (m : Int) - 1) = true := by rw [← hml]; simp
      clear v1 v2 hll hml hkb hk2 hk5 hlv
      go_wp2
      go_loopw [9] (fun i wr => ∃ k : Nat, k ≤ 12 ∧ i = .int .i64 k ∧ Hid (Below w4.heap.size w4 wr)) (fun i _ => 12 - (intOf i).toNat)
      case atStart => exact ⟨0, by omega, rfl, Below.refl _ _⟩
      case round =>
        obtain ⟨k, hk, rfl, HB⟩ := hrel
        by_cases hlt : k < 12
        · have k1 : (k : Int) < 12 := by omega
          have hrr := HRR.out k hlt
          have HC1 := hide (HR1.out wr HB.out k)
          have HC2 := hide fun (W : World) (h : Below w4.heap.size w4 W) => HR2.out W h k
          rw [hrr] at HC1
          generalize rdL (lys qs) k = v at HC1 HC2
          clear hrr
          go_wp2_with fail
          refine HC1.out.mono ?_
          rintro e u1 ⟨rfl, hu1⟩
          have HU1 := hide (HB.out.trans (hu1.mono HB.out.size))
          clear hu1
          go_wp2_with fail
          refine (HC2.out _ HU1.out).mono ?_
          rintro e u2 ⟨rfl, hu2⟩
          have HU2 := hide (HU1.out.trans (hu2.mono HU1.out.size))
          clear hu2
          go_wp2
          go_roundw
          case rel => exact ⟨k + 1, by omega, by go_num, HU2.out⟩
          case measure => simp [intOf]; omega
        · obtain rfl : k = 12 := by omega
          go_wp2_with fail
          refine (HVL.out wr HB.out).mono ?_
          rintro e u1 ⟨rfl, hu1⟩
          have HU1 := hide (HEND.out _ (HB.out.trans (hu1.mono HB.out.size)))
          clear hu1
          go_wp2
          go_ret
          exact ⟨rfl, HU1.out⟩
end Go.Proofs.Ytapfbkjgmfmepaa
