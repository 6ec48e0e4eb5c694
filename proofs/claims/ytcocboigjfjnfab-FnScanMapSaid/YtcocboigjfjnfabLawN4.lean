/-
  The walk of FnScanMap.
-/
import Derived.Test.YtcocboigjfjnfabDrawN2
import Derived.Test.YtcocboigjfjnfabG5
import Derived.Test.YtcocboigjfjnfabG2
import Derived.Deep.Cut
import Derived.Deep.RegionHeld3
namespace Go.Proofs.Ytcocboigjfjnfab
open Go.RowKit
set_option linter.unusedVariables false
set_option maxRecDepth 100000

theorem snoc_of {α : Type} {l : List α} {k : Nat} {x : α} (h : l[k]? = some x) (hl : l.length = k + 1) : l = l.take k ++ [x] := by
  have e := List.take_append_drop k l
  rw [List.drop_eq_getElem_cons (by omega), List.drop_eq_nil_of_le (by omega)] at e
  rw [List.getElem?_eq_getElem (by omega)] at h
  injection h with h
  rw [h] at e
  exact e.symm
set_option maxHeartbeats 12800000 in
theorem scanMap_walk (A : Option Addr) (n c : Nat) (bs : Nat → Int) (w : World) (hb : Bytes w w.heap.size A n bs) (hn : n ≤ c) (hc : c ≤ maxLen) :
    Calls Try.prog 3 #[.slice A n c] w fun e w' => e = .returned (.bool true) ∧ Below w.heap.size w w' := by
  by_cases hbig : 1048576 < n
  · go_enter Try.func3, Try.ntmps3
    go_wp2
    go_ret
    exact ⟨rfl, Below.refl _ _⟩
  go_enter Try.func3, Try.ntmps3
  go_wp2_with fail
  refine (drawSM_any A n c bs _ hb hn hc).mono ?_
  rintro e w1 ⟨A1, m, c1, qs, rfl, hd⟩
  have HD := hide hd
  obtain ⟨hd1, hm, hmc, hcm, hl, hB1⟩ := hd
  have hs1 := hB1.size
  have HV := hide fun q (hq : q ∈ qs) => Nat.le_trans (hl q hq) (show 100 ≤ 1000000000 by omega)
  have HF1 := hide hd1
  have HB1 := hide hB1
  have HP1 := hide (implSM A1 m c1 _ qs w1 hd1 (Nat.le_refl _) (by omega) HV.out)
  have HP2 := hide fun (W : World) (h : Below w1.heap.size w1 W) => specSM A1 m c1 _ qs W (hd1.below h (Nat.le_refl _)) h.size (by omega) HV.out
  clear hb hd1 hl hB1
  obtain ⟨r, hr⟩ : ∃ r, smap (fns qs) = r := ⟨_, rfl⟩
  unfold SmPost at HP1 HP2
  rw [hr] at HP1 HP2
  have HR := hide hr
  clear hr
  have hcm2 : c1 ≤ 9223372036854775807 := by unfold maxLen at hcm; omega
  rcases r with _ | rs
  · simp only [Option.isSome_none, Option.getD_none] at HP1 HP2
    go_wp2_with fail
    refine HP1.out.mono ?_
    rintro e w2 ⟨A2, m2, c2, rfl, ho2, hb2⟩
    obtain rfl : m2 = 0 := ho2.1.symm
    have HO2 := hide ho2
    have HW2 := hide hb2
    clear ho2 hb2 HP1
    go_wp2_with fail
    refine (HP2.out _ HW2.out).mono ?_
    rintro e w3 ⟨A3, m3, c3, rfl, ho3, hb3⟩
    obtain rfl : m3 = 0 := ho3.1.symm
    have HSM := hide fun (W : World) (h : Below w3.heap.size w3 W) => sameMap_yes A2 A3 0 c2 c3 _ _ [] W ((HO2.out.mpi.below hb3 (Nat.le_refl _)).below h hb3.size) (ho3.mpi.below h (Nat.le_refl _)) (by omega)
    have HEND := hide fun (W : World) (h : Below w3.heap.size w3 W) => HB1.out.trans ((HW2.out.trans (hb3.mono HW2.out.size)).trans (h.mono (Nat.le_trans HW2.out.size hb3.size)) |>.mono hs1)
    clear ho3 hb3 HP2
    go_wp2_with fail
    refine (HSM.out w3 (Below.refl _ _)).mono ?_
    rintro e w5 ⟨rfl, q5, rfl⟩
    have HB5 := hide (below_drewN (Below.refl w3.heap.size w3) q5)
    go_wp2_with fail
    refine (HSM.out _ HB5.out).mono ?_
    rintro e w6 ⟨rfl, q6, rfl⟩
    have HE := hide (HEND.out _ (below_drewN HB5.out q6))
    go_wp2
    go_ret
    exact ⟨rfl, by simpa using HE.out⟩
  · simp only [Option.isSome_some, Option.getD_some] at HP1 HP2
    have HRL := hide (smap_len HR.out)
    go_wp2_with fail
    refine HP1.out.mono ?_
    rintro e w2 ⟨A2, m2, c2, rfl, ho2, hb2⟩
    obtain rfl : m2 = 12 := ho2.1.symm.trans HRL.out
    have HO2 := hide ho2
    have HW2 := hide hb2
    clear ho2 hb2 HP1
    go_wp2_with fail
    refine (HP2.out _ HW2.out).mono ?_
    rintro e w3 ⟨A3, m3, c3, rfl, ho3, hb3⟩
    obtain rfl : m3 = 12 := ho3.1.symm.trans HRL.out
    have HX2 := hide (HO2.out.mpi.below hb3 (Nat.le_refl _))
    have HS23 := hide hb3.size
    have HSM := hide fun (W : World) (h : Below w3.heap.size w3 W) => sameMap_yes A2 A3 12 c2 c3 _ _ rs W (HX2.out.below h HS23.out) (ho3.mpi.below h (Nat.le_refl _)) (by omega)
    have HW3 := hide (HW2.out.trans (hb3.mono HW2.out.size))
    have HEND := hide fun (W : World) (h : Below w3.heap.size w3 W) => HB1.out.trans ((HW3.out.trans (h.mono HW3.out.size)).mono hs1)
    have HF3 := hide fun (W : World) (h : Below w3.heap.size w3 W) => (HF1.out.below HW3.out (Nat.le_refl _)).below h HW3.out.size
    have HS13 := hide HW3.out.size
    clear ho3 hb3 HP2
    go_wp2_with fail
    refine (HSM.out w3 (Below.refl _ _)).mono ?_
    rintro e w5 ⟨rfl, q5, rfl⟩
    have HB5 := hide (below_drewN (Below.refl w3.heap.size w3) q5)
    by_cases hm0 : m = 0
    · subst hm0
      go_wp2_with fail
      refine (HSM.out _ HB5.out).mono ?_
      rintro e w6 ⟨rfl, q6, rfl⟩
      have HE := hide (HEND.out _ (below_drewN HB5.out q6))
      go_wp2
      go_ret
      exact ⟨rfl, by simpa using HE.out⟩
    · generalize w3.drewN q5 = w5 at *
      have hmz : ((m : Int) == 0) = false := by simp; omega
      obtain ⟨k, hk⟩ : ∃ k, m = k + 1 := ⟨m - 1, by omega⟩
      have kw : IntKind.i64.wrap ((m : Int) - 1) = (k : Int) := IntWalk.i64_in _ (by omega) |>.trans (by omega)
      obtain ⟨q, hq⟩ : ∃ q, qs[k]? = some q := ⟨_, List.getElem?_eq_getElem (by rw [HF1.out.1]; omega)⟩
      obtain ⟨fs, hfs⟩ : ∃ fs, fns qs = fs ++ [q.fn] := ⟨(fns qs).take k, snoc_of (fns_get hq) (by rw [fns_length, HF1.out.1]; exact hk)⟩
      have hfk : fns (qs.take k) = fs := by rw [fns_take, hfs, List.take_left' (by have := congrArg List.length hfs; rw [fns_length, HF1.out.1, List.length_append] at this; simp at this; omega)]
      obtain ⟨ms, hms, hok, hap⟩ := smap_last (by rw [← hfs]; exact HR.out)
      have HQ := hide hq
      have HM2 := hide hms
      have HOK := hide hok
      have HAP := hide hap
      have hkm : k ≤ m := by omega
      have hkm1 : (k : Int) < (m : Int) := by omega
      have hk0 : (0 : Int) ≤ (k : Int) := by omega
      have hkc : (k : Int) ≤ (c1 : Int) := by omega
      have hql := HV.out q (List.mem_of_getElem? hq)
      have hs5 := HB5.out.size
      have HPK := hide (implSM A1 k c1 _ (qs.take k) w5 ((HF3.out w5 HB5.out).firsts hkm) (Nat.le_trans HS13.out hs5) (by omega) (fun q hq => HV.out q (List.mem_of_mem_take hq)))
      unfold SmPost at HPK
      rw [hfk, hms] at HPK
      simp only [Option.isSome_some, Option.getD_some] at HPK
      have HML := hide (smap_len hms)
      clear hq hms hok hap hfs hfk hk
      go_wp2_with fail
      refine HPK.out.mono ?_
      rintro e w6 ⟨A6, m6, c6, rfl, ho6, hb6⟩
      obtain rfl : m6 = 12 := ho6.1.symm.trans HML.out
      have HB6 := hide (HB5.out.trans (hb6.mono hs5))
      have HO6 := hide ho6
      have hR := HF3.out w6 HB6.out
      obtain ⟨ad, p, rfl, hp, hpb, d0, d1, d2, d3, d4⟩ := hR.at_ HQ.out
      obtain ⟨hi, hle, hcmq, hnl⟩ := hR.words HQ.out
      have hs6 : w1.heap.size ≤ w6.heap.size := Nat.le_trans HS13.out HB6.out.size
      unfold maxLen at hcmq
      have HC := hide (implMA A6 q.addr 12 c6 q.vals.length q.cap w6.heap.size w1.heap.size ms q.kind q.seq q.zone q.word q.vals (w6.drewN 1) (HO6.out.mpi.drewN 1) (hi.drewN 1) (Nat.le_refl _) hs6 (by omega) hql hle (by omega))
      have hap2 : apM ms q.kind q.seq q.vals q.zone q.word = rs := HAP.out
      have hok2 : apOk ms q.kind q.seq q.vals q.zone q.word = true := HOK.out
      rw [hap2, hok2] at HC
      clear ho6 hb6 hR hi hle hcmq hnl hap2 hok2 HAP HOK HPK
      obtain ⟨z, a, x0, x1, ws, qa, qc⟩ := q
      simp only [Fq.sl] at d0 d1 d2 d3 d4 HC
      generalize hwl : ws.length = wl at d4 HC
      clear hwl
      have hbp : p.block < w6.heap.size := by omega
      go_upto_region 10 with (fail)
      go_region_held3 (fun W => W.cell? p = some (.int .i64 z) ∧ W.cell? ⟨p.block, p.off + 1, none⟩ = some (.int .i64 a) ∧ W.cell? ⟨p.block, p.off + 2, none⟩ = some (.int .i64 x0) ∧
          W.cell? ⟨p.block, p.off + 3, none⟩ = some (.int .i64 x1) ∧ W.cell? ⟨p.block, p.off + 4, none⟩ = some (.slice qa wl qc))
        (first
          | go_keep
          | (exact ⟨(hb7.cell (p := p) hbp).trans d0, (hb7.cell (p := ⟨p.block, p.off + 1, none⟩) hbp).trans d1, (hb7.cell (p := ⟨p.block, p.off + 2, none⟩) hbp).trans d2, (hb7.cell (p := ⟨p.block, p.off + 3, none⟩) hbp).trans d3, (hb7.cell (p := ⟨p.block, p.off + 4, none⟩) hbp).trans d4⟩))
        ((first
          | (go_at_call 11; refine HC.out.mono ?_; rintro e w7 ⟨A7, m7, c7, rfl, ho7, hb7'⟩; have hb7 := below_undrewS (i := 1) hb7'; clear hb7')))
      all_goals
        have hm7 : m7 = 12 := ho7.1.symm.trans HRL.out
        subst hm7
        have HB7 := hide (HB6.out.trans (hb7.mono HB6.out.size))
        have HX7 := hide ho7.mpi
        have HS37 := hide (Nat.le_trans HS23.out HB7.out.size)
        have HSM7 := hide (sameMap_yes A7 A2 12 c7 c2 _ _ rs w7 HX7.out (HX2.out.below HB7.out HS23.out) (by omega))
        clear ho7 hb7
        go_wp2_with fail
        refine HSM7.out.mono ?_
        rintro e w8 ⟨rfl, q8, rfl⟩
        have HE := hide (HEND.out _ (below_drewN HB7.out q8))
        go_wp2
        go_ret
        exact ⟨rfl, HE.out⟩
end Go.Proofs.Ytcocboigjfjnfab
