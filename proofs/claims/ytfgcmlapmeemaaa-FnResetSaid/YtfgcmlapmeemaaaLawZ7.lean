/-
  The walk of FnReset.
-/
import Derived.Test.YtfgcmlapmeemaaaSameZ
import Derived.Test.YtfgcmlapmeemaaaDrawZ4
import Derived.Test.YtfgcmlapmeemaaaImpZ5
import Derived.Test.YtfgcmlapmeemaaaQz
import Derived.Deep.RegionHeld3
import Derived.Deep.DeepCutAuto
import Derived.Deep.CutBlock
namespace Go.Proofs.Ytfgcmlapmeemaaa
open Go.RowKit
set_option linter.unusedVariables false
set_option maxRecDepth 100000

theorem takeH {P : Program} {md : Region.Mode} {ops : Array Oper} {Q : Exit → Act → World → Prop} {S : World → Prop} {i : Nat} (d : Tmp) {oi : Oper} {v : Value} {fuel : Nat} {listed : Array Bool} {a : Act} {w : World} (hi : ops[i]? = some oi) (hd : oi.dst = some d)
    (hs : Region.noSelect ops = true) (hf : Region.free md ops listed i = true) (hr : (Region.ready md ops listed).contains i = true) (hQ : ∀ c a w, Q (.panic c) (a.put oi.dst v) w → Q (.panic c) a w) (hy : YieldsIf P ops S oi v a) (hS : S w)
    (h : wpAnyH P md ops Q S fuel (listed.setIfInBounds i true) (a.put (some d) v) w) : wpAnyH P md ops Q S (fuel + 1) listed a w := wpAnyH_take hi hs hf hr hQ hy hS (by rw [hd]; exact h)

set_option maxHeartbeats 6400000 in
theorem reset_walk (A : Option Addr) (n c : Nat) (bs : Nat → Int) (w : World) (hb : Bytes w w.heap.size A n bs) (hn : n ≤ c) (hc : c ≤ maxLen) :
    Calls Try.prog 3 #[.slice A n c] w fun e w' => e = .returned (.bool true) ∧ Below w.heap.size w w' := by
  by_cases hbig : 1048576 < n
  · go_enter Try.func3, Try.ntmps3
    go_wp2
    go_ret
    exact ⟨rfl, Below.refl _ _⟩
  · go_enter Try.func3, Try.ntmps3
    go_wp2_with fail
    refine (drawReset_any A n c bs _ hb hn hc).mono ?_
    rintro e w1 ⟨A1, m, c1, qs, z, rfl, ⟨hz1, hm, hmc, hcm, hl1, hB1⟩, hzz0, hzz1⟩
    have HB1 := hide hB1
    have HZ1 := hide hz1
    have hs1 := hB1.size
    have HP1 := hide (implReset A1 m c1 _ z qs w1 hz1 (Nat.le_refl _) (by omega))
    have HP2 := hide fun (W : World) (h : Below w1.heap.size w1 W) => specReset A1 m c1 _ z qs W (hz1.below h (Nat.le_refl _)) h.size (by omega)
    clear hb hB1 hz1 hl1
    obtain ⟨v, hv⟩ : ∃ v, zoneV (zns qs) z = v := ⟨_, rfl⟩
    rw [hv] at HP1 HP2
    obtain ⟨D, hD⟩ : ∃ D : Dev, resetD (zns qs) z = D := ⟨_, rfl⟩
    rw [hD] at HP1 HP2
    have HV := hide hv
    have HD := hide (show (if v then modD (zns qs) z (fun _ => zone0) else []) = D by rw [← hD, ← hv]; rfl)
    clear hD hv
    go_wp2_with fail
    refine HP1.out.mono ?_
    rintro e w2 ⟨A2, m2, c2, qs2, rfl, ho2, hz2, hB2⟩
    have HO2 := hide ho2
    have HZ2 := hide hz2
    have HW2 := hide hB2
    clear ho2 hz2 hB2 HP1
    go_wp2_with fail
    refine (HP2.out _ HW2.out).mono ?_
    rintro e w3 ⟨A3, m3, c3, qs3, rfl, ho3, hz3, hB3⟩
    have HW3 := hide (HW2.out.trans (hB3.mono HW2.out.size))
    have HPR := hide (pair_same HO2.out ho3 HZ2.out hz3 hB3)
    have HX2 := hide (HO2.out.zns.below hB3 (Nat.le_refl _))
    have HB23 := hide hB3
    have hs23 := hB3.size
    obtain rfl : m3 = m2 := HPR.out.1
    clear ho3 hz3 hB3 HP2
    go_wp2_with fail
    refine (HPR.out.2.2 _ (Below.refl _ _)).mono ?_
    rintro e w4 ⟨rfl, hB4⟩
    have HW4 := hide (HW3.out.trans (hB4.mono HW3.out.size))
    have HW34 := hide hB4
    have HX4 := hide (HX2.out.below hB4 hs23)
    have hs4 := hB4.size
    have HEND := hide fun (W : World) (h : Below w4.heap.size w4 W) => HB1.out.trans ((HW4.out.trans (h.mono HW4.out.size)).mono hs1)
    have hW24 := HB23.out.trans (hB4.mono hs23)
    clear hB4
    rcases v with _ | _
    · go_wp2_with fail
      refine (HPR.out.2.2 _ HW34.out).mono ?_
      rintro e w5 ⟨rfl, hB5⟩
      have HB5 := hide (HEND.out _ hB5)
      clear hB5
      go_wp2
      go_ret
      exact ⟨rfl, HB5.out⟩
    · obtain ⟨k, q, rfl, hk4, h4, hq, hl⟩ := zone_parts HZ1.out HV.out
      subst h4
      have HDD := hide (show zns qs2 = (zns qs).set k zone0 by rw [HZ2.out, ← HD.out, if_pos rfl, modD_at (zns_get hq)])
      obtain rfl : m3 = 4 := by
        have h := congrArg List.length HDD.out
        unfold zns at h
        rw [List.length_set, List.length_map, List.length_map, HO2.out.len, HZ1.out.1] at h
        exact h
      have hkl : k < (zns qs).length := by unfold zns; rw [List.length_map, HZ1.out.1]; exact hk4
      have HKL := hide hkl
      have HZ4 := hide (HZ1.out.below HW4.out (Nat.le_refl _))
      have hs14 := HW4.out.size
      have k0 : (0 : Int) ≤ (k : Int) := by omega
      clear hq hl hkl
      go_wp2
      go_loopw [9] (fun i wr => ∃ (j : Nat), j ≤ 4 ∧ i = .int .i64 j ∧ Hid (Below w4.heap.size w4 wr)) (fun i _ => 4 - (intOf i).toNat)
      case atStart => exact ⟨0, Nat.zero_le _, rfl, Below.refl _ _⟩
      case round =>
        obtain ⟨j, hj, rfl, HB⟩ := hrel
        have hs := HB.out.size
        by_cases hlt : j < 4
        · have j0 : (0 : Int) ≤ (j : Int) := by omega
          have j1 : (j : Int) < ((4 : Nat) : Int) := by omega
          have j2 : (j : Int) < 4 := by omega
          have hX := HX4.out.below HB.out (by omega)
          have hY := HZ4.out.below HB.out (by omega)
          by_cases hjk : j = k
          · subst hjk
            obtain ⟨r', hr', her'⟩ : ∃ r', qs2[j]? = some r' ∧ r'.zn = zone0 := zns_get_inv (by rw [HDD.out, List.getElem?_set_self HKL.out])
            obtain ⟨ad', p', rfl, hp', hb', hd0, hd1, hd2⟩ := hX.at_ hr'
            clear hr' hX hY
            obtain ⟨ws', sy', fu', ra, rc⟩ := r'
            unfold Zq.zn zone0 at her'
            injection her' with h1 h2
            injection h2 with h2 h3
            simp only at h1 h2 h3
            subst h1
            subst h2
            subst h3
            simp only [Zq.sl, List.length_nil] at hd0 hd1 hd2
            have HSZ := hide fun (i : Nat) => sameZone_yes ra none 0 rc 0 w2.heap.size w2.heap.size 0 false [] (wr.drewN i) (Ints.nil_ _ _ _) (Ints.nil_ _ _ _) (by show _ ≤ wr.heap.size; omega) (by show _ ≤ wr.heap.size; omega) (Nat.zero_le _)
            have hbp' : p'.block < wr.heap.size := by omega
            go_wp2_with fail
            refine wp_region_held_drew (S := (fun W => W.cell? p' = some (.slice ra 0 rc) ∧ W.cell? ⟨p'.block, p'.off + 1, none⟩ = some (.int .i64 0) ∧ W.cell? ⟨p'.block, p'.off + 2, none⟩ = some (.bool false))) (by kernel_rfl) ⟨hd0, hd1, hd2⟩ (fun hHeld => ?_)
            refine takeH (i := 0) 57 (v := .int .i64 (j : Int)) rfl rfl (by kernel_rfl) (by kernel_rfl) (by kernel_rfl) (fun _ _ _ h => h) (Or.inl ⟨by kernel_rfl, fun w hSw => by (go_simp; done)⟩) (by assumption) ?_
            refine takeH (i := 1) 58 (v := .int .i64 (j : Int)) rfl rfl (by kernel_rfl) (by kernel_rfl) (by kernel_rfl) (fun _ _ _ h => h) (Or.inl ⟨by kernel_rfl, fun w hSw => by (go_simp; done)⟩) (by assumption) ?_
            refine takeH (i := 2) 59 (v := .bool true) rfl rfl (by kernel_rfl) (by kernel_rfl) (by kernel_rfl) (fun _ _ _ h => h) (Or.inl ⟨by kernel_rfl, fun w hSw => by first | (go_simp; done) | (go_simp; simp; done)⟩) (by assumption) ?_
            refine takeH (i := 3) 60 (v := .bool true) rfl rfl (by kernel_rfl) (by kernel_rfl) (by kernel_rfl) (fun _ _ _ h => h) (Or.inl ⟨by kernel_rfl, fun w hSw => by (go_simp; done)⟩) (by assumption) ?_
            refine takeH (i := 4) 61 (v := .slice (some ad') 4 c2) rfl rfl (by kernel_rfl) (by kernel_rfl) (by kernel_rfl) (fun _ _ _ h => h) (Or.inl ⟨by kernel_rfl, fun w hSw => by (go_simp; done)⟩) (by assumption) ?_
            refine takeH (i := 5) 62 (v := .int .i64 (j : Int)) rfl rfl (by kernel_rfl) (by kernel_rfl) (by kernel_rfl) (fun _ _ _ h => h) (Or.inl ⟨by kernel_rfl, fun w hSw => by (go_simp; done)⟩) (by assumption) ?_
            refine takeH (i := 8) 65 (v := .agg #[.slice none 0 0, .int .i64 0, .bool false]) rfl rfl (by kernel_rfl) (by kernel_rfl) (by kernel_rfl) (fun _ _ _ h => h) (Or.inl ⟨by kernel_rfl, fun w hSw => by (go_simp; done)⟩) (by assumption) ?_
            refine takeH (i := 6) 63 (v := .pointer (some p')) rfl rfl (by kernel_rfl) (by kernel_rfl) (by kernel_rfl) (fun _ _ _ h => h) (Or.inl ⟨by kernel_rfl, fun w hSw => by (go_simp; done)⟩) (by assumption) ?_
            refine takeH (i := 7) 64 (v := .agg #[.slice ra 0 rc, .int .i64 0, .bool false]) rfl rfl (by kernel_rfl) (by kernel_rfl) (by kernel_rfl) (fun _ _ _ h => h) (Or.inl ⟨by kernel_rfl, fun w hSw => by obtain ⟨s0, s1, s2⟩ := hSw; (go_simp; done)⟩) (by assumption) ?_
            refine wpAnyH_ready (rs := [9]) (by kernel_rfl) (by simp) ?_
            refine AllReadyH.cons rfl (fun K hK => ?_) AllReadyH.nil
            go_simp
            refine (HSZ.out 1).mono ?_
            rintro e w5 ⟨rfl, hb1'⟩
            have hb1 := below_undrew (i := 1) hb1'
            clear hb1'
            refine hK.out _ _ ⟨(hb1.cell (p := p') hbp').trans hd0, (hb1.cell (p := ⟨p'.block, p'.off + 1, none⟩) hbp').trans hd1, (hb1.cell (p := ⟨p'.block, p'.off + 2, none⟩) hbp').trans hd2⟩ (fun hHeld => ?_)
            clear hK K
            refine takeH (i := 10) 67 (v := .bool false) rfl rfl (by kernel_rfl) (by kernel_rfl) (by kernel_rfl) (fun _ _ _ h => h) (Or.inl ⟨by kernel_rfl, fun w hSw => by (go_simp; done)⟩) (by assumption) ?_
            refine takeH (i := 11) 68 (v := .bool false) rfl rfl (by kernel_rfl) (by kernel_rfl) (by kernel_rfl) (fun _ _ _ h => h) (Or.inl ⟨by kernel_rfl, fun w hSw => by (go_simp; done)⟩) (by assumption) ?_
            refine takeH (i := 12) 69 (v := .bool false) rfl rfl (by kernel_rfl) (by kernel_rfl) (by kernel_rfl) (fun _ _ _ h => h) (Or.inl ⟨by kernel_rfl, fun w hSw => by (go_simp; done)⟩) (by assumption) ?_
            refine takeH (i := 13) 70 (v := .int .i64 (j : Int)) rfl rfl (by kernel_rfl) (by kernel_rfl) (by kernel_rfl) (fun _ _ _ h => h) (Or.inl ⟨by kernel_rfl, fun w hSw => by (go_simp; done)⟩) (by assumption) ?_
            refine takeH (i := 14) 71 (v := .int .i64 (j : Int)) rfl rfl (by kernel_rfl) (by kernel_rfl) (by kernel_rfl) (fun _ _ _ h => h) (Or.inl ⟨by kernel_rfl, fun w hSw => by (go_simp; done)⟩) (by assumption) ?_
            refine takeH (i := 15) 72 (v := .bool false) rfl rfl (by kernel_rfl) (by kernel_rfl) (by kernel_rfl) (fun _ _ _ h => h) (Or.inl ⟨by kernel_rfl, fun w hSw => by first | (go_simp; done) | (go_simp; simp; done)⟩) (by assumption) ?_
            refine takeH (i := 16) 73 (v := .bool false) rfl rfl (by kernel_rfl) (by kernel_rfl) (by kernel_rfl) (fun _ _ _ h => h) (Or.inl ⟨by kernel_rfl, fun w hSw => by (go_simp; done)⟩) (by assumption) ?_
            simp only [Act.put, List.setIfInBounds_toArray, List.set_cons_zero, List.set_cons_succ]
            refine takeH (i := 17) 74 (v := undef) rfl rfl (by kernel_rfl) (by kernel_rfl) (by kernel_rfl) (fun _ _ _ h => h) (Or.inr ⟨by kernel_rfl, rfl⟩) (by assumption) ?_
            refine takeH (i := 18) 75 (v := undef) rfl rfl (by kernel_rfl) (by kernel_rfl) (by kernel_rfl) (fun _ _ _ h => h) (Or.inr ⟨by kernel_rfl, rfl⟩) (by assumption) ?_
            refine takeH (i := 19) 76 (v := undef) rfl rfl (by kernel_rfl) (by kernel_rfl) (by kernel_rfl) (fun _ _ _ h => h) (Or.inr ⟨by kernel_rfl, rfl⟩) (by assumption) ?_
            refine takeH (i := 20) 77 (v := undef) rfl rfl (by kernel_rfl) (by kernel_rfl) (by kernel_rfl) (fun _ _ _ h => h) (Or.inr ⟨by kernel_rfl, rfl⟩) (by assumption) ?_
            refine takeH (i := 21) 78 (v := undef) rfl rfl (by kernel_rfl) (by kernel_rfl) (by kernel_rfl) (fun _ _ _ h => h) (Or.inr ⟨by kernel_rfl, rfl⟩) (by assumption) ?_
            refine takeH (i := 22) 79 (v := undef) rfl rfl (by kernel_rfl) (by kernel_rfl) (by kernel_rfl) (fun _ _ _ h => h) (Or.inr ⟨by kernel_rfl, rfl⟩) (by assumption) ?_
            refine takeH (i := 23) 80 (v := undef) rfl rfl (by kernel_rfl) (by kernel_rfl) (by kernel_rfl) (fun _ _ _ h => h) (Or.inr ⟨by kernel_rfl, rfl⟩) (by assumption) ?_
            refine takeH (i := 24) 81 (v := undef) rfl rfl (by kernel_rfl) (by kernel_rfl) (by kernel_rfl) (fun _ _ _ h => h) (Or.inr ⟨by kernel_rfl, rfl⟩) (by assumption) ?_
            refine takeH (i := 25) 82 (v := undef) rfl rfl (by kernel_rfl) (by kernel_rfl) (by kernel_rfl) (fun _ _ _ h => h) (Or.inr ⟨by kernel_rfl, rfl⟩) (by assumption) ?_
            refine takeH (i := 26) 83 (v := undef) rfl rfl (by kernel_rfl) (by kernel_rfl) (by kernel_rfl) (fun _ _ _ h => h) (Or.inr ⟨by kernel_rfl, rfl⟩) (by assumption) ?_
            simp only [Act.put, List.setIfInBounds_toArray, List.set_cons_zero, List.set_cons_succ]
            refine takeH (i := 27) 84 (v := .bool false) rfl rfl (by kernel_rfl) (by kernel_rfl) (by kernel_rfl) (fun _ _ _ h => h) (Or.inl ⟨by kernel_rfl, fun w hSw => by (go_simp; done)⟩) (by assumption) ?_
            refine takeH (i := 28) 85 (v := .bool false) rfl rfl (by kernel_rfl) (by kernel_rfl) (by kernel_rfl) (fun _ _ _ h => h) (Or.inl ⟨by kernel_rfl, fun w hSw => by (go_simp; done)⟩) (by assumption) ?_
            simp only [Act.put, List.setIfInBounds_toArray, List.set_cons_zero, List.set_cons_succ]
            refine wpAnyH_done (by kernel_rfl) ?_ _
            have HB5 := hide (HB.out.trans (hb1.mono hs))
            clear hb1 hHeld
            go_wp2
            go_roundw
            case rel => exact ⟨j + 1, by omega, by go_num, HB5.out⟩
            case measure => simp [intOf]; omega
          · have hjk' : ((j : Int) == (k : Int)) = false := by simp; omega
            have hjk'' : ((j : Int) != (k : Int)) = true := by simp; omega
            obtain ⟨q', hq'⟩ : ∃ q', qs[j]? = some q' := ⟨_, List.getElem?_eq_getElem (by rw [HZ1.out.1]; exact hlt)⟩
            obtain ⟨r', hr', her'⟩ : ∃ r', qs2[j]? = some r' ∧ r'.zn = q'.zn := zns_get_inv (by rw [HDD.out, List.getElem?_set_ne (fun e => hjk e.symm)]; exact zns_get hq')
            obtain ⟨ad', p', rfl, hp', hb', hd0, hd1, hd2⟩ := hX.at_ hr'
            obtain ⟨ad, p, rfl, hp, hb5, hc0, hc1, hc2⟩ := hY.at_ hq'
            obtain ⟨hi', hle', hcm'⟩ := hX.words hr'
            obtain ⟨hi, hle, hcm5⟩ := hY.words hq'
            clear hq' hr' hX hY
            obtain ⟨ws, sy, fu, qa, qc⟩ := q'
            obtain ⟨ws', sy', fu', ra, rc⟩ := r'
            unfold Zq.zn at her'
            injection her' with h1 h2
            injection h2 with h2 h3
            subst h1
            subst h2
            subst h3
            simp only [Zq.sl] at hc0 hc1 hc2 hi hle hcm5 hd0 hd1 hd2 hi' hle' hcm'
            generalize ws'.length = l at hc0 hi hle hd0 hi' hle'
            have HSZ := hide fun (i : Nat) => sameZone_yes ra qa l rc qc _ _ sy' fu' ws' (wr.drewN i) (hi'.drewN i) (hi.drewN i) (by show _ ≤ wr.heap.size; omega) (by show _ ≤ wr.heap.size; omega) (by omega)
            clear hi hle hcm5 hi' hle' hcm'
            have hbp : p.block < wr.heap.size := by omega
            have hbp' : p'.block < wr.heap.size := by omega
            go_wp2_with fail
            refine wp_region_held_drew (S := (fun W => W.cell? p' = some (.slice ra l rc) ∧ W.cell? ⟨p'.block, p'.off + 1, none⟩ = some (.int .i64 sy') ∧ W.cell? ⟨p'.block, p'.off + 2, none⟩ = some (.bool fu') ∧ W.cell? p = some (.slice qa l qc) ∧ W.cell? ⟨p.block, p.off + 1, none⟩ = some (.int .i64 sy') ∧ W.cell? ⟨p.block, p.off + 2, none⟩ = some (.bool fu'))) (by kernel_rfl) ⟨hd0, hd1, hd2, hc0, hc1, hc2⟩ (fun hHeld => ?_)
            refine takeH (i := 0) 57 (v := .int .i64 (j : Int)) rfl rfl (by kernel_rfl) (by kernel_rfl) (by kernel_rfl) (fun _ _ _ h => h) (Or.inl ⟨by kernel_rfl, fun w hSw => by (go_simp; done)⟩) (by assumption) ?_
            refine takeH (i := 1) 58 (v := .int .i64 (k : Int)) rfl rfl (by kernel_rfl) (by kernel_rfl) (by kernel_rfl) (fun _ _ _ h => h) (Or.inl ⟨by kernel_rfl, fun w hSw => by (go_simp; done)⟩) (by assumption) ?_
            refine takeH (i := 2) 59 (v := .bool false) rfl rfl (by kernel_rfl) (by kernel_rfl) (by kernel_rfl) (fun _ _ _ h => h) (Or.inl ⟨by kernel_rfl, fun w hSw => by first | (go_simp; done) | (go_simp; simp; done) | (go_simp; simp; omega) | (go_simp; simp [hjk'])⟩) (by assumption) ?_
            refine takeH (i := 3) 60 (v := .bool false) rfl rfl (by kernel_rfl) (by kernel_rfl) (by kernel_rfl) (fun _ _ _ h => h) (Or.inl ⟨by kernel_rfl, fun w hSw => by (go_simp; done)⟩) (by assumption) ?_
            refine takeH (i := 4) 61 (v := undef) rfl rfl (by kernel_rfl) (by kernel_rfl) (by kernel_rfl) (fun _ _ _ h => h) (Or.inr ⟨by kernel_rfl, rfl⟩) (by assumption) ?_
            refine takeH (i := 5) 62 (v := undef) rfl rfl (by kernel_rfl) (by kernel_rfl) (by kernel_rfl) (fun _ _ _ h => h) (Or.inr ⟨by kernel_rfl, rfl⟩) (by assumption) ?_
            refine takeH (i := 6) 63 (v := undef) rfl rfl (by kernel_rfl) (by kernel_rfl) (by kernel_rfl) (fun _ _ _ h => h) (Or.inr ⟨by kernel_rfl, rfl⟩) (by assumption) ?_
            refine takeH (i := 7) 64 (v := undef) rfl rfl (by kernel_rfl) (by kernel_rfl) (by kernel_rfl) (fun _ _ _ h => h) (Or.inr ⟨by kernel_rfl, rfl⟩) (by assumption) ?_
            refine takeH (i := 8) 65 (v := undef) rfl rfl (by kernel_rfl) (by kernel_rfl) (by kernel_rfl) (fun _ _ _ h => h) (Or.inr ⟨by kernel_rfl, rfl⟩) (by assumption) ?_
            refine takeH (i := 9) 66 (v := undef) rfl rfl (by kernel_rfl) (by kernel_rfl) (by kernel_rfl) (fun _ _ _ h => h) (Or.inr ⟨by kernel_rfl, rfl⟩) (by assumption) ?_
            refine takeH (i := 10) 67 (v := undef) rfl rfl (by kernel_rfl) (by kernel_rfl) (by kernel_rfl) (fun _ _ _ h => h) (Or.inr ⟨by kernel_rfl, rfl⟩) (by assumption) ?_
            refine takeH (i := 11) 68 (v := .bool false) rfl rfl (by kernel_rfl) (by kernel_rfl) (by kernel_rfl) (fun _ _ _ h => h) (Or.inl ⟨by kernel_rfl, fun w hSw => by (go_simp; done)⟩) (by assumption) ?_
            refine takeH (i := 12) 69 (v := .bool false) rfl rfl (by kernel_rfl) (by kernel_rfl) (by kernel_rfl) (fun _ _ _ h => h) (Or.inl ⟨by kernel_rfl, fun w hSw => by (go_simp; done)⟩) (by assumption) ?_
            refine takeH (i := 13) 70 (v := .int .i64 (j : Int)) rfl rfl (by kernel_rfl) (by kernel_rfl) (by kernel_rfl) (fun _ _ _ h => h) (Or.inl ⟨by kernel_rfl, fun w hSw => by (go_simp; done)⟩) (by assumption) ?_
            refine takeH (i := 14) 71 (v := .int .i64 (k : Int)) rfl rfl (by kernel_rfl) (by kernel_rfl) (by kernel_rfl) (fun _ _ _ h => h) (Or.inl ⟨by kernel_rfl, fun w hSw => by (go_simp; done)⟩) (by assumption) ?_
            refine takeH (i := 15) 72 (v := .bool true) rfl rfl (by kernel_rfl) (by kernel_rfl) (by kernel_rfl) (fun _ _ _ h => h) (Or.inl ⟨by kernel_rfl, fun w hSw => by (go_simp; done)⟩) (by assumption) ?_
            refine takeH (i := 16) 73 (v := .bool true) rfl rfl (by kernel_rfl) (by kernel_rfl) (by kernel_rfl) (fun _ _ _ h => h) (Or.inl ⟨by kernel_rfl, fun w hSw => by (go_simp; done)⟩) (by assumption) ?_
            refine takeH (i := 17) 74 (v := .slice (some ad') 4 c2) rfl rfl (by kernel_rfl) (by kernel_rfl) (by kernel_rfl) (fun _ _ _ h => h) (Or.inl ⟨by kernel_rfl, fun w hSw => by (go_simp; done)⟩) (by assumption) ?_
            refine takeH (i := 18) 75 (v := .int .i64 (j : Int)) rfl rfl (by kernel_rfl) (by kernel_rfl) (by kernel_rfl) (fun _ _ _ h => h) (Or.inl ⟨by kernel_rfl, fun w hSw => by (go_simp; done)⟩) (by assumption) ?_
            refine takeH (i := 21) 78 (v := .slice (some ad) 4 c1) rfl rfl (by kernel_rfl) (by kernel_rfl) (by kernel_rfl) (fun _ _ _ h => h) (Or.inl ⟨by kernel_rfl, fun w hSw => by (go_simp; done)⟩) (by assumption) ?_
            refine takeH (i := 22) 79 (v := .int .i64 (j : Int)) rfl rfl (by kernel_rfl) (by kernel_rfl) (by kernel_rfl) (fun _ _ _ h => h) (Or.inl ⟨by kernel_rfl, fun w hSw => by (go_simp; done)⟩) (by assumption) ?_
            refine takeH (i := 19) 76 (v := .pointer (some p')) rfl rfl (by kernel_rfl) (by kernel_rfl) (by kernel_rfl) (fun _ _ _ h => h) (Or.inl ⟨by kernel_rfl, fun w hSw => by (go_simp; done)⟩) (by assumption) ?_
            refine takeH (i := 23) 80 (v := .pointer (some p)) rfl rfl (by kernel_rfl) (by kernel_rfl) (by kernel_rfl) (fun _ _ _ h => h) (Or.inl ⟨by kernel_rfl, fun w hSw => by (go_simp; done)⟩) (by assumption) ?_
            refine takeH (i := 20) 77 (v := .agg #[.slice ra l rc, .int .i64 sy', .bool fu']) rfl rfl (by kernel_rfl) (by kernel_rfl) (by kernel_rfl) (fun _ _ _ h => h) (Or.inl ⟨by kernel_rfl, fun w hSw => by obtain ⟨s0, s1, s2, s3, s4, s5⟩ := hSw; (go_simp; done)⟩) (by assumption) ?_
            refine takeH (i := 24) 81 (v := .agg #[.slice qa l qc, .int .i64 sy', .bool fu']) rfl rfl (by kernel_rfl) (by kernel_rfl) (by kernel_rfl) (fun _ _ _ h => h) (Or.inl ⟨by kernel_rfl, fun w hSw => by obtain ⟨s0, s1, s2, s3, s4, s5⟩ := hSw; (go_simp; done)⟩) (by assumption) ?_
            refine wpAnyH_ready (rs := [25]) (by kernel_rfl) (by simp) ?_
            refine AllReadyH.cons rfl (fun K hK => ?_) AllReadyH.nil
            go_simp
            refine (HSZ.out 1).mono ?_
            rintro e w5 ⟨rfl, hb1'⟩
            have hb1 := below_undrew (i := 1) hb1'
            clear hb1'
            refine hK.out _ _ ⟨(hb1.cell (p := p') hbp').trans hd0, (hb1.cell (p := ⟨p'.block, p'.off + 1, none⟩) hbp').trans hd1, (hb1.cell (p := ⟨p'.block, p'.off + 2, none⟩) hbp').trans hd2, (hb1.cell (p := p) hbp).trans hc0, (hb1.cell (p := ⟨p.block, p.off + 1, none⟩) hbp).trans hc1, (hb1.cell (p := ⟨p.block, p.off + 2, none⟩) hbp).trans hc2⟩ (fun hHeld => ?_)
            clear hK K
            refine takeH (i := 26) 83 (v := .bool false) rfl rfl (by kernel_rfl) (by kernel_rfl) (by kernel_rfl) (fun _ _ _ h => h) (Or.inl ⟨by kernel_rfl, fun w hSw => by (go_simp; done)⟩) (by assumption) ?_
            refine takeH (i := 27) 84 (v := .bool false) rfl rfl (by kernel_rfl) (by kernel_rfl) (by kernel_rfl) (fun _ _ _ h => h) (Or.inl ⟨by kernel_rfl, fun w hSw => by (go_simp; done)⟩) (by assumption) ?_
            refine takeH (i := 28) 85 (v := .bool false) rfl rfl (by kernel_rfl) (by kernel_rfl) (by kernel_rfl) (fun _ _ _ h => h) (Or.inl ⟨by kernel_rfl, fun w hSw => by (go_simp; done)⟩) (by assumption) ?_
            refine wpAnyH_done (by kernel_rfl) ?_ _
            have HB5 := hide (HB.out.trans (hb1.mono hs))
            clear hb1 hHeld
            go_wp2
            go_roundw
            case rel => exact ⟨j + 1, by omega, by go_num, HB5.out⟩
            case measure => simp [intOf]; omega
        · obtain rfl : j = 4 := by omega
          have HE5 := hide (HEND.out _ HB.out)
          go_wp2
          go_ret
          exact ⟨rfl, HE5.out⟩
end Go.Proofs.Ytfgcmlapmeemaaa
