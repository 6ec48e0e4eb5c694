/-
  The walk of FnExactScanDevice.
-/
import Derived.Test.YtcocboigjfjnfacExN1
namespace Go.Proofs.Ytcocboigjfjnfac
open Go.RowKit
set_option linter.unusedVariables false
set_option maxRecDepth 100000

set_option maxHeartbeats 6400000 in
theorem exactScanDevice_walk (A : Option Addr) (n c : Nat) (qs : List Zq) (w : World) (hr : Zns w w.heap.size A n qs) (hn : n ≤ c) (hc : c ≤ maxLen) :
    Calls Try.prog 5 #[.slice A n c] w fun e w' => e = .returned (.bool true) ∧ Below w.heap.size w w' := by
  have HS := hide (szZoneS_any A n c w.heap.size qs w hr (Nat.le_refl _) hn hc)
  have HR := hide hr
  have hlen := hr.1
  clear hr
  go_enter Try.func5, Try.ntmps5
  go_wp2_with fail
  refine HS.out.mono ?_
  rintro e w1 ⟨r, rfl, hr1, hr2, hb1⟩
  by_cases h : r < 0
  · go_wp2
    go_ret
    exact ⟨rfl, hb1⟩
  · obtain ⟨hn1, hl⟩ := hr2 (by omega)
    have HL := hide hl
    have HR1 := hide (HR.out.below hb1 (Nat.le_refl _))
    have HB1 := hide hb1
    have hs1 := hb1.size
    have hn9 : n ≤ 1000000000 := by omega
    have hn11 : n ≤ 100000000000 := by omega
    have hn12 : n ≤ 1000000000000 := by omega
    have hnm : n ≤ maxLen := by unfold maxLen; omega
    obtain ⟨E, hE⟩ : ∃ E, scanD (zns qs) = E := ⟨_, rfl⟩
    have hsm : SmallFn E := by
      rw [← hE]
      exact smallFn_scanD _
    have HSM := hide hsm
    have HEE := hide hE
    clear hr2 hl hb1 HS HR hsm hE
    go_wp2_with fail
    refine (toZoneS_any A n c w.heap.size qs _ HR1.out hs1 hn9 HL.out).mono ?_
    rintro e w2 ⟨A2, c2, qs2, rfl, ho2, hz2, hb2⟩
    have HB2 := hide (HB1.out.trans (hb2.mono hs1))
    have hs2 := HB2.out.size
    have HZ2 := hide ho2.zns
    have HE2 := hide hz2
    have HR2 := hide (HR1.out.below hb2 hs1)
    clear ho2 hz2 hb2 HR1 HB1 hs1
    go_wp2_with fail
    refine (specScanD A2 n c2 _ qs2 _ HZ2.out (Nat.le_refl _) hn12).mono ?_
    rw [HE2.out, HEE.out]
    rintro e w3 ⟨A3, c3, m3, rs, rfl, ho3, hz3, hb3⟩
    have HB3 := hide (HB2.out.trans (hb3.mono hs2))
    have hs3 := HB3.out.size
    have HR3 := hide (HR2.out.below hb3 hs2)
    have HW3 := hide ho3.fnds
    have HZ3 := hide hz3
    have hm3 := ho3.len
    clear ho3 hz3 hb3 HR2 HB2 HZ2 HE2 hs2
    have hm3' : m3 ≤ 1000 := by have h1 := HSM.out; rw [← HZ3.out] at h1; have := h1.len; omega
    go_wp2_with fail
    refine (toZoneS_any A n c w.heap.size qs _ HR3.out hs3 hn9 HL.out).mono ?_
    rintro e w4 ⟨A4, c4, ys, rfl, ho4, hz4, hb4⟩
    have HB4 := hide (HB3.out.trans (hb4.mono hs3))
    have hs4 := HB4.out.size
    have hs34 := hb4.size
    have HR4 := hide (HR3.out.below hb4 hs3)
    have HW4 := hide (HW3.out.below hb4 (Nat.le_refl _))
    have HO4 := hide ho4
    have HZ4 := hide hz4
    clear ho4 hz4 hb4 HR3 HB3 HW3
    go_wp2_with fail
    refine (implScanD A4 n c4 _ ys _ HO4.out.zns (Nat.le_refl _) hn12).mono ?_
    rw [HZ4.out, HEE.out]
    rintro e w5 ⟨A5, c5, m5, gs, rfl, ho5, hz5, hb5⟩
    have hm5 := ho5.len
    obtain rfl : m5 = m3 := by
      have h1 : (fns gs).length = (fns rs).length := by rw [hz5, HZ3.out]
      rw [fns_length, fns_length] at h1
      omega
    have hmx : m5 ≤ maxLen := by unfold maxLen; omega
    have hm9 : m5 ≤ 1000000000 := by omega
    have HG := hide (hz5.trans HZ3.out.symm)
    have HGL := hide (show ∀ q ∈ gs, q.vals.length ≤ 1048576 by have h1 := HSM.out; rw [← hz5] at h1; exact h1.words)
    have HYL := hide (show ∀ q ∈ ys, q.words.length ≤ 1048576 from fun q hq => by obtain ⟨r, hr, e⟩ := List.mem_map.1 (show q.zn ∈ zns qs by rw [← HZ4.out]; exact List.mem_map_of_mem hq); have h2 := HL.out r hr; have h3 : q.words = r.words := (congrArg Prod.fst e).symm; rw [h3]; exact h2)
    have HE : Hid (ZN w w5 w3.heap.size w3.heap.size w4.heap.size A n qs A3 m5 rs A4 n c4 ys A5 m5 c5 gs) :=
      { i := HR4.out.below hb5 hs4, w1 := HW4.out.below hb5 hs34, o4 := HO4.out.below hb5, l4 := HO4.out.lim, g5 := ho5, b := HB4.out.trans (hb5.mono hs4)
        le0 := hs3, le1 := Nat.le_refl _, le2 := hs34, le3 := hb5.size }
    clear ho5 hz5 hb5 HB4 HR4 HW4 HO4 hs3 hs4 hs34 hm3 hm5 HSM
    generalize w3.heap.size = B1 at HE
    generalize w4.heap.size = B5 at HE
    go_wp2_with fail
    refine (eqFoundS_yes A5 A3 m5 c5 c3 _ _ gs rs _ HE.out.g5.fnds HE.out.w1 (Nat.le_refl _) (by have := HE.out.le1; have := HE.out.le2; have := HE.out.le3; omega) hmx HG.out).mono ?_
    rintro e w6 ⟨rfl, hb6⟩
    have HE6 := hide (HE.out.below hb6)
    clear hb6 HE
    go_wp2_with fail
    refine (toZoneS_any A n c w.heap.size qs _ HE6.out.i HE6.out.b.size hn9 HL.out).mono ?_
    rintro e w7 ⟨A7, c7, zs, rfl, ho7, hz7, hb7⟩
    have HE7 := hide (HE6.out.below hb7)
    have HO7 := hide ho7.zns
    have HZ7 := hide (HZ4.out.trans hz7.symm)
    clear hb7 ho7 hz7 HE6
    go_wp2_with fail
    refine (eqZoneS_yes A4 A7 n c4 c7 _ _ ys zs _ HE7.out.o4.zns HO7.out (Nat.le_refl _) (Nat.le_refl _) hnm HZ7.out).mono ?_
    rintro e w8 ⟨rfl, hb8⟩
    have HE8 := hide (HE7.out.below hb8)
    clear hb8 HE7 HO7 HZ7
    go_wp2_with fail
    refine (markZoneS_any A4 n c4 B1 B5 1 ys _ HE8.out.o4 HE8.out.l4 (by have := HE8.out.le1; have := HE8.out.le2; have := HE8.out.le3; omega) (by omega) (by omega) hn9 HYL.out).mono ?_
    rintro e w9 ⟨rfl, ho9, hc9⟩
    have HE9 := hide (HE8.out.mark4 hc9)
    clear ho9 hc9 HE8
    have hk9 := (mvZ_le 1 ys HYL.out).1
    have hkn : ¬ mvZ 1 ys < 0 := by omega
    generalize mvZ 1 ys = k9 at hk9 hkn
    clear hk9
    go_wp2_with fail
    refine (eqFoundS_yes A5 A3 m5 c5 c3 _ _ gs rs _ HE9.out.g5.fnds HE9.out.w1 (Nat.le_refl _) (by have := HE9.out.le2; have := HE9.out.le3; omega) hmx HG.out).mono ?_
    rintro e w10 ⟨rfl, hb10⟩
    have HE10 := hide (HE9.out.below hb10)
    clear hb10 HE9
    go_wp2_with fail
    refine (markFoundS_any A5 m5 c5 B5 _ 1 gs _ HE10.out.g5 HE10.out.g5.lim HE10.out.le3 (by omega) (by omega) hm9 HGL.out).mono ?_
    rintro e w11 ⟨rfl, ho11, hc11⟩
    have HE11 := hide (HE10.out.mark5 ho11 hc11)
    clear ho11 hc11 HE10
    have hk11 := (mvF_le 1 gs HGL.out).1
    have hkn11 : ¬ mvF 1 gs < 0 := by omega
    obtain ⟨kk, hkk⟩ : ∃ kk, mvF 1 gs = kk := ⟨_, rfl⟩
    have HKK := hide hkk
    simp only [hkk] at hk11 hkn11
    rw [hkk]
    clear hkk hk11
    go_wp2_with fail
    refine (heldFoundS_any A5 m5 c5 _ 1 gs _ HE11.out.g5.fnds (by omega) (by omega) hm9 HGL.out).mono ?_
    rw [HKK.out]
    rintro e w' ⟨rfl, rfl⟩
    go_wp2_with fail
    refine (toZoneS_any A n c w.heap.size qs _ HE11.out.i HE11.out.b.size hn9 HL.out).mono ?_
    rintro e w12 ⟨A12, c12, us, rfl, ho12, hz12, hb12⟩
    have HE12 := hide (HE11.out.below hb12)
    have HO12 := hide ho12.zns
    have HZ12 := hide hz12
    clear hb12 ho12 hz12 HE11
    go_wp2_with fail
    refine (implScanD A12 n c12 _ us _ HO12.out (Nat.le_refl _) hn12).mono ?_
    rw [HZ12.out, HEE.out]
    rintro e w13 ⟨A13, c13, m13, hs, rfl, ho13, hz13, hb13⟩
    obtain rfl : m13 = m5 := by
      have h1 : (fns hs).length = (fns rs).length := by rw [hz13, HZ3.out]
      rw [fns_length, fns_length] at h1
      have h2 := ho13.len
      have h3 := HE12.out.w1.1
      omega
    have HE13 := hide (HE12.out.below hb13)
    have HO13 := hide ho13.fnds
    have HZ13 := hide (hz13.trans HZ3.out.symm)
    clear ho13 hz13 hb13 HE12 HO12 HZ12
    go_wp2_with fail
    refine (eqFoundS_yes A13 A3 m13 c13 c3 _ _ hs rs _ HO13.out HE13.out.w1 (Nat.le_refl _) (by have := HE13.out.le2; have := HE13.out.le3; omega) hmx HZ13.out).mono ?_
    rintro e w14 ⟨rfl, hb14⟩
    have HE14 := hide (HE13.out.below hb14)
    clear hb14 HE13 HO13 HZ13
    go_wp2_with fail
    refine (heldFoundS_any A5 m13 c5 _ 1 gs _ HE14.out.g5.fnds (by omega) (by omega) hm9 HGL.out).mono ?_
    rw [HKK.out]
    rintro e w' ⟨rfl, rfl⟩
    go_wp2
    go_ret
    exact ⟨rfl, HE14.out.b⟩
end Go.Proofs.Ytcocboigjfjnfac
