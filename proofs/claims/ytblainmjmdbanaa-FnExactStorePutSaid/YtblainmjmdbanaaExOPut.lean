/-
  The walk of FnExactStorePut.
-/
import Derived.Test.YtblainmjmdbanaaExO1
import Derived.Test.YtblainmjmdbanaaRng
import Derived.Test.YtblainmjmdbanaaSpecO4
import Derived.Test.YtblainmjmdbanaaImpO5
namespace Go.Proofs.Ytblainmjmdbanaa
open Go.RowKit
set_option linter.unusedVariables false
set_option maxRecDepth 100000

set_option maxHeartbeats 6400000 in
theorem exactOPut_walk (A : Option Addr) (n c : Nat) (qs : List Oq) (id : Int) (X : Option Addr) (m d : Nat) (ws : List Int) (w : World) (hr : Objs w w.heap.size A n qs) (hn : n ≤ c) (hc : c ≤ maxLen) (hz0 : -9223372036854775808 ≤ id) (hz1 : id ≤ 9223372036854775807) (hx : Ints w w.heap.size X m ws) (hmd : m ≤ d) (hd : d ≤ maxLen) (hrng : Rng (-9223372036854775808) 9223372036854775807 ws) :
    Calls Try.prog 4 #[.slice A n c, .int .i64 id, .slice X m d] w fun e w' => e = .returned (.bool true) ∧ Below w.heap.size w w' := by
  have hm0 : m ≤ 9223372036854775807 := by unfold maxLen at hd; omega
  have HRNG := hide hrng
  clear hrng hmd hd
  by_cases hbig : (1048576 : Int) < (m : Int)
  · clear hr hx
    go_enter Try.func4, Try.ntmps4
    go_wp2
    go_ret
    exact ⟨rfl, Below.refl _ _⟩
  have HS := hide (szObjectS_any A n c w.heap.size qs w hr (Nat.le_refl _) hn hc)
  have HR := hide hr
  have HX := hide hx
  have hlen := hr.1
  clear hr hx
  go_enter Try.func4, Try.ntmps4
  go_wp2_with fail
  refine HS.out.mono ?_
  rintro e w1 ⟨r, rfl, hr1, hr2, hb1⟩
  by_cases h : r < 0
  · go_wp2
    go_ret
    exact ⟨rfl, hb1⟩
  · obtain ⟨hn1, hl⟩ := hr2 (by omega)
    have HL := hide hl
    have HR1 := hide (HR.out.below hb1 (Nat.le_refl _))
    have HX1 := hide (HX.out.below hb1 (Nat.le_refl _))
    have HB1 := hide hb1
    have hs1 := hb1.size
    have hn9 : n ≤ 1000000000 := by omega
    have hn10 : n ≤ 10000000000 := by omega
    have hn12 : n ≤ 1000000000000 := by omega
    have hnm : n ≤ maxLen := by unfold maxLen; omega
    have hmb : m ≤ 1048576 := by omega
    have hmi : m ≤ 17592186044416 := by omega
    have hm12 : m ≤ 1000000000000 := by omega
    have hm9 : m ≤ 1000000000 := by omega
    have hmx0 : m ≤ maxLen := by unfold maxLen; omega
    obtain ⟨E, hE⟩ : ∃ E, putS (obs qs) id ws = E := ⟨_, rfl⟩
    obtain ⟨v, hv⟩ : ∃ v, putN (obs qs) id ws = v := ⟨_, rfl⟩
    have hsm : SmallO E := by
      have h0 := small_obs (by omega) hl
      rw [← hE]
      exact small_put h0 id (by rw [HX.out.1]; exact hmb)
    have HSM := hide hsm
    have HEE := hide hE
    have HVV := hide hv
    clear hr2 hl hb1 HS HR HX hsm hE hv
    go_wp2_with fail
    refine (toObjectS_any A n c w.heap.size qs _ HR1.out hs1 hn9 HL.out).mono ?_
    rintro e w2 ⟨A2, c2, qs2, rfl, ho2, hz2, hb2⟩
    have HB2 := hide (HB1.out.trans (hb2.mono hs1))
    have hs2 := HB2.out.size
    have hc2 := ho2.cap
    have HZ2 := hide ho2.objs
    have HE2 := hide hz2
    have HR2 := hide (HR1.out.below hb2 hs1)
    have HX2 := hide (HX1.out.below hb2 hs1)
    clear ho2 hz2 hb2 HR1 HX1 HB1 hs1
    go_wp2_with fail
    refine (toInts_any X m d w.heap.size ws _ HX2.out hs2 hmi).mono ?_
    rintro e w2' ⟨X2, d2, rfl, hxo2, hxb2⟩
    have HB2' := hide (HB2.out.trans (hxb2.mono hs2))
    have hs2' := HB2'.out.size
    have hs22 := hxb2.size
    have HZ2' := hide (HZ2.out.below hxb2 (Nat.le_refl _))
    have HR2' := hide (HR2.out.below hxb2 hs2)
    have HX2' := hide (HX2.out.below hxb2 hs2)
    have HXO2 := hide hxo2.ints
    clear hxo2 hxb2 HB2 HZ2 HR2 HX2 hs2
    go_wp2_with fail
    refine (specPutO A2 X2 n c2 _ _ m d2 id qs2 ws _ HZ2'.out hs22 hn10 hc2.1 hc2.2 HXO2.out (Nat.le_refl _) hm12).mono ?_
    rw [HE2.out, HEE.out, HVV.out]
    rintro e w3 ⟨A3, m3, c3, rs, rfl, ho3, hz3, hb3⟩
    have HB3 := hide (HB2'.out.trans (hb3.mono hs2'))
    have hs3 := HB3.out.size
    have HR3 := hide (HR2'.out.below hb3 hs2')
    have HX3 := hide (HX2'.out.below hb3 hs2')
    have HW3 := hide ho3.objs
    have HZ3 := hide hz3
    have hm3 := ho3.len
    clear ho3 hz3 hb3 HR2' HB2' HZ2' HE2 HX2' HXO2 hs2' hs22
    have hm3' : m3 ≤ 1048576 := by have h1 := HSM.out; rw [← HZ3.out] at h1; have := h1.len; omega
    go_wp2_with fail
    refine (toObjectS_any A n c w.heap.size qs _ HR3.out hs3 hn9 HL.out).mono ?_
    rintro e w4 ⟨A4, c4, ys, rfl, ho4, hz4, hb4⟩
    have HB4 := hide (HB3.out.trans (hb4.mono hs3))
    have hs4 := HB4.out.size
    have hs34 := hb4.size
    have HR4 := hide (HR3.out.below hb4 hs3)
    have HX4 := hide (HX3.out.below hb4 hs3)
    have HW4 := hide (HW3.out.below hb4 (Nat.le_refl _))
    have HO4 := hide ho4
    have HZ4 := hide hz4
    clear ho4 hz4 hb4 HR3 HX3 HB3 HW3
    go_wp2_with fail
    refine (toInts_any X m d w.heap.size ws _ HX4.out hs4 hmi).mono ?_
    rintro e w4' ⟨X6, d6, rfl, hxo4, hxb4⟩
    have HB4' := hide (HB4.out.trans (hxb4.mono hs4))
    have hs4' := HB4'.out.size
    have hs44 := hxb4.size
    have HR4' := hide (HR4.out.below hxb4 hs4)
    have HX4' := hide (HX4.out.below hxb4 hs4)
    have HW4' := hide (HW4.out.below hxb4 hs34)
    have HO4' := hide (HO4.out.below hxb4)
    have HLM := hide HO4.out.lim
    have HXO4 := hide hxo4
    clear hxo4 hxb4 HB4 HR4 HX4 HW4 HO4 hs4
    go_wp2_with fail
    refine (implPutO A4 X6 n c4 _ _ m d6 id ys ws _ HO4'.out.objs (Nat.le_refl _) hn10 HXO4.out.ints (Nat.le_refl _) hm12 HXO4.out.cap.1 HXO4.out.cap.2 HXO4.out.nilcap).mono ?_
    rw [HZ4.out, HEE.out, HVV.out]
    rintro e w5 ⟨A5, m5, c5, gs, rfl, ho5, hz5, hb5⟩
    have hm5 := ho5.len
    obtain rfl : m5 = m3 := by
      have h1 : (obs gs).length = (obs rs).length := by rw [hz5, HZ3.out]
      unfold obs at h1
      rw [List.length_map, List.length_map] at h1
      omega
    have hmx : m5 ≤ maxLen := by unfold maxLen; omega
    have hm59 : m5 ≤ 1000000000 := by omega
    have HG := hide (hz5.trans HZ3.out.symm)
    have HGL := hide (show ∀ q ∈ gs, q.vals.length ≤ 1048576 by have h1 := HSM.out; rw [← hz5] at h1; exact h1.words)
    have HYL := hide (show ∀ q ∈ ys, q.vals.length ≤ 1048576 by have h1 := small_obs (by omega) HL.out; rw [← HZ4.out] at h1; exact h1.words)
    have hyl : ys.length ≤ 1048576 := by have h1 := small_obs (by omega) HL.out; rw [← HZ4.out] at h1; exact h1.len
    have HE : Hid (OW w w5 w3.heap.size w3.heap.size w4.heap.size w4'.heap.size A n qs X m ws A3 m5 rs A4 n c4 ys X6 d6 A5 m5 c5 gs) :=
      { i := HR4'.out.below hb5 hs4', i2 := HX4'.out.below hb5 hs4', w1 := HW4'.out.below hb5 (Nat.le_trans hs34 hs44), o4 := HO4'.out.below hb5, l4 := HLM.out, o6 := HXO4.out.below hb5, l6 := fun b e => (HXO4.out.block b e).2
        g5 := ho5, b := HB4'.out.trans (hb5.mono hs4'), le0 := hs3, le1 := Nat.le_refl _, le2 := hs34, le6 := hs44, le3 := hb5.size }
    clear ho5 hz5 hb5 HB4' HR4' HX4' HW4' HO4' HXO4 HLM hs3 hs4' hs34 hs44 hm3 hm5 HSM
    generalize w3.heap.size = B1 at HE
    generalize w4.heap.size = B6 at HE
    generalize w4'.heap.size = B5 at HE
    go_wp2_with fail
    refine (eqObjectS_yes A5 A3 m5 c5 c3 _ _ gs rs _ HE.out.g5.objs HE.out.w1 (Nat.le_refl _) (by have := HE.out.le1; have := HE.out.le2; have := HE.out.le6; have := HE.out.le3; omega) hmx HG.out).mono ?_
    rintro e w6 ⟨rfl, hb6⟩
    have HE6 := hide (HE.out.below hb6)
    clear hb6 HE
    go_wp2_with fail
    refine (toObjectS_any A n c w.heap.size qs _ HE6.out.i HE6.out.b.size hn9 HL.out).mono ?_
    rintro e w7 ⟨A7, c7, zs, rfl, ho7, hz7, hb7⟩
    have HE7 := hide (HE6.out.below hb7)
    have HO7 := hide ho7.objs
    have HZ7 := hide (HZ4.out.trans hz7.symm)
    clear hb7 ho7 hz7 HE6
    go_wp2_with fail
    refine (eqObjectS_yes A4 A7 n c4 c7 _ _ ys zs _ HE7.out.o4.objs HO7.out (Nat.le_refl _) (Nat.le_refl _) hnm HZ7.out).mono ?_
    rintro e w8 ⟨rfl, hb8⟩
    have HE8 := hide (HE7.out.below hb8)
    clear hb8 HE7 HO7 HZ7
    go_wp2_with fail
    refine (toInts_any X m d w.heap.size ws _ HE8.out.i2 HE8.out.b.size hmi).mono ?_
    rintro e w8' ⟨X8, d8, rfl, hxo8, hxb8⟩
    have HE8' := hide (HE8.out.below hxb8)
    have HXO8 := hide hxo8.ints
    clear hxo8 hxb8 HE8
    go_wp2_with fail
    refine (eqIntS_yes X6 X8 m d6 m d8 _ _ ws ws _ HE8'.out.o6.ints HXO8.out hmx0 hmx0 rfl).mono ?_
    rintro e w8b ⟨rfl, q8, rfl⟩
    have HE8b := hide (HE8'.out.below (below_drewN (Below.refl _ _) q8))
    generalize w8'.drewN q8 = W8 at HE8b
    clear HE8' HXO8
    go_wp2_with fail
    refine (markObjectS_any A4 n c4 B1 B6 1 ys _ HE8b.out.o4 HE8b.out.l4 (by have := HE8b.out.le1; have := HE8b.out.le2; have := HE8b.out.le6; have := HE8b.out.le3; omega) (by omega) (by omega) hn9 HYL.out).mono ?_
    rintro e w9 ⟨rfl, ho9, hc9⟩
    have HE9 := hide (HE8b.out.mark4 hc9)
    clear ho9 hc9 HE8b
    have hk9 := mvO_le 1 ys HYL.out
    have hk9a := hk9.1
    have hk9b : mvO 1 ys ≤ 2000000000000000 := by omega
    generalize mvO 1 ys = k9 at hk9a hk9b
    clear hk9
    go_wp2_with fail
    refine (mark_any X6 m d6 B6 k9 ws _ HE9.out.o6 (by omega) (by omega) hm9).mono ?_
    rintro e w9' ⟨rfl, ho9, hg9⟩
    have HE9' := hide (HE9.out.mark6 hg9)
    clear ho9 hg9 HE9
    have hkn : ¬ k9 + (m : Int) < 0 := by omega
    generalize k9 + (m : Int) = k9' at hkn
    clear hk9a hk9b
    go_wp2_with fail
    refine (eqObjectS_yes A5 A3 m5 c5 c3 _ _ gs rs _ HE9'.out.g5.objs HE9'.out.w1 (Nat.le_refl _) (by have := HE9'.out.le2; have := HE9'.out.le3; omega) hmx HG.out).mono ?_
    rintro e w10 ⟨rfl, hb10⟩
    have HE10 := hide (HE9'.out.below hb10)
    clear hb10 HE9'
    go_wp2_with fail
    refine (markObjectS_any A5 m5 c5 B5 _ 1 gs _ HE10.out.g5 HE10.out.g5.lim HE10.out.le3 (by omega) (by omega) hm59 HGL.out).mono ?_
    rintro e w11 ⟨rfl, ho11, hc11⟩
    have HE11 := hide (HE10.out.mark5 ho11 hc11)
    clear ho11 hc11 HE10
    have hk11 := (mvO_le 1 gs HGL.out).1
    have hkn11 : ¬ mvO 1 gs < 0 := by omega
    obtain ⟨kk, hkk⟩ : ∃ kk, mvO 1 gs = kk := ⟨_, rfl⟩
    have HKK := hide hkk
    simp only [hkk] at hk11 hkn11
    rw [hkk]
    clear hkk hk11
    go_wp2_with fail
    refine (heldObjectS_any A5 m5 c5 _ 1 gs _ HE11.out.g5.objs (by omega) (by omega) hm59 HGL.out).mono ?_
    rw [HKK.out]
    rintro e w' ⟨rfl, rfl⟩
    go_wp2_with fail
    refine (toObjectS_any A n c w.heap.size qs _ HE11.out.i HE11.out.b.size hn9 HL.out).mono ?_
    rintro e w12 ⟨A12, c12, us, rfl, ho12, hz12, hb12⟩
    have HE12 := hide (HE11.out.below hb12)
    have HO12 := hide ho12.objs
    have HZ12 := hide hz12
    clear hb12 ho12 hz12 HE11
    go_wp2_with fail
    refine (toInts_any X m d w.heap.size ws _ HE12.out.i2 HE12.out.b.size hmi).mono ?_
    rintro e w12' ⟨X12, d12, rfl, hxo12, hxb12⟩
    have HE12' := hide (HE12.out.below hxb12)
    have HO12' := hide (HO12.out.below hxb12 (Nat.le_refl _))
    have hs12 := hxb12.size
    have HXO12 := hide hxo12.ints
    have HXC12 := hide (And.intro hxo12.cap hxo12.nilcap)
    clear hxo12 hxb12 HE12 HO12
    go_wp2_with fail
    refine (implPutO A12 X12 n c12 _ _ m d12 id us ws _ HO12'.out hs12 hn10 HXO12.out (Nat.le_refl _) hm12 HXC12.out.1.1 HXC12.out.1.2 HXC12.out.2).mono ?_
    rw [HZ12.out, HEE.out, HVV.out]
    rintro e w13 ⟨A13, m13, c13, hs, rfl, ho13, hz13, hb13⟩
    obtain rfl : m13 = m5 := by
      have h1 : (obs hs).length = (obs rs).length := by rw [hz13, HZ3.out]
      unfold obs at h1
      rw [List.length_map, List.length_map] at h1
      have h2 := ho13.len
      have h3 := HE12'.out.w1.1
      omega
    have HE13 := hide (HE12'.out.below hb13)
    have HO13 := hide ho13.objs
    have HZ13 := hide (hz13.trans HZ3.out.symm)
    clear ho13 hz13 hb13 HE12' HO12' HZ12 HXO12 hs12
    go_wp2_with fail
    refine (eqObjectS_yes A13 A3 m13 c13 c3 _ _ hs rs _ HO13.out HE13.out.w1 (Nat.le_refl _) (by have := HE13.out.le2; have := HE13.out.le3; omega) hmx HZ13.out).mono ?_
    rintro e w14 ⟨rfl, hb14⟩
    have HE14 := hide (HE13.out.below hb14)
    clear hb14 HE13 HO13 HZ13
    go_wp2_with fail
    refine (heldObjectS_any A5 m13 c5 _ 1 gs _ HE14.out.g5.objs (by omega) (by omega) hm59 HGL.out).mono ?_
    rw [HKK.out]
    rintro e w' ⟨rfl, rfl⟩
    go_wp2
    go_ret
    exact ⟨rfl, HE14.out.b⟩
end Go.Proofs.Ytblainmjmdbanaa
