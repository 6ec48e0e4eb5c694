/-
  The walk of FnBucketAt.
-/
import Derived.Test.YtcekikblgbdcoaaLawB0
import Derived.Test.YtcekikblgbdcoaaDrawB3
namespace Go.Proofs.Ytcekikblgbdcoaa
open Go.RowKit
set_option linter.unusedVariables false
set_option maxRecDepth 100000

set_option maxHeartbeats 6400000 in
theorem bucketAt_walk (A : Option Addr) (n c : Nat) (bs : Nat → Int) (A2 : Option Addr) (n2 c2 : Nat) (bs2 : Nat → Int) (w : World) (hb : Bytes w w.heap.size A n bs) (hn : n ≤ c) (hc : c ≤ maxLen) (hb2 : Bytes w w.heap.size A2 n2 bs2) (hn2 : n2 ≤ c2) (hc2 : c2 ≤ maxLen) :
    Calls Try.prog 3 #[.slice A n c, .slice A2 n2 c2] w fun e w' => e = .returned (.bool true) ∧ Below w.heap.size w w' := by
  by_cases hbig : 1048576 < n
  · have hd : decide (1048576 < n) = true := by simpa using hbig
    go_enter Try.func3, Try.ntmps3
    go_wp2
    go_ret
    exact ⟨rfl, Below.refl _ _⟩
  have hd : decide (1048576 < n) = false := by simpa using hbig
  by_cases hbig2 : 1048576 < n2
  · have hd2 : decide (1048576 < n2) = true := by simpa using hbig2
    go_enter Try.func3, Try.ntmps3
    go_wp2
    go_ret
    exact ⟨rfl, Below.refl _ _⟩
  have hd2 : decide (1048576 < n2) = false := by simpa using hbig2
  go_enter Try.func3, Try.ntmps3
  go_wp2_with fail
  refine (drawBA_any A n c bs _ hb hn hc).mono ?_
  rintro e w1 ⟨l, m, r, t, T, rfl, hrng, hT, hd1⟩
  obtain ⟨g1, hg1⟩ : ∃ g, w1.heap.size = g := ⟨_, rfl⟩
  have HK1 := hide (((Kp.refl w).step hd1).pushN g1 hg1 24 #[.int .i64 l, .int .i64 m, .int .i64 r, .int .i64 t])
  clear hb hd1 hb2
  by_cases hin : inT ⟨l, m, r, t⟩ T
  case neg =>
    have HP1 := hide fun (W : World) => implBA_no (T := T) hin W
    have HP2 := hide fun (W : World) => specBA_no (T := T) hin W
    clear hin
    go_wp2_with fail
    refine (HP1.out _).mono ?_
    rintro e w2 ⟨rfl, hb2⟩
    obtain ⟨g2, hg2⟩ : ∃ g, w2.heap.size = g := ⟨_, rfl⟩
    have HK2 := hide ((HK1.out.step hb2).pushN g2 hg2 24 #[.int .i64 0, .int .i64 0, .int .i64 0, .int .i64 0])
    clear hb2 HK1 HP1
    obtain ⟨⟨c00, c01, c02, c03⟩, -⟩ := HK2.out.cells4
    obtain ⟨⟨c10, c11, c12, c13⟩, -⟩ := HK2.out.tl.cells4
    go_wp2_with fail
    refine (HP2.out _).mono ?_
    rintro e w3 ⟨rfl, hb3⟩
    try clear c00 c01 c02 c03 c10 c11 c12 c13
    obtain ⟨g3, hg3⟩ : ∃ g, w3.heap.size = g := ⟨_, rfl⟩
    have HK3 := hide ((HK2.out.step hb3).pushN g3 hg3 24 #[.int .i64 0, .int .i64 0, .int .i64 0, .int .i64 0])
    clear hb3 HK2 HP2
    obtain ⟨⟨c00, c01, c02, c03⟩, -⟩ := HK3.out.cells4
    obtain ⟨⟨c10, c11, c12, c13⟩, -⟩ := HK3.out.tl.cells4
    obtain ⟨⟨c20, c21, c22, c23⟩, -⟩ := HK3.out.tl.tl.cells4
    have HE := hide HK3.out.below
    go_wp2
    go_ret
    exact ⟨rfl, HE.out⟩
  have HP1 := hide fun (W : World) => implBA_yes hin W
  have HP2 := hide fun (W : World) => specBA_yes hin W
  obtain ⟨K, hK⟩ : ∃ K, lvl ⟨l, m, r, t⟩ (T - t) = K := ⟨_, rfl⟩
  rw [hK] at HP1 HP2
  have HIN := hide hin
  have HKK := hide hK
  have hT1 : t ≤ T := hin.2.1
  have hT2 : T ≤ 999 := hin.2.2
  have ht0 : 0 ≤ t := hin.1.2.2.2.2.2.2.1
  have hmod0 : 0 ≤ (n2 : Int) % (T - t + 1) := Int.emod_nonneg _ (by omega)
  have hmod1 : (n2 : Int) % (T - t + 1) < T - t + 1 := Int.emod_lt_of_pos _ (by omega)
  have htm : (n2 : Int).tmod (T - t + 1) = (n2 : Int) % (T - t + 1) := Int.tmod_eq_emod_of_nonneg (by omega)
  obtain ⟨D, hD⟩ : ∃ D, (n2 : Int) % (T - t + 1) = D := ⟨_, rfl⟩
  rw [hD] at hmod0 hmod1 htm
  have w1' : IntKind.i64.wrap (T - t) = T - t := IntWalk.i64_in _ (by omega)
  have w2' : IntKind.i64.wrap (T - t + 1) = T - t + 1 := IntWalk.i64_in _ (by omega)
  have w3' : IntKind.i64.wrap (t + D) = t + D := IntWalk.i64_in _ (by omega)
  have hne : ¬ T - t + 1 = 0 := by omega
  have hin2 : inT ⟨l, m, r, t⟩ (t + D) := ⟨hin.1, by simp only; omega, by omega⟩
  obtain ⟨K1, hK1⟩ : ∃ K1, lvl ⟨l, m, r, t⟩ (t + D - t) = K1 := ⟨_, rfl⟩
  have hin3 : inT ⟨K1, m, r, t + D⟩ T := ⟨by rw [← hK1]; exact ok_at hin.1 (by omega) (by omega) (by omega) (by omega), by simp only; omega, hT2⟩
  have hst : lvl ⟨K1, m, r, t + D⟩ (T - (t + D)) = K := by
    rw [← hK1, lvl_step hin.1 (by omega) (by omega) (by omega) (by omega), show t + D - t + (T - (t + D)) = T - t from by omega, hK]
  have HP3 := hide fun (W : World) => implBA_yes hin2 W
  rw [hK1] at HP3
  have HP4 := hide fun (W : World) => implBA_yes hin3 W
  rw [hst] at HP4
  have HP5 := hide fun (W : World) => implBV K m r T W
  rw [(bkV_iff ⟨K, m, r, T⟩).2 (by rw [← hK]; exact ok_at hin.1 (by omega) (by omega) (by omega) hT2)] at HP5
  clear hin hin2 hin3 hst hK hK1 HIN HKK
  go_wp2_with fail
  refine (HP1.out _).mono ?_
  rintro e w2 ⟨rfl, hb2⟩
  obtain ⟨g2, hg2⟩ : ∃ g, w2.heap.size = g := ⟨_, rfl⟩
  have HK2 := hide ((HK1.out.step hb2).pushN g2 hg2 24 #[.int .i64 K, .int .i64 m, .int .i64 r, .int .i64 T])
  clear hb2 HK1 HP1
  obtain ⟨⟨c00, c01, c02, c03⟩, -⟩ := HK2.out.cells4
  obtain ⟨⟨c10, c11, c12, c13⟩, -⟩ := HK2.out.tl.cells4
  go_wp2_with fail
  refine (HP2.out _).mono ?_
  rintro e w3 ⟨rfl, hb3⟩
  try clear c00 c01 c02 c03 c10 c11 c12 c13
  obtain ⟨g3, hg3⟩ : ∃ g, w3.heap.size = g := ⟨_, rfl⟩
  have HK3 := hide ((HK2.out.step hb3).pushN g3 hg3 24 #[.int .i64 K, .int .i64 m, .int .i64 r, .int .i64 T])
  clear hb3 HK2 HP2
  obtain ⟨⟨c00, c01, c02, c03⟩, -⟩ := HK3.out.cells4
  obtain ⟨⟨c10, c11, c12, c13⟩, -⟩ := HK3.out.tl.cells4
  obtain ⟨⟨c20, c21, c22, c23⟩, -⟩ := HK3.out.tl.tl.cells4
  go_upto_region 8 with fail
  go_quiet (fail)
  have HK4 := hide (HK3.out.drewN nq)
  try clear c00 c01 c02 c03 c10 c11 c12 c13 c20 c21 c22 c23
  clear HK3 hg1 hg2 hg3
  generalize (w3.alloc (.cells #[.int .i64 K, .int .i64 m, .int .i64 r, .int .i64 T] 24)).drewN nq = w4 at HK4 ⊢
  obtain ⟨⟨c00, c01, c02, c03⟩, -⟩ := HK4.out.cells4
  obtain ⟨⟨c10, c11, c12, c13⟩, -⟩ := HK4.out.tl.cells4
  obtain ⟨⟨c20, c21, c22, c23⟩, -⟩ := HK4.out.tl.tl.cells4
  go_wp2_with fail
  refine (HP3.out _).mono ?_
  rintro e w5 ⟨rfl, hb5⟩
  try clear c00 c01 c02 c03 c10 c11 c12 c13 c20 c21 c22 c23
  obtain ⟨g5, hg5⟩ : ∃ g, w5.heap.size = g := ⟨_, rfl⟩
  have HK5 := hide ((HK4.out.step hb5).pushN g5 hg5 24 #[.int .i64 K1, .int .i64 m, .int .i64 r, .int .i64 (t + D)])
  clear hb5 HK4 HP3
  obtain ⟨⟨c00, c01, c02, c03⟩, -⟩ := HK5.out.cells4
  obtain ⟨⟨c10, c11, c12, c13⟩, -⟩ := HK5.out.tl.cells4
  obtain ⟨⟨c20, c21, c22, c23⟩, -⟩ := HK5.out.tl.tl.cells4
  obtain ⟨⟨c30, c31, c32, c33⟩, -⟩ := HK5.out.tl.tl.tl.cells4
  go_wp2_with fail
  refine (HP4.out _).mono ?_
  rintro e w6 ⟨rfl, hb6⟩
  try clear c00 c01 c02 c03 c10 c11 c12 c13 c20 c21 c22 c23 c30 c31 c32 c33
  obtain ⟨g6, hg6⟩ : ∃ g, w6.heap.size = g := ⟨_, rfl⟩
  have HK6 := hide ((HK5.out.step hb6).pushN g6 hg6 24 #[.int .i64 K, .int .i64 m, .int .i64 r, .int .i64 T])
  clear hb6 HK5 HP4
  obtain ⟨⟨c00, c01, c02, c03⟩, -⟩ := HK6.out.cells4
  obtain ⟨⟨c10, c11, c12, c13⟩, -⟩ := HK6.out.tl.cells4
  obtain ⟨⟨c20, c21, c22, c23⟩, -⟩ := HK6.out.tl.tl.cells4
  obtain ⟨⟨c30, c31, c32, c33⟩, -⟩ := HK6.out.tl.tl.tl.cells4
  obtain ⟨⟨c40, c41, c42, c43⟩, -⟩ := HK6.out.tl.tl.tl.tl.cells4
  go_wp2_with fail
  refine (HP5.out _).mono ?_
  rintro e w7 ⟨rfl, hb7⟩
  try clear c00 c01 c02 c03 c10 c11 c12 c13 c20 c21 c22 c23 c30 c31 c32 c33 c40 c41 c42 c43
  have HK7 := hide (HK6.out.step hb7)
  clear hb7 HK6 HP5
  obtain ⟨⟨c00, c01, c02, c03⟩, -⟩ := HK7.out.cells4
  obtain ⟨⟨c10, c11, c12, c13⟩, -⟩ := HK7.out.tl.cells4
  obtain ⟨⟨c20, c21, c22, c23⟩, -⟩ := HK7.out.tl.tl.cells4
  obtain ⟨⟨c30, c31, c32, c33⟩, -⟩ := HK7.out.tl.tl.tl.cells4
  obtain ⟨⟨c40, c41, c42, c43⟩, -⟩ := HK7.out.tl.tl.tl.tl.cells4
  have HE := hide HK7.out.below
  go_wp2
  go_ret
  exact ⟨rfl, HE.out⟩
end Go.Proofs.Ytcekikblgbdcoaa
