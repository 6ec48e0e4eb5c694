/-
  The walk of FnWaitNone.
-/
import Derived.Test.YtcekikblgbdcoaaLawB0
import Derived.Test.YtcekikblgbdcoaaDrawB2
namespace Go.Proofs.Ytcekikblgbdcoaa
open Go.RowKit
set_option linter.unusedVariables false
set_option maxRecDepth 100000

set_option maxHeartbeats 6400000 in
theorem waitNone_walk (A : Option Addr) (n c : Nat) (bs : Nat → Int) (w : World) (hb : Bytes w w.heap.size A n bs) (hn : n ≤ c) (hc : c ≤ maxLen) :
    Calls Try.prog 10 #[.slice A n c] w fun e w' => e = .returned (.bool true) ∧ Below w.heap.size w w' := by
  by_cases hbig : 1048576 < n
  · have hd : decide (1048576 < n) = true := by simpa using hbig
    go_enter Try.func10, Try.ntmps10
    go_wp2
    go_ret
    exact ⟨rfl, Below.refl _ _⟩
  have hd : decide (1048576 < n) = false := by simpa using hbig
  go_enter Try.func10, Try.ntmps10
  go_wp2_with fail
  refine (drawBW_any A n c bs _ hb hn hc).mono ?_
  rintro e w1 ⟨l, m, r, t, many, rfl, hrng, hmy, hd1⟩
  obtain ⟨g1, hg1⟩ : ∃ g, w1.heap.size = g := ⟨_, rfl⟩
  have HK1 := hide (((Kp.refl w).step hd1).pushN g1 hg1 24 #[.int .i64 l, .int .i64 m, .int .i64 r, .int .i64 t])
  clear hb hd1
  have HP1 := hide fun (W : World) => implBW l m r t many W
  have HP2 := hide fun (W : World) => specBW l m r t many W
  go_wp2_with fail
  refine (HP1.out _).mono ?_
  rintro e w2 ⟨X, rfl, hX, hb2⟩
  have HK2 := hide (HK1.out.step hb2)
  clear hb2 HK1 HP1
  obtain ⟨⟨c00, c01, c02, c03⟩, -⟩ := HK2.out.cells4
  go_wp2_with fail
  refine (HP2.out _).mono ?_
  rintro e w3 ⟨X', rfl, hX', hb3⟩
  obtain rfl : X = X' := wait_one hX hX'
  have HK3 := hide (HK2.out.step hb3)
  clear hb3 HK2 HP2 c00 c01 c02 c03 hX' hg1
  obtain ⟨⟨c00, c01, c02, c03⟩, -⟩ := HK3.out.cells4
  have HP3 := hide fun (W : World) => specBV l m r t W
  have HE3 := hide HK3.out.below
  rcases hv : bkV ⟨l, m, r, t⟩ with _ | _
  · rw [hv] at HP3
    clear hX hv
    go_wp2_with fail
    refine (HP3.out _).mono ?_
    rintro e w4 ⟨rfl, hb4⟩
    try clear c00 c01 c02 c03
    have HK4 := hide (HK3.out.step hb4)
    clear hb4 HK3 HP3
    obtain ⟨⟨c00, c01, c02, c03⟩, -⟩ := HK4.out.cells4
    have HE := hide HK4.out.below
    go_wp2
    go_ret
    exact ⟨rfl, HE.out⟩
  have hok := (bkV_iff _).1 hv
  rw [hv] at HP3
  clear hv
  by_cases h0 : many < 0
  · have hd0 : decide (many < 0) = true := by simpa using h0
    clear hX hok
    go_wp2_with fail
    refine (HP3.out _).mono ?_
    rintro e w4 ⟨rfl, hb4⟩
    try clear c00 c01 c02 c03
    have HK4 := hide (HK3.out.step hb4)
    clear hb4 HK3 HP3
    obtain ⟨⟨c00, c01, c02, c03⟩, -⟩ := HK4.out.cells4
    have HE := hide HK4.out.below
    go_wp2
    go_ret
    exact ⟨rfl, HE.out⟩
  have hd0 : decide (many < 0) = false := by simpa using h0
  have h100 : many ≤ 100 := by omega
  have hd100 : decide (100 < many) = false := by simp; omega
  have hfin := wait_none hok (show mayT many from ⟨by omega, h100⟩) hX
  simp only at hfin
  obtain ⟨hf1, hf2⟩ := hfin
  clear hX hok
  by_cases hm1 : many ≤ m
  · have dm1 : decide (many ≤ m) = true := by simpa using hm1
    by_cases hm2 : l < many
    · have dm2 : decide (l < many) = true := by simpa using hm2
      go_wp2_with fail
      refine (HP3.out _).mono ?_
      rintro e w4 ⟨rfl, hb4⟩
      try clear c00 c01 c02 c03
      have HK4 := hide (HK3.out.step hb4)
      clear hb4 HK3 HP3
      obtain ⟨⟨c00, c01, c02, c03⟩, -⟩ := HK4.out.cells4
      have HE := hide HK4.out.below
      go_wp2
      go_ret
      exact ⟨rfl, HE.out⟩
    · have dm2 : decide (l < many) = false := by simpa using hm2
      obtain rfl : X = t := hf2 (by omega)
      go_wp2_with fail
      refine (HP3.out _).mono ?_
      rintro e w4 ⟨rfl, hb4⟩
      try clear c00 c01 c02 c03
      have HK4 := hide (HK3.out.step hb4)
      clear hb4 HK3 HP3
      obtain ⟨⟨c00, c01, c02, c03⟩, -⟩ := HK4.out.cells4
      have HE := hide HK4.out.below
      go_wp2
      go_ret
      exact ⟨rfl, HE.out⟩
  · have dm1 : decide (many ≤ m) = false := by simpa using hm1
    obtain rfl : X = -1 := hf1 (by omega)
    by_cases hm2 : l < many
    · have dm2 : decide (l < many) = true := by simpa using hm2
      go_wp2_with fail
      refine (HP3.out _).mono ?_
      rintro e w4 ⟨rfl, hb4⟩
      try clear c00 c01 c02 c03
      have HK4 := hide (HK3.out.step hb4)
      clear hb4 HK3 HP3
      obtain ⟨⟨c00, c01, c02, c03⟩, -⟩ := HK4.out.cells4
      have HE := hide HK4.out.below
      go_wp2
      go_ret
      exact ⟨rfl, HE.out⟩
    · have dm2 : decide (l < many) = false := by simpa using hm2
      obtain rfl : -1 = t := hf2 (by omega)
      go_wp2_with fail
      refine (HP3.out _).mono ?_
      rintro e w4 ⟨rfl, hb4⟩
      try clear c00 c01 c02 c03
      have HK4 := hide (HK3.out.step hb4)
      clear hb4 HK3 HP3
      obtain ⟨⟨c00, c01, c02, c03⟩, -⟩ := HK4.out.cells4
      have HE := hide HK4.out.below
      go_wp2
      go_ret
      exact ⟨rfl, HE.out⟩
end Go.Proofs.Ytcekikblgbdcoaa
