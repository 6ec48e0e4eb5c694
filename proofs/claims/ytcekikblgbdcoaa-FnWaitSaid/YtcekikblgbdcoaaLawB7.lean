/-
  The walk of FnWait.
-/
import Derived.Test.YtcekikblgbdcoaaLawB0
import Derived.Test.YtcekikblgbdcoaaDrawB2
namespace Go.Proofs.Ytcekikblgbdcoaa
open Go.RowKit
set_option linter.unusedVariables false
set_option maxRecDepth 100000

set_option maxHeartbeats 6400000 in
theorem wait_walk (A : Option Addr) (n c : Nat) (bs : Nat → Int) (w : World) (hb : Bytes w w.heap.size A n bs) (hn : n ≤ c) (hc : c ≤ maxLen) :
    Calls Try.prog 9 #[.slice A n c] w fun e w' => e = .returned (.bool true) ∧ Below w.heap.size w w' := by
  by_cases hbig : 1048576 < n
  · have hd : decide (1048576 < n) = true := by simpa using hbig
    go_enter Try.func9, Try.ntmps9
    go_wp2
    go_ret
    exact ⟨rfl, Below.refl _ _⟩
  have hd : decide (1048576 < n) = false := by simpa using hbig
  go_enter Try.func9, Try.ntmps9
  go_wp2_with fail
  refine (drawBW_any A n c bs _ hb hn hc).mono ?_
  rintro e w1 ⟨l, m, r, t, many, rfl, hrng, hmy, hd1⟩
  obtain ⟨g1, hg1⟩ : ∃ g, w1.heap.size = g := ⟨_, rfl⟩
  have HK1 := hide (((Kp.refl w).step hd1).pushN g1 hg1 24 #[.int .i64 l, .int .i64 m, .int .i64 r, .int .i64 t])
  clear hb hd1
  have HP1 := hide fun (W : World) => implBW l m r t many W
  have HP2 := hide fun (W : World) => specBW l m r t many W
  go_wp2_with fail
  refine (HP1.out _).mono ?_
  rintro e w2 ⟨X, rfl, hX, hb2⟩
  have HK2 := hide (HK1.out.step hb2)
  clear hb2 HK1 HP1
  obtain ⟨⟨c00, c01, c02, c03⟩, -⟩ := HK2.out.cells4
  go_wp2_with fail
  refine (HP2.out _).mono ?_
  rintro e w3 ⟨X', rfl, hX', hb3⟩
  obtain rfl : X = X' := wait_one hX hX'
  have HK3 := hide (HK2.out.step hb3)
  clear hb3 HK2 HP2 c00 c01 c02 c03 hX' hg1
  obtain ⟨⟨c00, c01, c02, c03⟩, -⟩ := HK3.out.cells4
  by_cases hneg : X < 0
  · have hdn : decide (X < 0) = true := by simpa using hneg
    have HE := hide HK3.out.below
    clear hX
    go_wp2
    go_ret
    exact ⟨rfl, HE.out⟩
  have hdn : decide (X < 0) = false := by simpa using hneg
  rcases hX with ⟨_, e⟩ | ⟨hok, hmay, ⟨e, _⟩ | ⟨hX1, hX2, hX3, hX4⟩⟩
  · omega
  · omega
  simp only at hX1 hX3 hX4
  have ht0 : 0 ≤ t := hok.2.2.2.2.2.2.1
  have hlr := lvl_rng hok (k := X - t) (by omega) (by omega)
  have HP3 := hide fun (W : World) => implBT l m r t X many W
  rw [takB_do (show inT ⟨l, m, r, t⟩ X from ⟨hok, hX1, hX2⟩) hmay (by simp only; exact hX3)] at HP3
  simp only at HP3
  generalize lvl ⟨l, m, r, t⟩ (X - t) = K at HP3 hX3 hlr
  have hdt : decide (t ≤ X) = true := by simpa using hX1
  by_cases hgt : t < X
  · have hdg : decide (t < X) = true := by simpa using hgt
    have HP4 := hide fun (W : World) => implBT l m r t (X - 1) many W
    rw [takB_low (b := ⟨l, m, r, t⟩) (T := X - 1) (many := many) (hX4 (X - 1) (by omega) (by omega))] at HP4
    generalize (takB ⟨l, m, r, t⟩ (X - 1) many).1 = q at HP4
    obtain ⟨qa, qb, qc, qd⟩ := q
    simp only at HP4
    have wx : IntKind.i64.wrap (X - 1) = X - 1 := IntWalk.i64_in _ (by omega)
    clear hX4 hok hmay
    go_wp2_with fail
    refine (HP3.out _).mono ?_
    rintro e w4 ⟨rfl, hb4⟩
    try clear c00 c01 c02 c03
    obtain ⟨g4, hg4⟩ : ∃ g, w4.heap.size = g := ⟨_, rfl⟩
    have HK4 := hide ((HK3.out.step hb4).pushN g4 hg4 24 #[.int .i64 (K - many), .int .i64 m, .int .i64 r, .int .i64 X])
    clear hb4 HK3 HP3
    obtain ⟨⟨c00, c01, c02, c03⟩, -⟩ := HK4.out.cells4
    obtain ⟨⟨c10, c11, c12, c13⟩, -⟩ := HK4.out.tl.cells4
    go_wp2_with fail
    refine (HP4.out _).mono ?_
    rintro e w5 ⟨rfl, hb5⟩
    try clear c00 c01 c02 c03 c10 c11 c12 c13
    have HK5 := hide (HK4.out.step hb5)
    clear hb5 HK4 HP4
    obtain ⟨⟨c00, c01, c02, c03⟩, -⟩ := HK5.out.cells4
    obtain ⟨⟨c10, c11, c12, c13⟩, -⟩ := HK5.out.tl.cells4
    have HE := hide HK5.out.below
    go_wp2
    go_ret
    exact ⟨rfl, HE.out⟩
  · have hdg : decide (t < X) = false := by simpa using hgt
    clear hX4 hok hmay
    go_wp2_with fail
    refine (HP3.out _).mono ?_
    rintro e w4 ⟨rfl, hb4⟩
    try clear c00 c01 c02 c03
    obtain ⟨g4, hg4⟩ : ∃ g, w4.heap.size = g := ⟨_, rfl⟩
    have HK4 := hide ((HK3.out.step hb4).pushN g4 hg4 24 #[.int .i64 (K - many), .int .i64 m, .int .i64 r, .int .i64 X])
    clear hb4 HK3 HP3
    obtain ⟨⟨c00, c01, c02, c03⟩, -⟩ := HK4.out.cells4
    obtain ⟨⟨c10, c11, c12, c13⟩, -⟩ := HK4.out.tl.cells4
    have HE := hide HK4.out.below
    go_wp2
    go_ret
    exact ⟨rfl, HE.out⟩
end Go.Proofs.Ytcekikblgbdcoaa
