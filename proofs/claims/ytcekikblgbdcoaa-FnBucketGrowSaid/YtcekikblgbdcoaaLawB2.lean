/-
  The walk of FnBucketGrow.
-/
import Derived.Test.YtcekikblgbdcoaaLawB0
import Derived.Test.YtcekikblgbdcoaaDrawB3
namespace Go.Proofs.Ytcekikblgbdcoaa
open Go.RowKit
set_option linter.unusedVariables false
set_option maxRecDepth 100000

set_option maxHeartbeats 6400000 in
theorem bucketGrow_walk (A : Option Addr) (n c : Nat) (bs : Nat → Int) (w : World) (hb : Bytes w w.heap.size A n bs) (hn : n ≤ c) (hc : c ≤ maxLen) :
    Calls Try.prog 4 #[.slice A n c] w fun e w' => e = .returned (.bool true) ∧ Below w.heap.size w w' := by
  by_cases hbig : 1048576 < n
  · have hd : decide (1048576 < n) = true := by simpa using hbig
    go_enter Try.func4, Try.ntmps4
    go_wp2
    go_ret
    exact ⟨rfl, Below.refl _ _⟩
  have hd : decide (1048576 < n) = false := by simpa using hbig
  go_enter Try.func4, Try.ntmps4
  go_wp2_with fail
  refine (drawBA_any A n c bs _ hb hn hc).mono ?_
  rintro e w1 ⟨l, m, r, t, T, rfl, hrng, hT, hd1⟩
  obtain ⟨g1, hg1⟩ : ∃ g, w1.heap.size = g := ⟨_, rfl⟩
  have HK1 := hide (((Kp.refl w).step hd1).pushN g1 hg1 24 #[.int .i64 l, .int .i64 m, .int .i64 r, .int .i64 t])
  clear hb hd1
  by_cases hin : inT ⟨l, m, r, t⟩ T
  case neg =>
    have HP1 := hide fun (W : World) => implBA_no (T := T) hin W
    have HP2 := hide fun (W : World) => specBA_no (T := T) hin W
    clear hin
    go_wp2_with fail
    refine (HP1.out _).mono ?_
    rintro e w2 ⟨rfl, hb2⟩
    obtain ⟨g2, hg2⟩ : ∃ g, w2.heap.size = g := ⟨_, rfl⟩
    have HK2 := hide ((HK1.out.step hb2).pushN g2 hg2 24 #[.int .i64 0, .int .i64 0, .int .i64 0, .int .i64 0])
    clear hb2 HK1 HP1
    obtain ⟨⟨c00, c01, c02, c03⟩, -⟩ := HK2.out.cells4
    obtain ⟨⟨c10, c11, c12, c13⟩, -⟩ := HK2.out.tl.cells4
    go_wp2_with fail
    refine (HP2.out _).mono ?_
    rintro e w3 ⟨rfl, hb3⟩
    try clear c00 c01 c02 c03 c10 c11 c12 c13
    obtain ⟨g3, hg3⟩ : ∃ g, w3.heap.size = g := ⟨_, rfl⟩
    have HK3 := hide ((HK2.out.step hb3).pushN g3 hg3 24 #[.int .i64 0, .int .i64 0, .int .i64 0, .int .i64 0])
    clear hb3 HK2 HP2
    obtain ⟨⟨c00, c01, c02, c03⟩, -⟩ := HK3.out.cells4
    obtain ⟨⟨c10, c11, c12, c13⟩, -⟩ := HK3.out.tl.cells4
    obtain ⟨⟨c20, c21, c22, c23⟩, -⟩ := HK3.out.tl.tl.cells4
    have HE := hide HK3.out.below
    go_wp2
    go_ret
    exact ⟨rfl, HE.out⟩
  have HP1 := hide fun (W : World) => implBA_yes hin W
  have HP2 := hide fun (W : World) => specBA_yes hin W
  obtain ⟨K, hK⟩ : ∃ K, lvl ⟨l, m, r, t⟩ (T - t) = K := ⟨_, rfl⟩
  rw [hK] at HP1 HP2
  have HIN := hide hin
  have HKK := hide hK
  obtain ⟨hok, hT1, hT2⟩ := hin
  obtain ⟨h1, h2, h3, h4, h5, h6, h7, h8⟩ := hok
  simp only at *
  have hp := prod_rng h5 h6 (k := T - t) (by omega) (by omega)
  obtain ⟨p, hpe⟩ : ∃ p, r * (T - t) = p := ⟨_, rfl⟩
  rw [hpe] at hp
  have hcase : (l + p ≤ m ∧ K = l + p) ∨ (m < l + p ∧ K = m) := by
    rw [← hK]; unfold lvl; simp only; rw [hpe]; split <;> omega
  have w1' : IntKind.i64.wrap (T - t) = T - t := IntWalk.i64_in _ (by omega)
  have w2' : IntKind.i64.wrap (r * (T - t)) = p := by rw [hpe]; exact IntWalk.i64_in _ (by omega)
  have w3' : IntKind.i64.wrap (l + p) = l + p := IntWalk.i64_in _ (by omega)
  clear hK hpe HIN HKK
  rcases hcase with ⟨c1', hKe⟩ | ⟨c1', hKe⟩ <;> rw [hKe] at HP1 HP2 <;> clear hKe
  · have c2' : ¬ m < l + p := by omega
    go_wp2_with fail
    refine (HP1.out _).mono ?_
    rintro e w2 ⟨rfl, hb2⟩
    obtain ⟨g2, hg2⟩ : ∃ g, w2.heap.size = g := ⟨_, rfl⟩
    have HK2 := hide ((HK1.out.step hb2).pushN g2 hg2 24 #[.int .i64 (l + p), .int .i64 m, .int .i64 r, .int .i64 T])
    clear hb2 HK1 HP1
    obtain ⟨⟨c00, c01, c02, c03⟩, -⟩ := HK2.out.cells4
    obtain ⟨⟨c10, c11, c12, c13⟩, -⟩ := HK2.out.tl.cells4
    go_wp2_with fail
    refine (HP2.out _).mono ?_
    rintro e w3 ⟨rfl, hb3⟩
    try clear c00 c01 c02 c03 c10 c11 c12 c13
    obtain ⟨g3, hg3⟩ : ∃ g, w3.heap.size = g := ⟨_, rfl⟩
    have HK3 := hide ((HK2.out.step hb3).pushN g3 hg3 24 #[.int .i64 (l + p), .int .i64 m, .int .i64 r, .int .i64 T])
    clear hb3 HK2 HP2
    obtain ⟨⟨c00, c01, c02, c03⟩, -⟩ := HK3.out.cells4
    obtain ⟨⟨c10, c11, c12, c13⟩, -⟩ := HK3.out.tl.cells4
    obtain ⟨⟨c20, c21, c22, c23⟩, -⟩ := HK3.out.tl.tl.cells4
    have HE := hide HK3.out.below
    go_wp2
    go_ret
    exact ⟨rfl, HE.out⟩
  · have c2' : ¬ l + p ≤ m := by omega
    go_wp2_with fail
    refine (HP1.out _).mono ?_
    rintro e w2 ⟨rfl, hb2⟩
    obtain ⟨g2, hg2⟩ : ∃ g, w2.heap.size = g := ⟨_, rfl⟩
    have HK2 := hide ((HK1.out.step hb2).pushN g2 hg2 24 #[.int .i64 m, .int .i64 m, .int .i64 r, .int .i64 T])
    clear hb2 HK1 HP1
    obtain ⟨⟨c00, c01, c02, c03⟩, -⟩ := HK2.out.cells4
    obtain ⟨⟨c10, c11, c12, c13⟩, -⟩ := HK2.out.tl.cells4
    go_wp2_with fail
    refine (HP2.out _).mono ?_
    rintro e w3 ⟨rfl, hb3⟩
    try clear c00 c01 c02 c03 c10 c11 c12 c13
    obtain ⟨g3, hg3⟩ : ∃ g, w3.heap.size = g := ⟨_, rfl⟩
    have HK3 := hide ((HK2.out.step hb3).pushN g3 hg3 24 #[.int .i64 m, .int .i64 m, .int .i64 r, .int .i64 T])
    clear hb3 HK2 HP2
    obtain ⟨⟨c00, c01, c02, c03⟩, -⟩ := HK3.out.cells4
    obtain ⟨⟨c10, c11, c12, c13⟩, -⟩ := HK3.out.tl.cells4
    obtain ⟨⟨c20, c21, c22, c23⟩, -⟩ := HK3.out.tl.tl.cells4
    have HE := hide HK3.out.below
    go_wp2
    go_ret
    exact ⟨rfl, HE.out⟩
end Go.Proofs.Ytcekikblgbdcoaa
