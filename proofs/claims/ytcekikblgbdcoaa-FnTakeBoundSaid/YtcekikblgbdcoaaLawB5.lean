/-
  The walk of FnTakeBound.
-/
import Derived.Test.YtcekikblgbdcoaaLawB0
import Derived.Test.YtcekikblgbdcoaaDrawB4
namespace Go.Proofs.Ytcekikblgbdcoaa
open Go.RowKit
set_option linter.unusedVariables false
set_option maxRecDepth 100000

set_option maxHeartbeats 6400000 in
theorem takeBound_walk (A : Option Addr) (n c : Nat) (bs : Nat → Int) (w : World) (hb : Bytes w w.heap.size A n bs) (hn : n ≤ c) (hc : c ≤ maxLen) :
    Calls Try.prog 7 #[.slice A n c] w fun e w' => e = .returned (.bool true) ∧ Below w.heap.size w w' := by
  by_cases hbig : 1048576 < n
  · have hd : decide (1048576 < n) = true := by simpa using hbig
    go_enter Try.func7, Try.ntmps7
    go_wp2
    go_ret
    exact ⟨rfl, Below.refl _ _⟩
  have hd : decide (1048576 < n) = false := by simpa using hbig
  go_enter Try.func7, Try.ntmps7
  go_wp2_with fail
  refine (drawBT_any A n c bs _ hb hn hc).mono ?_
  rintro e w1 ⟨l, m, r, t, T, many, rfl, hrng, hT, hmy, hd1⟩
  obtain ⟨g1, hg1⟩ : ∃ g, w1.heap.size = g := ⟨_, rfl⟩
  have HK1 := hide (((Kp.refl w).step hd1).pushN g1 hg1 24 #[.int .i64 l, .int .i64 m, .int .i64 r, .int .i64 t])
  clear hb hd1
  rcases hk : (takB ⟨l, m, r, t⟩ T many).2 with _ | _
  · have HP1 := hide fun (W : World) => implBT l m r t T many W
    have HP2 := hide fun (W : World) => specBT l m r t T many W
    rw [hk] at HP1 HP2
    generalize (takB ⟨l, m, r, t⟩ T many).1 = q at HP1 HP2
    obtain ⟨qa, qb, qc, qd⟩ := q
    simp only at HP1 HP2
    clear hk
    go_wp2_with fail
    refine (HP1.out _).mono ?_
    rintro e w2 ⟨rfl, hb2⟩
    obtain ⟨g2, hg2⟩ : ∃ g, w2.heap.size = g := ⟨_, rfl⟩
    have HK2 := hide ((HK1.out.step hb2).pushN g2 hg2 24 #[.int .i64 qa, .int .i64 qb, .int .i64 qc, .int .i64 qd])
    clear hb2 HK1 HP1
    obtain ⟨⟨c00, c01, c02, c03⟩, -⟩ := HK2.out.cells4
    obtain ⟨⟨c10, c11, c12, c13⟩, -⟩ := HK2.out.tl.cells4
    go_wp2_with fail
    refine (HP2.out _).mono ?_
    rintro e w3 ⟨rfl, hb3⟩
    try clear c00 c01 c02 c03 c10 c11 c12 c13
    obtain ⟨g3, hg3⟩ : ∃ g, w3.heap.size = g := ⟨_, rfl⟩
    have HK3 := hide ((HK2.out.step hb3).pushN g3 hg3 24 #[.int .i64 qa, .int .i64 qb, .int .i64 qc, .int .i64 qd])
    clear hb3 HK2 HP2
    obtain ⟨⟨c00, c01, c02, c03⟩, -⟩ := HK3.out.cells4
    obtain ⟨⟨c10, c11, c12, c13⟩, -⟩ := HK3.out.tl.cells4
    obtain ⟨⟨c20, c21, c22, c23⟩, -⟩ := HK3.out.tl.tl.cells4
    have HE := hide HK3.out.below
    go_wp2
    go_ret
    exact ⟨rfl, HE.out⟩
  obtain ⟨hin, hmay, hle, hte⟩ := takB_yes hk
  have HP1 := hide fun (W : World) => implBT l m r t T many W
  have HP2 := hide fun (W : World) => specBT l m r t T many W
  rw [hte] at HP1 HP2
  simp only at HP1 HP2
  have hok := hin.1
  have hT1 : t ≤ T := hin.2.1
  have hT2 : T ≤ 999 := hin.2.2
  have ht0 : 0 ≤ t := hin.1.2.2.2.2.2.2.1
  have hl0 : 0 ≤ l := hin.1.2.2.1
  have hm100 : m ≤ 100 := hin.1.2.1
  have hmany0 : 0 ≤ many := hmay.1
  have hlr := lvl_rng hin.1 (k := T - t) (by omega) (by omega)
  obtain ⟨K, hK⟩ : ∃ K, lvl ⟨l, m, r, t⟩ (T - t) = K := ⟨_, rfl⟩
  rw [hK] at HP1 HP2 hle hlr
  simp only at hlr
  have wk : IntKind.i64.wrap (K - many) = K - many := IntWalk.i64_in _ (by omega)
  clear hk hte
  have hp := prod_rng (r := r) hok.2.2.2.2.1 hok.2.2.2.2.2.1 (k := T - t) (by omega) (by omega)
  obtain ⟨p, hpe⟩ : ∃ p, r * (T - t) = p := ⟨_, rfl⟩
  rw [hpe] at hp
  have hKp : K ≤ l + p := by
    rw [← hK]; unfold lvl; simp only; rw [hpe]; split <;> omega
  have w1' : IntKind.i64.wrap (T - t) = T - t := IntWalk.i64_in _ (by omega)
  have w2' : IntKind.i64.wrap (r * (T - t)) = p := by rw [hpe]; exact IntWalk.i64_in _ (by omega)
  have w3' : IntKind.i64.wrap (l + p) = l + p := IntWalk.i64_in _ (by omega)
  have d1 : decide (many ≤ l + p) = true := by simp; omega
  have d2 : decide (many ≤ m) = true := by simp; omega
  clear hin hmay hK hok hpe
  go_wp2_with fail
  refine (HP1.out _).mono ?_
  rintro e w2 ⟨rfl, hb2⟩
  obtain ⟨g2, hg2⟩ : ∃ g, w2.heap.size = g := ⟨_, rfl⟩
  have HK2 := hide ((HK1.out.step hb2).pushN g2 hg2 24 #[.int .i64 (K - many), .int .i64 m, .int .i64 r, .int .i64 T])
  clear hb2 HK1 HP1
  obtain ⟨⟨c00, c01, c02, c03⟩, -⟩ := HK2.out.cells4
  obtain ⟨⟨c10, c11, c12, c13⟩, -⟩ := HK2.out.tl.cells4
  go_wp2_with fail
  refine (HP2.out _).mono ?_
  rintro e w3 ⟨rfl, hb3⟩
  try clear c00 c01 c02 c03 c10 c11 c12 c13
  obtain ⟨g3, hg3⟩ : ∃ g, w3.heap.size = g := ⟨_, rfl⟩
  have HK3 := hide ((HK2.out.step hb3).pushN g3 hg3 24 #[.int .i64 (K - many), .int .i64 m, .int .i64 r, .int .i64 T])
  clear hb3 HK2 HP2
  obtain ⟨⟨c00, c01, c02, c03⟩, -⟩ := HK3.out.cells4
  obtain ⟨⟨c10, c11, c12, c13⟩, -⟩ := HK3.out.tl.cells4
  obtain ⟨⟨c20, c21, c22, c23⟩, -⟩ := HK3.out.tl.tl.cells4
  have HE := hide HK3.out.below
  go_wp2
  go_ret
  exact ⟨rfl, HE.out⟩
end Go.Proofs.Ytcekikblgbdcoaa
