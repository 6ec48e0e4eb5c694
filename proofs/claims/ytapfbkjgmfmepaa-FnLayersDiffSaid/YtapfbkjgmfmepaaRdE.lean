/-
  pick, with the world behind it written out.
-/
import Derived.Test.YtapfbkjgmfmepaaRd
namespace Go.Proofs.Ytapfbkjgmfmepaa
open Go.RowKit
set_option linter.unusedVariables false
set_option maxRecDepth 100000

set_option maxHeartbeats 800000 in
set_option maxRecDepth 100000 in
theorem pick_ex (R : Nat) (p n : Int) (w : World) (hr : Rd w R p) (hp : p < 30000) (hn : 1 ≤ n) :
    Calls Try.prog 46 #[.pointer (some ⟨R, 0, none⟩), .int .i64 n] w fun e w' => ∃ v, e = .returned (.int .i64 v) ∧ 0 ≤ v ∧ v < n ∧ ∃ z, w' = (w.setCell ⟨R, 1, none⟩ (.int .i64 (p + 1))).drewN z := by
  have hst := hide (rd_step hr hp)
  obtain ⟨hp0, _, A, m, c, bs, hm, hmc, hb, hbs⟩ := hr
  have hc0 := hb.cell 0
  have hc1 := hb.cell 1
  have hf1 := hb.frozen 1
  simp at hc0 hc1
  by_cases hm0 : m = 0
  · subst hm0
    go_enter Try.func46, Try.ntmps46
    go_wp2
    go_ret
    exact ⟨0, rfl, by omega, by omega, 0, rfl⟩
  · obtain ⟨ad, rfl, hadb, hcb⟩ := hbs (by omega)
    have hne : ad.block ≠ R := by omega
    have hcell : ∀ j, j < m → (w.setCell ⟨R, 1, none⟩ (.int .i64 (p + 1))).cell? (ad.add j) = some (.int .u8 (bs j)) := fun j hj =>
      (World.cell?_of_block (Below.heap_setCell w ⟨R, 1, none⟩ _ (ad.add j).block (by rw [block_of_add]; exact hne))).trans (hcb j hj).2.2
    have hmb : ((m : Int) == 0) = false := by simp; omega
    by_cases hk : p < m
    · have hck := hcell p.toNat (by omega)
      obtain ⟨hk0, hk1, _⟩ := hcb p.toNat (by omega)
      generalize bs p.toNat = u at hck hk0 hk1
      clear hcb hcell hbs hb
      have hn0 : ¬ n = 0 := by omega
      go_enter Try.func46, Try.ntmps46
      go_wp2
      go_ret
      refine ⟨_, rfl, mod_ge' _ _ hn, mod_lt' _ _ hn, ⟨0, rfl⟩⟩
    · have h1 : 0 ≤ p % m := Int.emod_nonneg p (by omega)
      have h2 : p % m < m := Int.emod_lt_of_pos p (by omega)
      have h3 : 0 ≤ (p * 7 + 3) % m := Int.emod_nonneg _ (by omega)
      have h4 : (p * 7 + 3) % m < m := Int.emod_lt_of_pos _ (by omega)
      have hc3 := hcell (p % m).toNat (by omega)
      have hc4 := hcell ((p * 7 + 3) % m).toNat (by omega)
      obtain ⟨u0, u1, _⟩ := hcb (p % m).toNat (by omega)
      obtain ⟨v0, v1, _⟩ := hcb ((p * 7 + 3) % m).toNat (by omega)
      generalize bs (p % m).toNat = u at hc3 u0 u1
      generalize bs ((p * 7 + 3) % m).toNat = v at hc4 v0 v1
      have hn0 : ¬ n = 0 := by omega
      have h5 : 0 ≤ p / m := Int.ediv_nonneg hp0 (by omega)
      have h6 : p / m ≤ p := Int.ediv_le_self _ hp0
      clear hcb hcell hbs hb
      go_enter Try.func46, Try.ntmps46
      go_wp2
      go_quiet (fail)
      go_wp2
      go_ret
      exact ⟨_, rfl, tmod_ge _ _ (bits_xor_nonneg _ _ (by omega) (by omega) (by omega) (by omega)), tmod_lt _ _ hn (bits_xor_nonneg _ _ (by omega) (by omega) (by omega) (by omega)), ⟨_, rfl⟩⟩
end Go.Proofs.Ytapfbkjgmfmepaa
