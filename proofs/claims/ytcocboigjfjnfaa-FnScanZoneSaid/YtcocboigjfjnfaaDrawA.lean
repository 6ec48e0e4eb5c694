/-
  Drawn words: l91Word, l91Words: what they return is a word from -1 to 10000, or a row of the call's own of such words; the reader's own block alone has turned.
-/
import Derived.Test.YtcocboigjfjnfaaRd
import Derived.Test.YtcocboigjfjnfaaRng
namespace Go.Proofs.Ytcocboigjfjnfaa
open Go.RowKit
set_option linter.unusedVariables false
set_option maxRecDepth 100000

theorem grown_cell {w w' : World} {R : Nat} {p : Addr} (h : w.grownBy w' (some R)) (hp : p.block < w.heap.size) (hne : p.block ≠ R) : w'.cell? p = w.cell? p :=
  World.cell?_of_block (h.block p.block hp (by intro e; exact hne (by injection e)))

def four (v : Int) : Int := ([-1, 0, 9999, 10000] : List Int).getD v.toNat 0
theorem four_rng (v : Int) : -1 ≤ four v ∧ four v ≤ 10000 := by
  unfold four
  rcases h : v.toNat with _ | _ | _ | _ | n <;> simp

set_option maxHeartbeats 800000 in
theorem word_any (R : Nat) (p : Int) (w : World) (hr : Rd w R p) (hp : p < 29990) :
    Calls Try.prog 61 #[.pointer (some ⟨R, 0, none⟩)] w fun e w' => ∃ x p', e = .returned (.int .i64 x) ∧ -1 ≤ x ∧ x ≤ 10000 ∧ p ≤ p' ∧ p' ≤ p + 2 ∧ Rd w' R p' ∧ w.grownBy w' (some R) := by
  have hRw : R < w.heap.size := by obtain ⟨_, _, A, m, c, bs, _, _, hb, _⟩ := hr; exact hb.lt
  go_enter Try.func61, Try.ntmps61
  go_wp2_with fail
  refine (pick_any R p 16 _ hr (by omega) (by omega)).mono ?_
  rintro e w1 ⟨v, rfl, hv0, hv1, hr1, hg1⟩
  have hs1 := hg1.size
  by_cases h0 : v = 0
  · subst h0
    go_wp2_with fail
    have hr1' : Rd (w1.alloc (.cells #[.int .i64 (-1), .int .i64 0, .int .i64 9999, .int .i64 10000] 3)) R (p + 1) := by
      obtain ⟨a, b, A, m, c, bs, d, e, hb, hbs⟩ := hr1
      exact ⟨a, b, A, m, c, bs, d, e, hb.alloc _, hbs.keep fun q hq => World.cell?_alloc_lt w1 _ q (by omega)⟩
    refine (pick_any R (p + 1) 4 _ hr1' (by omega) (by omega)).mono ?_
    rintro e w2 ⟨u, rfl, hu0, hu1, hr2, hg2⟩
    have hc : w2.cell? ⟨w1.heap.size, u.toNat, none⟩ = some (.int .i64 (four u)) := by
      rw [grown_cell hg2 (by simp) (by simp; omega), (Blk.new w1 3 _).cell]
      have : u = 0 ∨ u = 1 ∨ u = 2 ∨ u = 3 := by omega
      rcases this with rfl | rfl | rfl | rfl <;> rfl
    have hf := four_rng u
    have HG := hide hg2
    clear hg2
    go_wp2
    go_ret
    exact ⟨_, _, rfl, hf.1, hf.2, by omega, by omega, hr2, grown_trans' (grown_alloc hg1 _) HG.out⟩
  · by_cases h1 : v = 1
    · subst h1
      go_wp2_with fail
      refine (pick_any R (p + 1) 100 _ hr1 (by omega) (by omega)).mono ?_
      rintro e w2 ⟨u, rfl, hu0, hu1, hr2, hg2⟩
      go_wp2
      go_ret
      exact ⟨_, _, rfl, by omega, by omega, by omega, by omega, hr2, grown_trans' hg1 hg2⟩
    · have h0' : (v == 0) = false := by simpa using h0
      have h1' : (v == 1) = false := by simpa using h1
      go_wp2_with fail
      refine (pick_any R (p + 1) 20 _ hr1 (by omega) (by omega)).mono ?_
      rintro e w2 ⟨u, rfl, hu0, hu1, hr2, hg2⟩
      go_wp2
      go_ret
      exact ⟨_, _, rfl, by omega, by omega, by omega, by omega, hr2, grown_trans' hg1 hg2⟩

theorem Rd.lt {w : World} {R : Nat} {p : Int} (h : Rd w R p) : R < w.heap.size := by obtain ⟨_, _, A, m, c, bs, _, _, hb, _⟩ := h; exact hb.lt
theorem Rd.grown {w w' : World} {R : Nat} {p : Int} {row : Option Nat} (h : Rd w R p) (hg : w.grownBy w' row) (hr : ∀ g, row = some g → R < g) : Rd w' R p := by
  have hl := h.lt
  obtain ⟨a, b, A, m, c, bs, d, e, hb, hbs⟩ := h
  exact ⟨a, b, A, m, c, bs, d, e, hb.grown hg (fun e => by have := hr R e.symm; omega), hbs.keep fun q hq => World.cell?_of_block (hg.block q.block (by omega) (fun e => by have := hr _ e.symm; omega))⟩
theorem Rd.alloc {w : World} {R : Nat} {p : Int} (h : Rd w R p) (o : Obj) : Rd (w.alloc o) R p := h.grown (World.grownBy_alloc w o none) (by simp)
theorem Rd.drewN {w : World} {R : Nat} {p : Int} (h : Rd w R p) (n : Nat) : Rd (w.drewN n) R p := h
theorem Rd.below {w w' : World} {R : Nat} {p : Int} (h : Rd w R p) (hg : Below w.heap.size w w') : Rd w' R p := h.grown (grown_of_below hg none) (by simp)

theorem Blk.ne_ {w : World} {g g' : Nat} {t t' : TypeId} {cs cs' : Array Value} (h : Blk w g t cs) (h' : Blk w g' t' cs') (hne : t ≠ t') : g ≠ g' := by
  rintro rfl
  unfold Blk at h h'
  rw [h] at h'
  injection h' with h'
  injection h' with _ ht
  exact hne ht
theorem own_blk_ne {w : World} {g base n c : Nat} {t : TypeId} {cs : Array Value} {A : Option Addr} {xs : List Int} (h : Own w base A n c xs) (hg : Blk w g t cs) (hne : 3 ≠ t) : (Value.slice A n c).ownBlock ≠ some g := by
  rcases h.2.2 with ⟨hv, _⟩ | ⟨g', cap, cur, hv, _, hh, _⟩
  · rw [hv]; simp [Value.ownBlock]
  · rw [hv]
    intro he
    have : g' = g := by simpa [Value.ownBlock] using he
    subst this
    exact Blk.ne_ (t := 3) hh hg hne rfl
theorem Own.firsts {w : World} {base n c m : Nat} {A : Option Addr} {xs : List Int} (h : Own w base A n c xs) (hm : m ≤ n) : Own w base A m c (xs.take m) := by
  refine ⟨by rw [List.length_take, h.1]; omega, by simp [h.1]; omega, ?_⟩
  rcases h.2.2 with ⟨hv, h0⟩ | ⟨g, cap, cur, hv, hb, hh, hc, hmx, hs, ht⟩
  · injection hv with e1 e2 e3
    subst e1 e2 e3
    exact .inl ⟨by rw [show m = 0 by omega], by omega⟩
  · injection hv with e1 e2 e3
    subst e1 e3
    refine .inr ⟨g, c, cur, rfl, hb, hh, by omega, hmx, hs, ?_⟩
    have : (cur.toList.take (n * 1)).take (m * 1) = (xs.map (Value.int .i64)).take (m * 1) := by rw [ht]
    rw [List.take_take] at this
    rw [show min (m * 1) (n * 1) = m * 1 by omega] at this
    rw [this, Nat.mul_one, List.map_take]

set_option maxHeartbeats 1000000 in
theorem words91_any (R : Nat) (p n : Int) (w : World) (hr : Rd w R p) (hn0 : 0 ≤ n) (hn : n ≤ 200) (hp : p < 29000) :
    Calls Try.prog 58 #[.pointer (some ⟨R, 0, none⟩), .int .i64 n] w fun e w' => ∃ A k c xs p', e = .returned (.slice A k c) ∧ Own w' w.heap.size A k c xs ∧ k ≤ n ∧ Rng (-1) 10000 xs ∧
      p ≤ p' ∧ p' ≤ p + n + 5 ∧ Rd w' R p' ∧ w.grownBy w' (some R) := by
  have hRw := hr.lt
  go_enter Try.func58, Try.ntmps58
  go_wp2_with fail
  refine (pick_any R p (n + 1) _ (hr.alloc _) (by omega) (by omega)).mono ?_
  rintro e w1 ⟨m, rfl, hm0, hm1, hr1, hg1⟩
  have hs1 : w.heap.size < w1.heap.size := by have := hg1.size; simp at this; omega
  have ho1 : Own w1 w.heap.size (some ⟨w.heap.size, 0, none⟩) 0 0 [] := (Own.lit0 w w.heap.size (Nat.le_refl _)).kept hg1 (by
    intro k hk; injection hk with hk; subst hk; simp [Value.ownBlock]; omega)
  have hG1 : w.grownBy w1 (some R) := grown_trans' (grown_alloc (grown_refl w _) _) hg1
  clear hg1
  obtain ⟨K, rfl⟩ := Int.eq_ofNat_of_zero_le hm0
  go_wp2_with fail
  go_loopw [5, 7] (fun v i wr => ∃ (k c : Nat) (A : Option Addr) (xs : List Int), k ≤ K ∧ i = .int .i64 k ∧ v = .slice A k c ∧ Own wr w.heap.size A k c xs ∧ Rng (-1) 10000 xs ∧ Rd wr R (p + 1 + k) ∧ w.grownBy wr (some R))
    (fun _ i _ => K - (intOf i).toNat)
  case atStart => exact ⟨0, 0, _, [], Nat.zero_le _, rfl, rfl, ho1, by simp [Rng], by simpa using hr1, hG1⟩
  case round =>
    clear ho1 hr1 hG1
    obtain ⟨k, c, Ao, xs, hk, rfl, rfl, hown, hrng, hrd, hG⟩ := hrel
    have HO := hide hown
    have HG := hide hG
    have HR := hide hrd
    have hsz := hG.size
    clear hown hG hrd
    by_cases hlt : k < K
    · go_wp2_with fail
      refine (pick_any R (p + 1 + k) 100 _ HR.out (by omega) (by omega)).mono ?_
      rintro e w2 ⟨u, rfl, hu0, hu1, hr2, hg2⟩
      have hs2 := hg2.size
      have ho2 := HO.out.kept hg2 (by intro g hg; injection hg with hg; subst hg; intro e; have := HO.out.block _ e; omega)
      have HO2 := hide ho2
      have HR2 := hide hr2
      have HG2 := hide (grown_trans' HG.out hg2)
      clear hr2 hg2 ho2
      go_wp2_with (at_builtin; refine wpList_append_ints rfl _ _ rfl w.heap.size k c _ 1 _ Ao _ xs [u] rfl (HO2.out.alloc _) rfl (Ints.one _ u) (by omega) (by simp; omega) ?_; intro A2 c2 w3 ho3 hg3 hat3)
      have hb := (HO2.out.block)
      have HO3 := hide ho3
      have hrow : ∀ g, (Value.slice Ao k c).ownBlock = some g → w.heap.size ≤ g := fun g hg => (hb g hg).1
      have HR3 := hide ((HR2.out.alloc (.cells #[.int .i64 u] 3)).grown hg3 (fun g hg => by have := hrow g hg; omega))
      have HG3 := hide (grown_own (grown_alloc HG2.out (.cells #[.int .i64 u] 3)) hg3 hrow)
      clear ho3 hg3 hat3 hb hrow
      go_roundw
      case rel => exact ⟨k + 1, c2, A2, xs ++ [u], by omega, by go_num, rfl, HO3.out, hrng.snoc (by omega) (by omega), by have := HR3.out; rw [show p + 1 + ((k + 1 : Nat) : Int) = p + 1 + k + 1 from by omega]; exact this, HG3.out⟩
      case measure => simp [intOf]; omega
    · obtain rfl : k = K := by omega
      by_cases hk0 : k = 0
      · subst hk0
        have h00 : decide ((0 : Int) < 0) = false := by decide
        go_wp2
        go_ret
        exact ⟨_, _, _, xs, p + 1, rfl, HO.out, by omega, hrng, by omega, by omega, by simpa using HR.out, HG.out⟩
      · have hkp : decide ((0 : Int) < (k : Int)) = true := by simp; omega
        have hkp' : 0 < k := by omega
        go_wp2_with fail
        refine (pick_any R (p + 1 + k) 12 _ HR.out (by omega) (by omega)).mono ?_
        rintro e w2 ⟨u, rfl, hu0, hu1, hr2, hg2⟩
        have hs2 := hg2.size
        have ho2 := HO.out.kept hg2 (by intro g hg; injection hg with hg; subst hg; intro e; have := HO.out.block _ e; omega)
        have HO2 := hide ho2
        have HR2 := hide hr2
        have HG2 := hide (grown_trans' HG.out hg2)
        clear hr2 hg2 ho2
        by_cases hu : u = 0
        · subst hu
          go_wp2_with fail
          refine (pick_any R (p + 1 + k + 1) k _ HR2.out (by omega) (by omega)).mono ?_
          rintro e w3 ⟨j, rfl, hj0, hj1, hr3, hg3⟩
          have hs3 := hg3.size
          have ho3 := HO2.out.kept hg3 (by intro g hg; injection hg with hg; subst hg; intro e; have := HO2.out.block _ e; omega)
          have HO3 := hide ho3
          have HR3 := hide hr3
          have HG3 := hide (grown_trans' HG2.out hg3)
          clear hr3 hg3 ho3
          go_wp2_with fail
          refine (word_any R (p + 1 + k + 1 + 1) _ HR3.out (by omega)).mono ?_
          rintro e w4 ⟨x, p4, rfl, hx0, hx1, hp4, hp4', hr4, hg4⟩
          have hs4 := hg4.size
          have ho4 := HO3.out.kept hg4 (by intro g hg; injection hg with hg; subst hg; intro e; have := HO3.out.block _ e; omega)
          obtain ⟨g, rfl, hgb, hgl⟩ := ho4.shape hkp'
          obtain ⟨J, rfl⟩ := Int.eq_ofNat_of_zero_le hj0
          have hcell := ho4.cell (g := g) (j := J) (by omega)
          have hfree := ho4.free (g := g) (j := J)
          have hst := ho4.stored (g := g) (j := J) x
          have HG4 := hide (grown_own (grown_trans' HG3.out hg4) hst.2 (by intro q hq; injection hq with hq; omega))
          have HR4 := hide (hr4.grown hst.2 (by intro q hq; injection hq with hq; omega))
          have HO4 := hide hst.1
          clear ho4 hg4 hr4 hst HO HO2 HO3 HG HG2 HG3 HR HR2 HR3
          go_wp2
          go_ret
          exact ⟨_, _, _, _, p4, rfl, HO4.out, by omega, hrng.set _ hx0 hx1, by omega, by omega, HR4.out, HG4.out⟩
        · have hu' : (u == 0) = false := by simpa using hu
          go_wp2
          go_ret
          exact ⟨_, _, _, xs, p + 1 + k + 1, rfl, HO2.out, by omega, hrng, by omega, by omega, HR2.out, HG2.out⟩
end Go.Proofs.Ytcocboigjfjnfaa
