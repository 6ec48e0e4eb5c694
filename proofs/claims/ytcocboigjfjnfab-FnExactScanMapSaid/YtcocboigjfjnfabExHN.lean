/-
  The exact laws' helpers on frames that were found: equality (eqFound, eqFoundS).
-/
import Derived.Test.YtcocboigjfjnfabExactA
import Derived.Test.YtcocboigjfjnfabFnd
import Derived.Deep.RegionHeld3
import Derived.Deep.DeepCutAuto
import Derived.Deep.CutBlock
namespace Go.Proofs.Ytcocboigjfjnfab
open Go.RowKit
set_option linter.unusedVariables false
set_option maxRecDepth 100000

theorem undrewN {w w' : World} {i : Nat} (h : Below (w.drewN i).heap.size (w.drewN i) w') : Below w.heap.size w w' := ⟨h.os, h.tape, h.output, h.size, h.block⟩

set_option maxHeartbeats 1600000 in
theorem eqFound_yes (A A' : Option Addr) (n c d B B' : Nat) (z a x0 x1 : Int) (ws : List Int) (w : World) (hx : Ints w B A n ws) (hy : Ints w B' A' n ws) (hB : B ≤ w.heap.size) (hB' : B' ≤ w.heap.size) (hn : n ≤ maxLen) :
    Calls Try.prog 38 #[.agg #[.int .i64 z, .int .i64 a, .int .i64 x0, .int .i64 x1, .slice A n c], .agg #[.int .i64 z, .int .i64 a, .int .i64 x0, .int .i64 x1, .slice A' n d]] w fun e w' => e = .returned (.bool true) ∧ Below w.heap.size w w' := by
  have HB := hide fun (o o' : Obj) => ((below_box w o).alloc (by simp) o' : Below w.heap.size w ((w.alloc o).alloc o'))
  have HF := hide fun (o o' : Obj) => eqFrame_yes x0 x1 A A' n c d B B' ws ((w.alloc o).alloc o') ((hx.alloc hB o).alloc (by simp; omega) o') (by simp; omega) ((hy.alloc hB' o).alloc (by simp; omega) o') (by simp; omega) hn
  clear hx hy
  go_enter Try.func38, Try.ntmps38
  go_wp2_with fail
  refine (HF.out _ _).mono ?_
  rintro e w1 ⟨rfl, hb1⟩
  have HB1 := hide ((HB.out _ _).trans (hb1.mono (HB.out _ _).size))
  clear hb1
  go_wp2
  go_ret
  exact ⟨rfl, HB1.out⟩

set_option maxHeartbeats 6400000 in
theorem eqFoundS_yes (A A' : Option Addr) (n c d B B' : Nat) (qs rs : List Fq) (w : World) (hx : Fnds w B A n qs) (hy : Fnds w B' A' n rs) (hB : B ≤ w.heap.size) (hB' : B' ≤ w.heap.size) (hn : n ≤ maxLen) (h : fns qs = fns rs) :
    Calls Try.prog 17 #[.slice A n c, .slice A' n d] w fun e w' => e = .returned (.bool true) ∧ Below w.heap.size w w' := by
  have HX := hide hx
  have HY := hide hy
  have HE := hide h
  unfold maxLen at hn
  clear hx hy h
  go_enter Try.func17, Try.ntmps17
  go_wp2
  go_loopw [5] (fun i wr => ∃ (k : Nat), k ≤ n ∧ i = .int .i64 k ∧ Hid (Below w.heap.size w wr)) (fun i _ => n - (intOf i).toNat)
  case atStart => exact ⟨0, Nat.zero_le _, rfl, Below.refl _ _⟩
  case round =>
    obtain ⟨k, hk, rfl, HB⟩ := hrel
    have hs := HB.out.size
    by_cases hlt : k < n
    · obtain ⟨q, hq⟩ : ∃ q, qs[k]? = some q := ⟨_, List.getElem?_eq_getElem (by rw [HX.out.1]; exact hlt)⟩
      obtain ⟨r, hr⟩ : ∃ r, rs[k]? = some r := ⟨_, List.getElem?_eq_getElem (by rw [HY.out.1]; exact hlt)⟩
      have her : r.fn = q.fn := by
        have h1 := fns_get hq
        have h2 := fns_get hr
        rw [HE.out, h2] at h1
        injection h1
      have hX := HX.out.below HB.out hB
      have hY := HY.out.below HB.out hB'
      obtain ⟨ad, p, rfl, hp, hb, hc0, hc1, hc2, hc3, hc4⟩ := hX.at_ hq
      obtain ⟨ad', p', rfl, hp', hb', hd0, hd1, hd2, hd3, hd4⟩ := hY.at_ hr
      obtain ⟨hi, hle, hcm, hnl⟩ := hX.words hq
      obtain ⟨hi', hle', hcm', hnl'⟩ := hY.words hr
      clear hq hr hX hY hnl hnl'
      obtain ⟨z, a, x0, x1, ws, qa, qc⟩ := q
      obtain ⟨z', a', x0', x1', ws', ra, rc⟩ := r
      unfold Fq.fn at her
      injection her with h1 her
      injection her with h2 her
      injection her with h3 her
      injection her with h4 h5
      subst h1
      subst h2
      subst h3
      subst h4
      subst h5
      simp only [Fq.sl] at hc0 hc1 hc2 hc3 hc4 hi hle hcm hd0 hd1 hd2 hd3 hd4 hi' hle' hcm'
      generalize hm : ws'.length = m at hc4 hi hle hd4 hi' hle'
      have HSZ := hide fun (i : Nat) => eqFound_yes qa ra m qc rc B B' z' a' x0' x1' ws' (wr.drewN i) (hi.drewN i) (hi'.drewN i) (Nat.le_trans hB hs) (Nat.le_trans hB' hs) (Nat.le_trans hle hcm)
      have k0 : (0 : Int) ≤ (k : Int) := by omega
      have k1 : (k : Int) < (n : Int) := by omega
      clear hi hi' hle hle' hcm hcm' hm
      have hbp : p.block < wr.heap.size := by omega
      have hbp' : p'.block < wr.heap.size := by omega
      go_upto_region 6 with (fail)
      go_region_held3 (fun W => W.cell? p = some (.int .i64 z') ∧ W.cell? ⟨p.block, p.off + 1, none⟩ = some (.int .i64 a') ∧ W.cell? ⟨p.block, p.off + 2, none⟩ = some (.int .i64 x0') ∧ W.cell? ⟨p.block, p.off + 3, none⟩ = some (.int .i64 x1') ∧ W.cell? ⟨p.block, p.off + 4, none⟩ = some (.slice qa m qc) ∧ W.cell? p' = some (.int .i64 z') ∧ W.cell? ⟨p'.block, p'.off + 1, none⟩ = some (.int .i64 a') ∧ W.cell? ⟨p'.block, p'.off + 2, none⟩ = some (.int .i64 x0') ∧ W.cell? ⟨p'.block, p'.off + 3, none⟩ = some (.int .i64 x1') ∧ W.cell? ⟨p'.block, p'.off + 4, none⟩ = some (.slice ra m rc))
        (first
          | go_keep
          | (exact ⟨(hb1.cell (p := p) hbp).trans hc0, (hb1.cell (p := ⟨p.block, p.off + 1, none⟩) hbp).trans hc1, (hb1.cell (p := ⟨p.block, p.off + 2, none⟩) hbp).trans hc2, (hb1.cell (p := ⟨p.block, p.off + 3, none⟩) hbp).trans hc3, (hb1.cell (p := ⟨p.block, p.off + 4, none⟩) hbp).trans hc4, (hb1.cell (p := p') hbp').trans hd0, (hb1.cell (p := ⟨p'.block, p'.off + 1, none⟩) hbp').trans hd1, (hb1.cell (p := ⟨p'.block, p'.off + 2, none⟩) hbp').trans hd2, (hb1.cell (p := ⟨p'.block, p'.off + 3, none⟩) hbp').trans hd3, (hb1.cell (p := ⟨p'.block, p'.off + 4, none⟩) hbp').trans hd4⟩))
        ((first
          | (go_at_call 38; refine (HSZ.out 1).mono ?_; rintro e w1 ⟨rfl, hb1'⟩; have hb1 := undrewN (i := 1) hb1'; clear hb1')))
      all_goals
        have HB1 := hide (HB.out.trans (hb1.mono hs))
        clear hb1
        go_wp2
        go_roundw
        case rel => exact ⟨k + 1, by omega, by go_num, HB1.out⟩
        case measure => simp [intOf]; omega
    · obtain rfl : k = n := by omega
      go_wp2
      go_ret
      exact ⟨rfl, HB.out⟩
end Go.Proofs.Ytcocboigjfjnfab
