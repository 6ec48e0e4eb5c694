/-
  The exact laws' helpers on stores: a count, copies, equality.
-/
import Derived.Test.YtfianpjoifcphaaSpecO2
import Derived.Test.YtfianpjoifcphaaImpO1
import Derived.Test.YtfianpjoifcphaaInts
import Derived.Deep.RegionHeld3
import Derived.Deep.DeepCutAuto
import Derived.Deep.CutBlock
namespace Go.Proofs.Ytfianpjoifcphaa
open Go.RowKit
set_option linter.unusedVariables false
set_option maxRecDepth 100000

theorem undrewB_ExHO {w w' : World} {i : Nat} (h : Below (w.drewN i).heap.size (w.drewN i) w') : Below w.heap.size w w' := ⟨h.os, h.tape, h.output, h.size, h.block⟩
theorem below_box_ExHO (w : World) (o : Obj) : Below w.heap.size w (w.alloc o) := (Below.refl _ _).alloc (Nat.le_refl _) o
theorem alloc_size1_ExHO (w : World) (o : Obj) : (w.alloc o).heap.size = w.heap.size + 1 := by simp

set_option maxHeartbeats 800000 in
/-- a count: what is left, or -1 -/
theorem szInt_any_ExHO (A : Option Addr) (n c : Nat) (l : Int) (w : World) (hn : n ≤ 9223372036854775807) (h0 : 0 ≤ l) (h1 : l ≤ 1048576) :
    Calls Try.prog 29 #[.slice A n c, .int .i64 l] w fun e w' => (∃ r : Int, e = .returned (.int .i64 r) ∧ r ≤ l ∧ -1 ≤ r ∧ (0 ≤ r → (n : Int) ≤ l)) ∧ w = w' := by
  by_cases h : l - (n : Int) < 0
  · go_enter Try.func29, Try.ntmps29
    go_wp2
    go_ret
    exact ⟨⟨-1, rfl, by omega, by omega, fun h2 => absurd h2 (by omega)⟩, rfl⟩
  · go_enter Try.func29, Try.ntmps29
    go_wp2
    go_ret
    exact ⟨⟨l - n, rfl, by omega, by omega, fun _ => by omega⟩, rfl⟩

/-- an object by value, its values in a new row -/
def ObjPost (w : World) (n : Nat) (ws : List Int) (id : Int) (e : Ending) (w' : World) : Prop :=
  ∃ A2 c2, e = .returned (.agg #[.int .i64 id, .slice A2 n c2]) ∧ Own w' w.heap.size A2 n c2 ws ∧ Below w.heap.size w w'

theorem gr2 (w : World) (g i j : Nat) (a b : Value) : w.grownBy ((w.setCell ⟨g, i, none⟩ a).setCell ⟨g, j, none⟩ b) (some g) := by
  have s : ∀ (w0 w1 : World) (i : Nat) (u : Value), w0.grownBy w1 (some g) → w0.grownBy (w1.setCell ⟨g, i, none⟩ u) (some g) := fun w0 w1 i u h =>
    ⟨h.os, h.tape, h.output, by simpa [World.setCell] using h.size, fun q hq hne => (Below.heap_setCell w1 ⟨g, i, none⟩ u q (fun e => hne (by rw [e]))).trans (h.block q hq hne)⟩
  exact s _ _ _ _ (s _ _ _ _ (grown_refl w _))

theorem gr1 (w : World) (g i : Nat) (a : Value) : w.grownBy (w.setCell ⟨g, i, none⟩ a) (some g) :=
  ⟨(grown_refl w none).os, (grown_refl w none).tape, (grown_refl w none).output, by simp [World.setCell], fun q hq hne => Below.heap_setCell w ⟨g, i, none⟩ a q (fun e => hne (by rw [e]))⟩

set_option maxHeartbeats 1600000 in
theorem eqObject_yes (A A' : Option Addr) (n c d B B' : Nat) (id : Int) (ws : List Int) (w : World) (hx : Ints w B A n ws) (hy : Ints w B' A' n ws) (hB : B ≤ w.heap.size) (hB' : B' ≤ w.heap.size) (hn : n ≤ maxLen) :
    Calls Try.prog 38 #[.agg #[.int .i64 id, .slice A n c], .agg #[.int .i64 id, .slice A' n d]] w fun e w' => e = .returned (.bool true) ∧ Below w.heap.size w w' := by
  have HX := hide fun (o o' : Obj) => (hx.alloc hB o).alloc (by simp; omega) o'
  have HY := hide fun (o o' : Obj) => (hy.alloc hB' o).alloc (by simp; omega) o'
  have HB := hide fun (o o' : Obj) => ((below_box_ExHO w o).alloc (by simp) o' : Below w.heap.size w ((w.alloc o).alloc o'))
  have HA := hide (Blk.new w 69 #[.int .i64 id, .slice A n c])
  clear hx hy
  go_enter Try.func38, Try.ntmps38
  go_wp2_with fail
  refine (eqIntS_yes A A' n c n d B B' ws ws _ (HX.out _ _) (HY.out _ _) hn hn rfl).mono ?_
  rintro e w1 ⟨rfl, q, rfl⟩
  go_wp2
  go_ret
  exact ⟨rfl, below_drewN (HB.out _ _) q⟩

set_option maxHeartbeats 3200000 in
theorem eqObjectS_yes (A A' : Option Addr) (n c d B B' : Nat) (qs rs : List Oq) (w : World) (hx : Objs w B A n qs) (hy : Objs w B' A' n rs) (hB : B ≤ w.heap.size) (hB' : B' ≤ w.heap.size) (hn : n ≤ maxLen) (h : obs qs = obs rs) :
    Calls Try.prog 18 #[.slice A n c, .slice A' n d] w fun e w' => e = .returned (.bool true) ∧ Below w.heap.size w w' := by
  have HX := hide hx
  have HY := hide hy
  have HE := hide h
  unfold maxLen at hn
  clear hx hy h
  go_enter Try.func18, Try.ntmps18
  go_wp2
  go_loopw [5] (fun i wr => ∃ (k : Nat), k ≤ n ∧ i = .int .i64 k ∧ Hid (Below w.heap.size w wr)) (fun i _ => n - (intOf i).toNat)
  case atStart => exact ⟨0, Nat.zero_le _, rfl, Below.refl _ _⟩
  case round =>
    obtain ⟨k, hk, rfl, HB⟩ := hrel
    have hs := HB.out.size
    by_cases hlt : k < n
    · obtain ⟨q, hq⟩ : ∃ q, qs[k]? = some q := ⟨_, List.getElem?_eq_getElem (by rw [HX.out.1]; exact hlt)⟩
      obtain ⟨r, hr⟩ : ∃ r, rs[k]? = some r := ⟨_, List.getElem?_eq_getElem (by rw [HY.out.1]; exact hlt)⟩
      have her : r.ob = q.ob := by
        have h1 := obs_get hq
        have h2 := obs_get hr
        rw [HE.out, h2] at h1
        injection h1
      have hX := HX.out.below HB.out hB
      have hY := HY.out.below HB.out hB'
      obtain ⟨ad, p, rfl, hp, hb, hc0, hc1⟩ := hX.at_ hq
      obtain ⟨ad', p', rfl, hp', hb', hd0, hd1⟩ := hY.at_ hr
      obtain ⟨hi, hle, hcm, hnl⟩ := hX.words hq
      obtain ⟨hi', hle', hcm', hnl'⟩ := hY.words hr
      clear hq hr hX hY hnl hnl'
      obtain ⟨id, ws, qa, qc⟩ := q
      obtain ⟨id', ws', ra, rc⟩ := r
      unfold Oq.ob at her
      injection her with h1 h2
      subst h1
      subst h2
      simp only [Oq.sl] at hc0 hc1 hi hle hcm hd0 hd1 hi' hle' hcm'
      generalize ws'.length = m at hc1 hi hle hd1 hi' hle'
      have HSZ := hide fun (i : Nat) => eqObject_yes qa ra m qc rc B B' id' ws' (wr.drewN i) (hi.drewN i) (hi'.drewN i) (Nat.le_trans hB hs) (Nat.le_trans hB' hs) (by omega)
      have k0 : (0 : Int) ≤ (k : Int) := by omega
      have k1 : (k : Int) < (n : Int) := by omega
      clear hi hi' hle hle' hcm hcm'
      have hbp : p.block < wr.heap.size := by omega
      have hbp' : p'.block < wr.heap.size := by omega
      go_upto_region 6 with (fail)
      go_region_held3 (fun W => W.cell? p = some (.int .i64 id') ∧ W.cell? ⟨p.block, p.off + 1, none⟩ = some (.slice qa m qc) ∧ W.cell? p' = some (.int .i64 id') ∧ W.cell? ⟨p'.block, p'.off + 1, none⟩ = some (.slice ra m rc))
        (first
          | go_keep
          | (exact ⟨(hb1.cell (p := p) hbp).trans hc0, (hb1.cell (p := ⟨p.block, p.off + 1, none⟩) hbp).trans hc1, (hb1.cell (p := p') hbp').trans hd0, (hb1.cell (p := ⟨p'.block, p'.off + 1, none⟩) hbp').trans hd1⟩))
        ((first
          | (go_at_call 38; refine (HSZ.out 1).mono ?_; rintro e w1 ⟨rfl, hb1'⟩; have hb1 := undrewB_ExHO (i := 1) hb1'; clear hb1')))
      all_goals
        have HB1 := hide (HB.out.trans (hb1.mono hs))
        clear hb1
        go_wp2
        go_roundw
        case rel => exact ⟨k + 1, by omega, by go_num, HB1.out⟩
        case measure => simp [intOf]; omega
    · obtain rfl : k = n := by omega
      go_wp2
      go_ret
      exact ⟨rfl, HB.out⟩
end Go.Proofs.Ytfianpjoifcphaa
