/-
  The laws' sameZone, sameDevice: equal zones and devices are told equal.
-/
import Derived.Test.YtfianpjoifcphaaGreatG4
import Derived.Test.YtfianpjoifcphaaGreatG1
import Derived.Deep.RegionHeld3
import Derived.Deep.DeepCutAuto
import Derived.Deep.CutBlock
namespace Go.Proofs.YtfianpjoifcphaaGreat
open Go.RowKit
set_option linter.unusedVariables false
set_option maxRecDepth 100000

theorem boxed2 (w : World) (t : TypeId) (a b c x y z : Value) :
    ((w.alloc (.cells #[a, b, c] t)).alloc (.cells #[x, y, z] t)).cell? ⟨w.heap.size, 0, none⟩ = some a ∧ ((w.alloc (.cells #[a, b, c] t)).alloc (.cells #[x, y, z] t)).cell? ⟨w.heap.size, 1, none⟩ = some b ∧
    ((w.alloc (.cells #[a, b, c] t)).alloc (.cells #[x, y, z] t)).cell? ⟨w.heap.size, 2, none⟩ = some c := by
  have h := (Blk.new w t #[a, b, c]).alloc (.cells #[x, y, z] t)
  exact ⟨by rw [h.cell]; rfl, by rw [h.cell]; rfl, by rw [h.cell]; rfl⟩

theorem below_undrew {w w' : World} {i : Nat} (h : Below (w.drewN i).heap.size (w.drewN i) w') : Below w.heap.size w w' := ⟨h.os, h.tape, h.output, h.size, h.block⟩

set_option maxHeartbeats 1600000 in
theorem sameZone_yes (A A' : Option Addr) (n c d B B' : Nat) (sy : Int) (fu : Bool) (ws : List Int) (w : World) (hx : Ints w B A n ws) (hy : Ints w B' A' n ws) (hB : B ≤ w.heap.size) (hB' : B' ≤ w.heap.size) (hn : n ≤ maxLen) :
    Calls Tryz.prog 100 #[.agg #[.slice A n c, .int .i64 sy, .bool fu], .agg #[.slice A' n d, .int .i64 sy, .bool fu]] w fun e w' => e = .returned (.bool true) ∧ Below w.heap.size w w' := by
  have HX := hide fun (o o' : Obj) => (hx.alloc hB o).alloc (by simp; omega) o'
  have HY := hide fun (o o' : Obj) => (hy.alloc hB' o).alloc (by simp; omega) o'
  have HB := hide fun (o o' : Obj) => ((below_box w o).alloc (by simp) o' : Below w.heap.size w ((w.alloc o).alloc o'))
  clear hx hy
  rcases fu with _ | _
  all_goals
    go_enter Tryz.func100, Tryz.ntmps100
    go_wp2_with (go_at_call 44; refine (sameInts_yes A A' n c n d B B' ws ws _ (HX.out _ _) (HY.out _ _) hn hn rfl).mono ?_; rintro e w1 ⟨rfl, q, rfl⟩)
    go_ret
    exact ⟨rfl, below_drewN (HB.out _ _) q⟩

set_option maxHeartbeats 3200000 in
theorem sameDev_yes (A A' : Option Addr) (n c d B B' : Nat) (qs rs : List Zq) (w : World) (hx : Zns w B A n qs) (hy : Zns w B' A' n rs) (hB : B ≤ w.heap.size) (hB' : B' ≤ w.heap.size) (hn : n ≤ maxLen) (h : zns qs = zns rs) :
    Calls Tryz.prog 41 #[.slice A n c, .slice A' n d] w fun e w' => e = .returned (.bool true) ∧ Below w.heap.size w w' := by
  have HX := hide hx
  have HY := hide hy
  have HE := hide h
  unfold maxLen at hn
  clear hx hy h
  go_enter Tryz.func41, Tryz.ntmps41
  go_wp2
  go_loopw [5] (fun i wr => ∃ (k : Nat), k ≤ n ∧ i = .int .i64 k ∧ Hid (Below w.heap.size w wr)) (fun i _ => n - (intOf i).toNat)
  case atStart => exact ⟨0, Nat.zero_le _, rfl, Below.refl _ _⟩
  case round =>
    obtain ⟨k, hk, rfl, HB⟩ := hrel
    have hs := HB.out.size
    by_cases hlt : k < n
    · obtain ⟨q, hq⟩ : ∃ q, qs[k]? = some q := ⟨_, List.getElem?_eq_getElem (by rw [HX.out.1]; exact hlt)⟩
      obtain ⟨r, hr, her⟩ := zns_get_inv (HE.out ▸ zns_get hq : (zns rs)[k]? = some q.zn)
      have hX := HX.out.below HB.out hB
      have hY := HY.out.below HB.out hB'
      obtain ⟨ad, p, rfl, hp, hb, hc0, hc1, hc2⟩ := hX.at_ hq
      obtain ⟨ad', p', rfl, hp', hb', hd0, hd1, hd2⟩ := hY.at_ hr
      obtain ⟨hi, hle, hcm⟩ := hX.words hq
      obtain ⟨hi', hle', hcm'⟩ := hY.words hr
      clear hq hr hX hY
      obtain ⟨ws, sy, fu, qa, qc⟩ := q
      obtain ⟨ws', sy', fu', ra, rc⟩ := r
      obtain ⟨rfl, rfl, rfl⟩ : ws' = ws ∧ sy' = sy ∧ fu' = fu := by
        unfold Zq.zn at her
        injection her with h1 h2
        injection h2 with h2 h3
        exact ⟨h1, h2, h3⟩
      clear her
      simp only [Zq.sl] at hc0 hc1 hc2 hi hle hcm hd0 hd1 hd2 hi' hle' hcm'
      generalize ws'.length = m at hc0 hi hle hd0 hi' hle'
      have HSZ := hide fun (i : Nat) => sameZone_yes qa ra m qc rc B B' sy' fu' ws' (wr.drewN i) (hi.drewN i) (hi'.drewN i) (Nat.le_trans hB hs) (Nat.le_trans hB' hs) (by omega)
      have k0 : (0 : Int) ≤ (k : Int) := by omega
      have k1 : (k : Int) < (n : Int) := by omega
      clear hi hi' hle hle' hcm hcm'
      go_upto_region 6 with (fail)
      go_region_with (first | (go_at_call 100; refine (HSZ.out 1).mono ?_; rintro e w1 ⟨rfl, hb1⟩))
      all_goals
        have HB1 := hide (HB.out.trans ((below_undrew hb1).mono hs))
        clear hb1
        go_wp2
        go_roundw
        case rel => exact ⟨k + 1, by omega, by go_num, HB1.out⟩
        case measure => simp [intOf]; omega
    · obtain rfl : k = n := by omega
      go_wp2
      go_ret
      exact ⟨rfl, HB.out⟩

/-- two devices that are equal, each in memory of its own -/
theorem pair_same_SameZ {w2 w3 : World} {b b' m2 m3 c2 c3 : Nat} {A2 A3 : Option Addr} {qs2 qs3 : List Zq} {D : Dev} (h2 : OwnZ w2 b A2 m2 c2 qs2) (h3 : OwnZ w3 b' A3 m3 c3 qs3) (z2 : zns qs2 = D) (z3 : zns qs3 = D) (hb : Below w2.heap.size w2 w3) :
    m3 = m2 ∧ m2 = D.length ∧ ∀ W, Below w3.heap.size w3 W → Calls Tryz.prog 41 #[.slice A2 m2 c2, .slice A3 m2 c3] W fun e w' => e = .returned (.bool true) ∧ Below W.heap.size W w' := by
  have e2 : m2 = D.length := by rw [← z2]; unfold zns; rw [List.length_map]; exact h2.len.symm
  have e3 : m3 = D.length := by rw [← z3]; unfold zns; rw [List.length_map]; exact h3.len.symm
  have e : m3 = m2 := e3.trans e2.symm
  subst e
  refine ⟨rfl, e2, fun W hW => ?_⟩
  have hs := hb.size
  exact sameDev_yes A2 A3 m3 c2 c3 _ _ qs2 qs3 W ((h2.zns.below hb (Nat.le_refl _)).below hW hs) (h3.zns.below hW (Nat.le_refl _)) (Nat.le_trans hs hW.size) hW.size (Nat.le_trans h3.cap.1 h3.cap.2) (z2.trans z3.symm)
/-- .. one of them was read -/
theorem pair_read_SameZ {w2 w3 : World} {b n c m2 c2 : Nat} {A A2 : Option Addr} {qs qs2 : List Zq} (h2 : OwnZ w2 b A2 m2 c2 qs2) (h3 : Zns w3 w3.heap.size A n qs) (z : zns qs2 = zns qs) (hb : Below w2.heap.size w2 w3) :
    m2 = n ∧ ∀ W, Below w3.heap.size w3 W → Calls Tryz.prog 41 #[.slice A2 n c2, .slice A n c] W fun e w' => e = .returned (.bool true) ∧ Below W.heap.size W w' := by
  have e2 : m2 = n := by
    have h := congrArg List.length z
    unfold zns at h
    rw [List.length_map, List.length_map, h2.len, h3.1] at h
    exact h
  subst e2
  refine ⟨rfl, fun W hW => ?_⟩
  have hs := hb.size
  exact sameDev_yes A2 A m2 c2 c _ _ qs2 qs W ((h2.zns.below hb (Nat.le_refl _)).below hW hs) (h3.below hW (Nat.le_refl _)) (Nat.le_trans hs hW.size) hW.size (Nat.le_trans h2.cap.1 h2.cap.2) z
end Go.Proofs.YtfianpjoifcphaaGreat
