/-
  The program's tell.
-/
import Derived.Test.YtfianpjoifcphaaGreatImpM3
import Derived.Test.YtfianpjoifcphaaGreatG1
import Derived.Deep.RegionHeld3
import Derived.BigRegion
import Derived.Deep.Cut
import Derived.Deep.RegionWith
namespace Go.Proofs.YtfianpjoifcphaaGreat
open Go.RowKit
set_option linter.unusedVariables false
set_option maxRecDepth 100000

theorem below_undrewM {B : Nat} {a w : World} {i : Nat} (h : Below B (a.drewN i) w) : Below B a w := ⟨h.os, h.tape, h.output, h.size, h.block⟩
/-- a map of one's own that is turned -/
structure TK (w wr : World) (base g c2 : Nat) (out : List Wh) : Prop where
  own : MpR wr base (some ⟨g, 0, none⟩) 12 c2 out
  gr : w.grownBy wr (some g)
  gl : g < w.heap.size
section
variable {w wr w' : World} {base g c2 J : Nat} {out : List Wh}
theorem TK.put (h : TK w wr base g c2 out) (hJ : J < 12) (x0 x1 x2 x3 x4 : Int) : TK w (set5 wr g J x0 x1 x2 x3 x4) base g c2 (out.set J (x0, x1, x2, x3, x4)) ∧ Five wr g J x0 x1 x2 x3 x4 := by
  obtain ⟨h1, h2, h3⟩ := h.own.put hJ x0 x1 x2 x3 x4
  exact ⟨{ own := h1, gr := grown_trans' h.gr h2, gl := h.gl }, h3⟩
theorem TK.alloc (h : TK w wr base g c2 out) (o : Obj) : TK w (wr.alloc o) base g c2 out := { own := h.own.alloc o, gr := grown_alloc h.gr o, gl := h.gl }
theorem TK.below (h : TK w wr base g c2 out) (hb : Below wr.heap.size wr w') : TK w w' base g c2 out := { own := h.own.below hb, gr := grown_own h.gr (grown_of_below hb none) (by simp), gl := h.gl }
theorem TK.drewN (h : TK w wr base g c2 out) (q : Nat) : TK w (wr.drewN q) base g c2 out := { own := h.own.drewN q, gr := grown_drewN h.gr q, gl := h.gl }
end
theorem hotWhere_e {z a : Int} {xs : List Int} {k : Nat} {v : Int} (hv : xs.getD (k * 2 + 1) 0 = v) (h0 : 0 ≤ v) : ∃ t1 t2 t3 : Int, hotE z a xs k = (t1, t2, t3, 0, 0) ∧
    ∀ W : World, Calls Tryz.prog 241 #[.int .i64 v, .int .i64 z, .int .i64 (a + 3 + 2 * (k : Int) + 1)] W fun e w' => e = .returned (.agg #[.int .i64 t1, .int .i64 t2, .int .i64 t3, .int .i64 0, .int .i64 0]) ∧ Below W.heap.size W w' := by
  by_cases h : v = 0
  · subst h
    refine ⟨0, 0, 0, ?_, fun W => hotWhere_no _ _ W⟩
    unfold hotE
    rw [hv, if_neg (by omega)]
    rfl
  · refine ⟨1, z, a + 3 + 2 * (k : Int) + 1, ?_, fun W => hotWhere_yes v z _ W h⟩
    unfold hotE
    rw [hv, if_pos (by omega)]
    show (1, z, a + 4 + 2 * (k : Int), 0, 0) = _
    rw [show a + 4 + 2 * (k : Int) = a + 3 + 2 * (k : Int) + 1 by omega]

theorem ta_no (A5 : Option Addr) (N c5 : Nat) (w : World) : Sem.run Tryz.prog (Instr.typeAssert (.iface 286 (.agg #[.slice A5 N c5])) 254 282 true) w = .ok (.tuple #[.agg #[.slice none 0 0], .bool false]) w := by kernel_rfl
theorem ta_hot (A5 : Option Addr) (N c5 : Nat) (w : World) : Sem.run Tryz.prog (Instr.typeAssert (.iface 282 (.agg #[.slice A5 N c5])) 254 282 true) w = .ok (.tuple #[.agg #[.slice A5 N c5], .bool true]) w := by kernel_rfl
theorem ta_cold (A5 : Option Addr) (N c5 : Nat) (w : World) : Sem.run Tryz.prog (Instr.typeAssert (.iface 286 (.agg #[.slice A5 N c5])) 254 286 true) w = .ok (.tuple #[.agg #[.slice A5 N c5], .bool true]) w := by kernel_rfl

set_option maxHeartbeats 6400000 in
theorem tellHot (base g c2 : Nat) (ms : List Wh) (A5 : Option Addr) (N c5 B5 : Nat) (z a : Int) (xs : List Int) (w : World) (hm : MpR w base (some ⟨g, 0, none⟩) 12 c2 ms) (hi : Ints w B5 A5 (N * 2) xs) (hB5 : B5 ≤ g) (hr : RecsI 2 9 fldP xs N) (ha : 0 ≤ a ∧ a ≤ 60) :
    Calls Tryz.prog 212 #[.slice (some ⟨g, 0, none⟩) 12 c2, .iface 282 (.agg #[.slice A5 N c5]), .int .i64 z, .int .i64 a] w fun e w' => e = .returned (.tuple #[]) ∧ TK w w' base g c2 (puts (blkAt 2 xs) (hotE z a xs) N ms) := by
  obtain ⟨g', hg', _, hgl⟩ := hm.2.shape (by omega)
  cases hg'
  have HI := hide hi
  have HRI := hide hr
  have hN9 : N ≤ 9 := by have := hr.most; omega
  have HK0 : Hid (TK w w base g c2 (puts (blkAt 2 xs) (hotE z a xs) 0 ms)) := { own := hm, gr := grown_refl w _, gl := hgl }
  have HK1 := hide (HK0.out.alloc (.cells #[.slice A5 N c5] 282))
  obtain ⟨a0, a1⟩ := ha
  have wa : IntKind.i64.wrap (a + 3) = a + 3 := IntWalk.i64_in _ (by omega)
  clear hm hi hr HK0
  have hta := ta_hot A5 N c5
  go_enter Tryz.func212, Tryz.ntmps212
  go_wp2
  go_loopw [24] (fun i wr => ∃ k : Nat, k ≤ N ∧ i = .int .i64 k ∧ Hid (TK w wr base g c2 (puts (blkAt 2 xs) (hotE z a xs) k ms))) (fun i _ => N - (intOf i).toNat)
  case atStart => exact ⟨0, Nat.zero_le _, rfl, HK1.out⟩
  case round =>
    clear HK1
    obtain ⟨k, hk, rfl, HK⟩ := hrel
    by_cases hlt : k < N
    · have k0 : (0 : Int) ≤ (k : Int) := by omega
      have k1 : (k : Int) < (N : Int) := by omega
      have hb := HRI.out.blk k hlt
      have hlo := HRI.out.low k hlt
      have hfl := fldP_iff (HRI.out.fld k hlt)
      obtain ⟨ad, p, rfl, hp, hpb, hc0, hc1⟩ := ints_at2 (HI.out.grown HK.out.gr (by omega) (by intro q hq; injection hq with hq; omega)) hlt
      obtain ⟨J, hJ⟩ : ∃ J, blkAt 2 xs k = J := ⟨_, rfl⟩
      have hJ12 : J < 12 := by rw [← hJ]; exact hlo
      have hx0 : xs.getD (k * 2) 0 = (J : Int) := by rw [← hJ]; unfold blkAt; omega
      obtain ⟨v, hv⟩ : ∃ v, xs.getD (k * 2 + 1) 0 = v := ⟨_, rfl⟩
      rw [hx0] at hc0
      rw [hv] at hc1 hfl
      obtain ⟨t1, t2, t3, he, hw⟩ := hotWhere_e (z := z) (a := a) hv hfl.1
      have HW := hide hw
      have HST := hide (show (puts (blkAt 2 xs) (hotE z a xs) k ms).set J (t1, t2, t3, 0, 0) = puts (blkAt 2 xs) (hotE z a xs) (k + 1) ms by rw [puts_succ, hJ, he])
      have j0 : (0 : Int) ≤ (J : Int) := by omega
      have j1 : (J : Int) < 12 := by omega
      have wk : IntKind.i64.wrap (2 * (k : Int)) = 2 * (k : Int) := IntWalk.i64_in _ (by omega)
      have ws : IntKind.i64.wrap (a + 3 + 2 * (k : Int)) = a + 3 + 2 * (k : Int) := IntWalk.i64_in _ (by omega)
      have wt : IntKind.i64.wrap (a + 3 + 2 * (k : Int) + 1) = a + 3 + 2 * (k : Int) + 1 := IntWalk.i64_in _ (by omega)
      have HKB := hide (HK.out.alloc (.cells #[.int .i64 (J : Int), .int .i64 v] 221))
      have hbk := Blk.new wr 221 #[.int .i64 (J : Int), .int .i64 v]
      have hbl := hide hbk.lt
      have d0 : (wr.alloc (.cells #[.int .i64 (J : Int), .int .i64 v] 221)).cell? ⟨wr.heap.size, 0, none⟩ = some (.int .i64 (J : Int)) := by rw [hbk.cell]; rfl
      have d1 : (wr.alloc (.cells #[.int .i64 (J : Int), .int .i64 v] 221)).cell? ⟨wr.heap.size, 1, none⟩ = some (.int .i64 v) := by rw [hbk.cell]; rfl
      clear hb hlo hfl hJ hx0 hv he hw HK hbk
      go_upto_region 7 with (fail)
      go_region_with ((first
          | (go_at_call 241; refine (HW.out _).mono ?_; rintro e w5 ⟨rfl, hb1'⟩; have hb1 := below_undrewM (i := 1) hb1'; clear hb1'; obtain ⟨y0, y1, y2, y3, y4, ⟨f0, f1, f2, f3, f4⟩, z0, z1, z2, z3, z4⟩ := (HKB.out.own.below hb1).five hJ12; have e0 := (hb1.cell (p := ⟨wr.heap.size, 0, none⟩) hbl.out).trans d0; have e1 := (hb1.cell (p := ⟨wr.heap.size, 1, none⟩) hbl.out).trans d1)))
      all_goals
        have hk2 := ((HKB.out.below hb1).put hJ12 t1 t2 t3 0 0).1
        rw [HST.out] at hk2
        have HK2 := hide hk2
        clear hk2 hb1
        go_wp2
        go_roundw
        case rel => exact ⟨k + 1, by omega, by go_num, HK2.out⟩
        case measure => simp [intOf]; omega
    · obtain rfl : k = N := by omega
      go_wp2
      exact bodyPost_end (results_none Tryz.results212 _ _ _) rfl ⟨rfl, HK.out⟩

set_option maxHeartbeats 6400000 in
theorem tellCold (base g c2 : Nat) (ms : List Wh) (A5 : Option Addr) (N c5 B5 : Nat) (z a : Int) (xs : List Int) (w : World) (hm : MpR w base (some ⟨g, 0, none⟩) 12 c2 ms) (hi : Ints w B5 A5 (N * 3) xs) (hB5 : B5 ≤ g) (hr : RecsI 3 6 fldC xs N) (ha : 0 ≤ a ∧ a ≤ 60) :
    Calls Tryz.prog 212 #[.slice (some ⟨g, 0, none⟩) 12 c2, .iface 286 (.agg #[.slice A5 N c5]), .int .i64 z, .int .i64 a] w fun e w' => e = .returned (.tuple #[]) ∧ TK w w' base g c2 (puts (blkAt 3 xs) (coldE z a xs) N ms) := by
  obtain ⟨g', hg', _, hgl⟩ := hm.2.shape (by omega)
  cases hg'
  have HI := hide hi
  have HRI := hide hr
  have hN9 : N ≤ 6 := by have := hr.most; omega
  have HK0 : Hid (TK w w base g c2 (puts (blkAt 3 xs) (coldE z a xs) 0 ms)) := { own := hm, gr := grown_refl w _, gl := hgl }
  have HK1 := hide (HK0.out.alloc (.cells #[.slice A5 N c5] 286))
  obtain ⟨a0, a1⟩ := ha
  have wa : IntKind.i64.wrap (a + 3) = a + 3 := IntWalk.i64_in _ (by omega)
  clear hm hi hr HK0
  have hta := ta_no A5 N c5
  have htb := ta_cold A5 N c5
  go_enter Tryz.func212, Tryz.ntmps212
  go_wp2
  go_loopw [49] (fun i wr => ∃ k : Nat, k ≤ N ∧ i = .int .i64 k ∧ Hid (TK w wr base g c2 (puts (blkAt 3 xs) (coldE z a xs) k ms))) (fun i _ => N - (intOf i).toNat)
  case atStart => exact ⟨0, Nat.zero_le _, rfl, HK1.out⟩
  case round =>
    clear HK1
    obtain ⟨k, hk, rfl, HK⟩ := hrel
    by_cases hlt : k < N
    · have k0 : (0 : Int) ≤ (k : Int) := by omega
      have k1 : (k : Int) < (N : Int) := by omega
      have hb := HRI.out.blk k hlt
      have hlo := HRI.out.low k hlt
      obtain ⟨ad, p, rfl, hp, hpb, hc0, hc1, hc2⟩ := ints_at3 (HI.out.grown HK.out.gr (by omega) (by intro q hq; injection hq with hq; omega)) hlt
      obtain ⟨J, hJ⟩ : ∃ J, blkAt 3 xs k = J := ⟨_, rfl⟩
      have hJ12 : J < 12 := by rw [← hJ]; exact hlo
      have hx0 : xs.getD (k * 3) 0 = (J : Int) := by rw [← hJ]; unfold blkAt; omega
      obtain ⟨u, hu⟩ : ∃ u, xs.getD (k * 3 + 1) 0 = u := ⟨_, rfl⟩
      obtain ⟨v, hv⟩ : ∃ v, xs.getD (k * 3 + 2) 0 = v := ⟨_, rfl⟩
      rw [hx0] at hc0
      rw [hu] at hc1
      rw [hv] at hc2
      have HST := hide (show (puts (blkAt 3 xs) (coldE z a xs) k ms).set J (2, z, a + 3 + 3 * (k : Int), u, v) = puts (blkAt 3 xs) (coldE z a xs) (k + 1) ms by rw [puts_succ, hJ]; unfold coldE; rw [hu, hv])
      have j0 : (0 : Int) ≤ (J : Int) := by omega
      have j1 : (J : Int) < 12 := by omega
      have wk : IntKind.i64.wrap (3 * (k : Int)) = 3 * (k : Int) := IntWalk.i64_in _ (by omega)
      have ws : IntKind.i64.wrap (a + 3 + 3 * (k : Int)) = a + 3 + 3 * (k : Int) := IntWalk.i64_in _ (by omega)
      have HKB := hide (HK.out.alloc (.cells #[.int .i64 (J : Int), .int .i64 u, .int .i64 v] 228))
      obtain ⟨WB, hWB⟩ : ∃ WB, wr.alloc (.cells #[.int .i64 (J : Int), .int .i64 u, .int .i64 v] 228) = WB := ⟨_, rfl⟩
      have hbk := Blk.new wr 228 #[.int .i64 (J : Int), .int .i64 u, .int .i64 v]
      rw [hWB] at hbk HKB
      have d0 : WB.cell? ⟨wr.heap.size, 0, none⟩ = some (.int .i64 (J : Int)) := by rw [hbk.cell]; rfl
      have d1 : WB.cell? ⟨wr.heap.size, 1, none⟩ = some (.int .i64 u) := by rw [hbk.cell]; rfl
      have d2 : WB.cell? ⟨wr.heap.size, 2, none⟩ = some (.int .i64 v) := by rw [hbk.cell]; rfl
      obtain ⟨hk1, y0, y1, y2, y3, y4, f0, z0, f1, z1, f2, z2, f3, z3, f4, z4⟩ := HKB.out.put hJ12 2 z (a + 3 + 3 * (k : Int)) u v
      rw [HST.out] at hk1
      have HK1 := hide hk1
      clear hb hlo hJ hx0 hu hv HK hbk hk1 HKB HST
      go_wp2
      go_roundw
      case rel => exact ⟨k + 1, by omega, by go_num, HK1.out⟩
      case measure => simp [intOf]; omega
    · obtain rfl : k = N := by omega
      go_wp2
      exact bodyPost_end (results_none Tryz.results212 _ _ _) rfl ⟨rfl, HK.out⟩
end Go.Proofs.YtfianpjoifcphaaGreat
