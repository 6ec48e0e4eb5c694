/-
  The program's frameSize, the sizes of records, hotWhere, recordOf, slices.Clone of a map.
-/
import Derived.Test.YtfianpjoifcphaaGreatG3
import Derived.Test.YtfianpjoifcphaaGreatColP
import Derived.Test.YtfianpjoifcphaaGreatColC
import Derived.Test.YtfianpjoifcphaaGreatG1
import Derived.Handy
namespace Go.Proofs.YtfianpjoifcphaaGreat
open Go.RowKit
set_option linter.unusedVariables false
set_option maxRecDepth 100000

set_option maxHeartbeats 800000 in
theorem frameSize_any (b : Int) (w : World) (hb : 0 ≤ b ∧ b ≤ 1000) :
    Calls Tryz.prog 309 #[.int .i64 b] w fun e w' => e = .returned (.int .i64 (3 + b + 1)) ∧ w = w' := by
  obtain ⟨b0, b1⟩ := hb
  have w1 : IntKind.i64.wrap (3 + b) = 3 + b := IntWalk.i64_in _ (by omega)
  have w2 : IntKind.i64.wrap (3 + b + 1) = 3 + b + 1 := IntWalk.i64_in _ (by omega)
  go_enter Tryz.func309, Tryz.ntmps309
  go_wp2
  go_ret
  exact ⟨rfl, rfl⟩

set_option maxHeartbeats 800000 in
theorem sizeHot_any (A : Option Addr) (n c : Nat) (w : World) (hn : n ≤ 18) :
    Calls Tryz.prog 308 #[.agg #[.slice A n c]] w fun e w' => e = .returned (.int .i64 (3 + 2 * (n : Int) + 1)) ∧ Below w.heap.size w w' := by
  have w1 : IntKind.i64.wrap (2 * (n : Int)) = 2 * (n : Int) := IntWalk.i64_in _ (by omega)
  go_enter Tryz.func308, Tryz.ntmps308
  go_wp2_with fail
  refine (frameSize_any _ _ (by omega)).mono ?_
  rintro e w' ⟨rfl, rfl⟩
  go_wp2
  go_ret
  exact ⟨rfl, below_new w _⟩
set_option maxHeartbeats 800000 in
theorem sizeCold_any (A : Option Addr) (n c : Nat) (w : World) (hn : n ≤ 18) :
    Calls Tryz.prog 310 #[.agg #[.slice A n c]] w fun e w' => e = .returned (.int .i64 (3 + 3 * (n : Int) + 1)) ∧ Below w.heap.size w w' := by
  have w1 : IntKind.i64.wrap (3 * (n : Int)) = 3 * (n : Int) := IntWalk.i64_in _ (by omega)
  go_enter Tryz.func310, Tryz.ntmps310
  go_wp2_with fail
  refine (frameSize_any _ _ (by omega)).mono ?_
  rintro e w' ⟨rfl, rfl⟩
  go_wp2
  go_ret
  exact ⟨rfl, below_new w _⟩

set_option maxHeartbeats 800000 in
theorem hotWhere_no (z a : Int) (w : World) :
    Calls Tryz.prog 241 #[.int .i64 0, .int .i64 z, .int .i64 a] w fun e w' => e = .returned (.agg #[.int .i64 0, .int .i64 0, .int .i64 0, .int .i64 0, .int .i64 0]) ∧ Below w.heap.size w w' := by
  go_enter Tryz.func241, Tryz.ntmps241
  go_wp2
  refine bodyPost_ret (v := .agg #[.int .i64 0, .int .i64 0, .int .i64 0, .int .i64 0, .int .i64 0]) (by simp [results, Tryz.results241, go_sem]) rfl ?_
  exact ⟨rfl, by go_grown⟩
set_option maxHeartbeats 800000 in
theorem hotWhere_yes (v z a : Int) (w : World) (hv : v ≠ 0) :
    Calls Tryz.prog 241 #[.int .i64 v, .int .i64 z, .int .i64 a] w fun e w' => e = .returned (.agg #[.int .i64 1, .int .i64 z, .int .i64 a, .int .i64 0, .int .i64 0]) ∧ Below w.heap.size w w' := by
  have hv' : (v == 0) = false := by simpa using hv
  go_enter Tryz.func241, Tryz.ntmps241
  go_wp2
  refine bodyPost_ret (v := .agg #[.int .i64 1, .int .i64 z, .int .i64 a, .int .i64 0, .int .i64 0]) (by simp [results, Tryz.results241, go_sem]) rfl ?_
  exact ⟨rfl, by go_grown⟩

set_option maxHeartbeats 800000 in
theorem cloneM_any (ad : Addr) (n c B : Nat) (ms : List Wh) (w : World) (hr : MpI w B (some ad) n ms) (hB : B ≤ w.heap.size) (hn : n ≤ 1000000000) :
    Calls Tryz.prog 135 #[.slice (some ad) n c] w fun e w' => ∃ A2 c2, e = .returned (.slice A2 n c2) ∧ MpR w' w.heap.size A2 n c2 ms ∧ Below w.heap.size w w' := by
  have HI := hide hr
  clear hr
  have hq := fun (W : World) => Lib.run_eql_slice_nil (P := Tryz.prog) W 26 141 (some ad) n c 0 0 Tryz.underlying26
  go_enter Tryz.func135, Tryz.ntmps135
  go_wp2_with (at_builtin; refine wpList_append_recs whT rfl (.tmp 5) (.tmp 6) rfl w.heap.size 0 0 B n c (some ⟨w.heap.size, 0, none⟩) (some ad) [] (fl5 ms) rfl (OwnR.lit0 w _ (Nat.le_refl _) _ _) rfl (HI.out.alloc hB _).2 (by omega) (by simp) ?_; intro A2 c2 w3 ho3 hg3 hat3; clear hat3; simp only [Nat.zero_add, List.nil_append] at ho3 ⊢)
  go_ret
  exact ⟨_, _, rfl, ⟨HI.out.1, ho3⟩, below_app0 (Below.refl _ _) (Nat.le_refl _) hg3⟩

/-! ### a frame's record -/
def bodyXs (v : Bool) (xs : List Int) : List Int := if v then xs else []
theorem bodyXs_def (v : Bool) (xs : List Int) : (if v then xs else []) = bodyXs v xs := rfl
set_option maxHeartbeats 1600000 in
theorem record_no (kd sq : Int) (F : Option Addr) (fn fc BF : Nat) (xs : List Int) (w : World) (hf : Ints w BF F fn xs) (hBF : BF ≤ w.heap.size) (hfn : fn ≤ 1000000000) (h : validF kd sq xs = false) :
    Calls Tryz.prog 211 #[.agg #[.int .i64 kd, .int .i64 sq, .slice F fn fc]] w fun e w' => e = .returned (.tuple #[.nilIface, .bool false]) ∧ Below w.heap.size w w' := by
  have HB0 := hide (below_new w (.cells #[.int .i64 kd, .int .i64 sq, .slice F fn fc] 128))
  have HC := hide (h ▸ implValid kd sq F fn fc BF xs (w.alloc (.cells #[.int .i64 kd, .int .i64 sq, .slice F fn fc] 128)) (hf.alloc hBF _) (Nat.le_trans hBF HB0.out.size) (by unfold maxLen; omega))
  clear hf h
  go_enter Tryz.func211, Tryz.ntmps211
  go_wp2_with fail
  refine HC.out.mono ?_
  rintro e w1 ⟨rfl, hb1⟩
  have HB1 := hide (HB0.out.trans (hb1.mono HB0.out.size))
  clear hb1
  go_wp2
  go_ret2
  exact ⟨rfl, HB1.out⟩

set_option maxHeartbeats 3200000 in
theorem record_hot (kd sq : Int) (F : Option Addr) (fn fc BF : Nat) (xs : List Int) (w : World) (hf : Ints w BF F fn xs) (hBF : BF ≤ w.heap.size) (hfn : fn ≤ 1000000000) (hfc : fn ≤ fc) (hfm : fc ≤ 9223372036854775807) (h : validF kd sq xs = true) (hk : kd = 1) :
    Calls Tryz.prog 211 #[.agg #[.int .i64 kd, .int .i64 sq, .slice F fn fc]] w fun e w' => ∃ A5 N c5, e = .returned (.tuple #[.iface 282 (.agg #[.slice A5 N c5]), .bool (bodyOk kd xs)]) ∧ OwnR w' w.heap.size 221 2 A5 N c5 (bodyXs (bodyOk kd xs) xs) ∧ Below w.heap.size w w' := by
  have HBO : Hid (bodyOk kd xs = okG 2 9 fldP xs fn) := by show _ = _; unfold bodyOk; rw [if_pos hk, hf.1]
  obtain ⟨W0, hW0⟩ : ∃ W0, w.alloc (.cells #[.int .i64 kd, .int .i64 sq, .slice F fn fc] 128) = W0 := ⟨_, rfl⟩
  have HW0 := hide (show Below w.heap.size w W0 by rw [← hW0]; exact below_new w _)
  have HSW := hide (show W0.heap.size = w.heap.size + 1 by rw [← hW0]; simp)
  have HQ : Hid (∀ W : World, Below W0.heap.size W0 W → (W.cell? ⟨w.heap.size, 0, none⟩ = some (.int .i64 kd) ∧ W.cell? ⟨w.heap.size, 1, none⟩ = some (.int .i64 sq) ∧ W.cell? ⟨w.heap.size, 2, none⟩ = some (.slice F fn fc)) ∧ Below w.heap.size w W) := by
    intro W h
    have hb : Blk W0 w.heap.size 128 #[.int .i64 kd, .int .i64 sq, .slice F fn fc] := by rw [← hW0]; exact Blk.new w _ _
    have hb2 := hb.below h (by have := HSW.out; omega)
    exact ⟨⟨by rw [hb2.cell]; rfl, by rw [hb2.cell]; rfl, by rw [hb2.cell]; rfl⟩, HW0.out.trans (h.mono HW0.out.size)⟩
  have HC := hide (h ▸ implValid kd sq F fn fc BF xs W0 (hf.below HW0.out hBF) (Nat.le_trans hBF HW0.out.size) (by unfold maxLen; omega))
  have HG := hide fun (W : World) (h : Below w.heap.size w W) => implGetP F fn fc BF xs W (hf.below h hBF) (Nat.le_trans hBF h.size) (by omega) hfc hfm
  clear hf h
  obtain ⟨hq0, hq1, hq2⟩ := (HQ.out W0 (Below.refl _ _)).1
  subst hk
  go_enter Tryz.func211, Tryz.ntmps211
  go_wp2_with fail
  refine HC.out.mono ?_
  rintro e w1 ⟨rfl, hb1⟩
  obtain ⟨⟨hr0, hr1, hr2⟩, hB1⟩ := HQ.out w1 hb1
  have HB1 := hide hB1
  clear hb1 hB1 hq0 hq1 hq2
  go_wp2_with fail
  refine (HG.out w1 HB1.out).mono ?_
  rintro e w2 ⟨A5, N, c5, rfl, ho5, hb5⟩
  have HO5 := hide (ho5.mono HB1.out.size)
  have HB2 := hide (HB1.out.trans (hb5.mono HB1.out.size))
  clear ho5 hb5
  rw [← HBO.out] at HO5 ⊢
  rw [bodyXs_def] at HO5
  go_wp2
  go_ret2
  exact ⟨_, _, _, rfl, HO5.out, HB2.out⟩

set_option maxHeartbeats 3200000 in
theorem record_cold (kd sq : Int) (F : Option Addr) (fn fc BF : Nat) (xs : List Int) (w : World) (hf : Ints w BF F fn xs) (hBF : BF ≤ w.heap.size) (hfn : fn ≤ 1000000000) (hfc : fn ≤ fc) (hfm : fc ≤ 9223372036854775807) (h : validF kd sq xs = true) (hk : kd ≠ 1) :
    Calls Tryz.prog 211 #[.agg #[.int .i64 kd, .int .i64 sq, .slice F fn fc]] w fun e w' => ∃ A5 N c5, e = .returned (.tuple #[.iface 286 (.agg #[.slice A5 N c5]), .bool (bodyOk kd xs)]) ∧ OwnR w' w.heap.size 228 3 A5 N c5 (bodyXs (bodyOk kd xs) xs) ∧ Below w.heap.size w w' := by
  have HBO : Hid (bodyOk kd xs = okG 3 6 fldC xs fn) := by show _ = _; unfold bodyOk; rw [if_neg hk, hf.1]
  obtain ⟨W0, hW0⟩ : ∃ W0, w.alloc (.cells #[.int .i64 kd, .int .i64 sq, .slice F fn fc] 128) = W0 := ⟨_, rfl⟩
  have HW0 := hide (show Below w.heap.size w W0 by rw [← hW0]; exact below_new w _)
  have HSW := hide (show W0.heap.size = w.heap.size + 1 by rw [← hW0]; simp)
  have HQ : Hid (∀ W : World, Below W0.heap.size W0 W → (W.cell? ⟨w.heap.size, 0, none⟩ = some (.int .i64 kd) ∧ W.cell? ⟨w.heap.size, 1, none⟩ = some (.int .i64 sq) ∧ W.cell? ⟨w.heap.size, 2, none⟩ = some (.slice F fn fc)) ∧ Below w.heap.size w W) := by
    intro W h
    have hb : Blk W0 w.heap.size 128 #[.int .i64 kd, .int .i64 sq, .slice F fn fc] := by rw [← hW0]; exact Blk.new w _ _
    have hb2 := hb.below h (by have := HSW.out; omega)
    exact ⟨⟨by rw [hb2.cell]; rfl, by rw [hb2.cell]; rfl, by rw [hb2.cell]; rfl⟩, HW0.out.trans (h.mono HW0.out.size)⟩
  have HC := hide (h ▸ implValid kd sq F fn fc BF xs W0 (hf.below HW0.out hBF) (Nat.le_trans hBF HW0.out.size) (by unfold maxLen; omega))
  have HG := hide fun (W : World) (h : Below w.heap.size w W) => implGetC F fn fc BF xs W (hf.below h hBF) (Nat.le_trans hBF h.size) (by omega) hfc hfm
  clear hf h
  obtain ⟨hq0, hq1, hq2⟩ := (HQ.out W0 (Below.refl _ _)).1
  have hk' : (kd == 1) = false := by simpa using hk
  go_enter Tryz.func211, Tryz.ntmps211
  go_wp2_with fail
  refine HC.out.mono ?_
  rintro e w1 ⟨rfl, hb1⟩
  obtain ⟨⟨hr0, hr1, hr2⟩, hB1⟩ := HQ.out w1 hb1
  have HB1 := hide hB1
  clear hb1 hB1 hq0 hq1 hq2
  go_wp2_with fail
  refine (HG.out w1 HB1.out).mono ?_
  rintro e w2 ⟨A5, N, c5, rfl, ho5, hb5⟩
  have HO5 := hide (ho5.mono HB1.out.size)
  have HB2 := hide (HB1.out.trans (hb5.mono HB1.out.size))
  clear ho5 hb5
  rw [← HBO.out] at HO5 ⊢
  rw [bodyXs_def] at HO5
  go_wp2
  go_ret2
  exact ⟨_, _, _, rfl, HO5.out, HB2.out⟩
end Go.Proofs.YtfianpjoifcphaaGreat
