/-
  The drawn arguments of the laws on maps.
-/
import Derived.Test.YtgkjbickphdeoaaDrawM1
import Derived.Test.YtgkjbickphdeoaaDrawF
import Derived.Deep.RegionWith
namespace Go.Proofs.Ytgkjbickphdeoaa
open Go.RowKit
set_option linter.unusedVariables false
set_option maxRecDepth 100000

/-- what is known of a drawn map -/
structure DM (w w1 : World) (A : Option Addr) (n c : Nat) (ms : List Wh) : Prop where
  mpi : MpI w1 w1.heap.size A n ms
  num : n ≤ 12
  nc : n ≤ c
  cm : c ≤ maxLen
  below : Below w.heap.size w w1
theorem DM.of {w0 w w1 : World} {p : Int} {A : Option Addr} {n c : Nat} {ms : List Wh} (hb : Below w.heap.size w w0) (h : KM w0 w1 w.heap.size p A n c ms) : DM w w1 A n c ms :=
  { mpi := h.own.mpi, num := h.num, nc := h.own.cap.1, cm := h.own.cap.2, below := hb.grown h.grown hb.size (by intro q hq; injection hq with hq; omega) }

set_option maxHeartbeats 800000 in
theorem drawMV_any (A : Option Addr) (n c : Nat) (bs : Nat → Int) (w : World) (hb : Bytes w w.heap.size A n bs) (hn : n ≤ c) (hc : c ≤ maxLen) :
    Calls Try.prog 34 #[.slice A n c] w fun e w' => ∃ A1 m c1 ms, e = .returned (.slice A1 m c1) ∧ DM w w' A1 m c1 ms := by
  go_enter Try.func34, Try.ntmps34
  go_wp2_with fail
  refine (open_any A n c bs w hb hn hc).mono ?_
  rintro e w1 ⟨rfl, hr1, hb1⟩
  have HR := hide hr1
  have HB := hide hb1
  clear hb hr1 hb1
  go_wp2_with fail
  refine (map91_any w.heap.size 0 w1 HR.out (by omega)).mono ?_
  rintro e w2 ⟨A2, m, c2, ms, p2, rfl, _, _, hk⟩
  have HD := hide (DM.of HB.out hk)
  clear hk
  go_wp2
  go_ret
  exact ⟨_, _, _, _, rfl, HD.out⟩

set_option maxHeartbeats 800000 in
theorem drawMD_any (A : Option Addr) (n c : Nat) (bs : Nat → Int) (w : World) (hb : Bytes w w.heap.size A n bs) (hn : n ≤ c) (hc : c ≤ maxLen) :
    Calls Try.prog 28 #[.slice A n c] w fun e w' => ∃ A1 m c1 ms, e = .returned (.slice A1 m c1) ∧ DM w w' A1 m c1 ms := by
  go_enter Try.func28, Try.ntmps28
  go_wp2_with fail
  refine (open_any A n c bs w hb hn hc).mono ?_
  rintro e w1 ⟨rfl, hr1, hb1⟩
  have HR := hide hr1
  have HB := hide hb1
  clear hb hr1 hb1
  go_wp2_with fail
  refine (map91_any w.heap.size 0 w1 HR.out (by omega)).mono ?_
  rintro e w2 ⟨A2, m, c2, ms, p2, rfl, _, _, hk⟩
  have HD := hide (DM.of HB.out hk)
  clear hk
  go_wp2
  go_ret
  exact ⟨_, _, _, _, rfl, HD.out⟩

set_option maxHeartbeats 800000 in
theorem drawMI_any (A : Option Addr) (n c : Nat) (bs : Nat → Int) (w : World) (hb : Bytes w w.heap.size A n bs) (hn : n ≤ c) (hc : c ≤ maxLen) :
    Calls Try.prog 23 #[.slice A n c] w fun e w' => ∃ A1 m c1 ms z, e = .returned (.tuple #[.slice A1 m c1, .int .i64 z]) ∧ DM w w' A1 m c1 ms := by
  go_enter Try.func23, Try.ntmps23
  go_wp2_with fail
  refine (open_any A n c bs w hb hn hc).mono ?_
  rintro e w1 ⟨rfl, hr1, hb1⟩
  have HR := hide hr1
  have HB := hide hb1
  clear hb hr1 hb1
  go_wp2_with fail
  refine (map91_any w.heap.size 0 w1 HR.out (by omega)).mono ?_
  rintro e w2 ⟨A2, m, c2, ms, p2, rfl, h20, h21, hk⟩
  have HK := hide hk
  clear hk
  go_wp2_with fail
  refine (zone91_any w.heap.size p2 w2 HK.out.rd (by omega)).mono ?_
  rintro e w3 ⟨z, p3, rfl, _, _, _, _, hr3, hg3⟩
  have HD := hide (DM.of HB.out (HK.out.pick hr3 hg3))
  clear hr3 hg3
  go_wp2
  go_ret2
  exact ⟨_, _, _, _, _, rfl, HD.out⟩
set_option maxHeartbeats 800000 in
theorem drawMT_any (A : Option Addr) (n c : Nat) (bs : Nat → Int) (w : World) (hb : Bytes w w.heap.size A n bs) (hn : n ≤ c) (hc : c ≤ maxLen) :
    Calls Try.prog 31 #[.slice A n c] w fun e w' => ∃ A1 m c1 ms z, e = .returned (.tuple #[.slice A1 m c1, .int .i64 z]) ∧ DM w w' A1 m c1 ms := by
  go_enter Try.func31, Try.ntmps31
  go_wp2_with fail
  refine (open_any A n c bs w hb hn hc).mono ?_
  rintro e w1 ⟨rfl, hr1, hb1⟩
  have HR := hide hr1
  have HB := hide hb1
  clear hb hr1 hb1
  go_wp2_with fail
  refine (map91_any w.heap.size 0 w1 HR.out (by omega)).mono ?_
  rintro e w2 ⟨A2, m, c2, ms, p2, rfl, h20, h21, hk⟩
  have HK := hide hk
  clear hk
  go_wp2_with fail
  refine (pick_any w.heap.size p2 5 w2 HK.out.rd (by omega) (by omega)).mono ?_
  rintro e w3 ⟨z, rfl, _, _, hr3, hg3⟩
  have HD := hide (DM.of HB.out (HK.out.pick hr3 hg3))
  clear hr3 hg3
  go_wp2
  go_ret2
  exact ⟨_, _, _, _, _, rfl, HD.out⟩

/-- what is known of a drawn map, frame, zone and place -/
structure DA (w w1 : World) (A : Option Addr) (n c : Nat) (ms : List Wh) (kd sq : Int) (F : Option Addr) (fn fc : Nat) (xs : List Int) (z a : Int) : Prop where
  dm : DM w w1 A n c ms
  bod : Ints w1 w1.heap.size F fn xs
  fnum : fn ≤ 100
  fnc : fn ≤ fc
  fcm : fc ≤ maxLen
  z0 : -1 ≤ z ∧ z ≤ 5
  a0 : 0 ≤ a ∧ a ≤ 70

/-- the frame's variable and the result's, the map and the words -/
structure KA (w0 w : World) (R T C : Nat) (p : Int) (A : Option Addr) (n c : Nat) (ms : List Wh) (kd sq : Int) (F : Option Addr) (fn fc : Nat) (xs : List Int) : Prop where
  km : KM w0 w R p A n c ms
  bod : Own w w0.heap.size F fn fc xs
  fnum : fn ≤ 100
  box : Blk w T 26 #[.int .i64 kd, .int .i64 sq, .slice F fn fc]
  res : Blk w C 26 #[.int .i64 0, .int .i64 0, .slice none 0 0]
  tr : T ≠ R
  cr : C < R
section
variable {w0 w w' : World} {R T C n c fn fc : Nat} {p p' kd sq : Int} {A F : Option Addr} {ms : List Wh} {xs : List Int}
theorem KA.pick (h : KA w0 w R T C p A n c ms kd sq F fn fc xs) (hr : Rd w' R p') (hg : w.grownBy w' (some R)) : KA w0 w' R T C p' A n c ms kd sq F fn fc xs :=
  { km := h.km.pick hr hg, fnum := h.fnum, tr := h.tr, cr := h.cr
    bod := h.bod.kept hg (by intro q hq; injection hq with hq; subst hq; intro e; have := (h.bod.block _ e).1; have := h.km.rlt; omega)
    box := h.box.grown hg (by intro e; injection e with e; exact h.tr e)
    res := h.res.grown hg (by intro e; injection e with e; have := h.cr; omega) }
theorem KA.cells (h : KA w0 w R T C p A n c ms kd sq F fn fc xs) :
    (w.cell? ⟨T, 0, none⟩ = some (.int .i64 kd) ∧ w.cell? ⟨T, 1, none⟩ = some (.int .i64 sq) ∧ w.cell? ⟨T, 2, none⟩ = some (.slice F fn fc)) ∧
    (w.cell? ⟨C, 0, none⟩ = some (.int .i64 0) ∧ w.cell? ⟨C, 1, none⟩ = some (.int .i64 0) ∧ w.cell? ⟨C, 2, none⟩ = some (.slice none 0 0)) ∧
    (w.frozen? ⟨C, 0, none⟩ = false ∧ w.frozen? ⟨C, 1, none⟩ = false ∧ w.frozen? ⟨C, 2, none⟩ = false) ∧
    (w.frozen? ⟨T, 0, none⟩ = false ∧ w.frozen? ⟨T, 1, none⟩ = false ∧ w.frozen? ⟨T, 2, none⟩ = false) :=
  ⟨⟨by rw [h.box.cell]; rfl, by rw [h.box.cell]; rfl, by rw [h.box.cell]; rfl⟩, ⟨by rw [h.res.cell]; rfl, by rw [h.res.cell]; rfl, by rw [h.res.cell]; rfl⟩, ⟨h.res.frozen 0, h.res.frozen 1, h.res.frozen 2⟩, ⟨h.box.frozen 0, h.box.frozen 1, h.box.frozen 2⟩⟩
end
end Go.Proofs.Ytgkjbickphdeoaa
