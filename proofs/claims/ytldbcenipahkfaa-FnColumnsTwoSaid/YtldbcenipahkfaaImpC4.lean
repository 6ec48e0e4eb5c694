/-
  The program's lackOf.
-/
import Derived.Test.YtldbcenipahkfaaImpC3
namespace Go.Proofs.Ytldbcenipahkfaa
open Go.RowKit
set_option linter.unusedVariables false
set_option maxRecDepth 100000

/-- what lackOf keeps: the checks given, those of the columns, the result's block -/
def LKp (w W : World) (g : Nat) (c1 c2 s t : Int) : Prop :=
  Kp w W [(w.heap.size + 1, 55, #[.int .i64 0, .int .i64 0]), (g, 55, #[.int .i64 s, .int .i64 t]), (w.heap.size, 26, #[.int .i64 c1, .int .i64 c2])]
def LKc (w W : World) (g : Nat) (c1 c2 s t : Int) : Prop :=
  W.cell? ⟨w.heap.size, 0, none⟩ = some (.int .i64 c1) ∧ W.cell? ⟨w.heap.size, 1, none⟩ = some (.int .i64 c2) ∧ W.cell? ⟨g, 0, none⟩ = some (.int .i64 s) ∧ W.cell? ⟨g, 1, none⟩ = some (.int .i64 t)
def LKr (w W : World) : Prop :=
  W.cell? ⟨w.heap.size + 1, 0, none⟩ = some (.int .i64 0) ∧ W.cell? ⟨w.heap.size + 1, 1, none⟩ = some (.int .i64 0) ∧ W.frozen? ⟨w.heap.size + 1, 0, none⟩ = false ∧ W.frozen? ⟨w.heap.size + 1, 1, none⟩ = false
section
variable {w W : World} {g : Nat} {c1 c2 s t : Int}
theorem LKp.c (h : LKp w W g c1 c2 s t) : LKc w W g c1 c2 s t :=
  ⟨by rw [(Kp.hd (Kp.tl (Kp.tl h))).cell]; rfl, by rw [(Kp.hd (Kp.tl (Kp.tl h))).cell]; rfl, by rw [(Kp.hd (Kp.tl h)).cell]; rfl, by rw [(Kp.hd (Kp.tl h)).cell]; rfl⟩
theorem LKp.r (h : LKp w W g c1 c2 s t) : LKr w W := ⟨by rw [(Kp.hd h).cell]; rfl, by rw [(Kp.hd h).cell]; rfl, Kp.free h 0, Kp.free h 1⟩
theorem LKp.put2 (h : LKp w W g c1 c2 s t) (hg : w.heap.size + 1 < g) (u v : Value) :
    Kp w ((W.setCell ⟨w.heap.size + 1, 0, none⟩ u).setCell ⟨w.heap.size + 1, 1, none⟩ v) [(w.heap.size + 1, 55, #[u, v]), (g, 55, #[.int .i64 s, .int .i64 t]), (w.heap.size, 26, #[.int .i64 c1, .int .i64 c2])] := by
  have hne : ∀ p ∈ [(g, 55, #[Value.int .i64 s, .int .i64 t]), (w.heap.size, 26, #[.int .i64 c1, .int .i64 c2])], p.1 ≠ w.heap.size + 1 := by
    intro p hp
    simp only [List.mem_cons, List.not_mem_nil, or_false] at hp
    rcases hp with rfl | rfl <;> simp <;> omega
  exact (Kp.put (Kp.put h hne 0 u) hne 1 v)
theorem LKp.cc (h : LKp w W g c1 c2 s t) (hg : w.heap.size + 1 < g) (u v : Value) : LKc w ((W.setCell ⟨w.heap.size + 1, 0, none⟩ u).setCell ⟨w.heap.size + 1, 1, none⟩ v) g c1 c2 s t := by
  have h2 := h.put2 hg u v
  exact ⟨by rw [(Kp.hd (Kp.tl (Kp.tl h2))).cell]; rfl, by rw [(Kp.hd (Kp.tl (Kp.tl h2))).cell]; rfl, by rw [(Kp.hd (Kp.tl h2)).cell]; rfl, by rw [(Kp.hd (Kp.tl h2)).cell]; rfl⟩
theorem LKp.call {f : FuncId} {args : Array Value} {r : Ending} (h : LKp w W g c1 c2 s t) (hc : Calls Try.prog f args W fun e W' => e = r ∧ Below W.heap.size W W') :
    Calls Try.prog f args W fun e W' => e = r ∧ Hid (LKp w W' g c1 c2 s t) ∧ W'.cell? ⟨w.heap.size + 1, 0, none⟩ = some (.int .i64 0) ∧ W'.cell? ⟨w.heap.size + 1, 1, none⟩ = some (.int .i64 0) ∧ W'.frozen? ⟨w.heap.size + 1, 0, none⟩ = false ∧ W'.frozen? ⟨w.heap.size + 1, 1, none⟩ = false :=
  hc.mono fun e W' ⟨he, hb⟩ => ⟨he, Kp.step h hb, LKp.r (g := g) (c1 := c1) (c2 := c2) (s := s) (t := t) (Kp.step h hb)⟩
end

def LackPost (w : World) (v : Bool) (s t : Int) (e : Ending) (w' : World) : Prop := e = .returned (.tuple #[.agg #[.int .i64 s, .int .i64 t], .bool v]) ∧ Below w.heap.size w w'

set_option maxHeartbeats 3200000 in
theorem lack_no (A : Option Addr) (n c B : Nat) (xs : List Int) (c1 c2 : Int) (w : World) (hr : Ints w B A n xs) (hB : B ≤ w.heap.size) (hn : n ≤ 1000000000000)
    (h0 : -9223372036854775808 ≤ c1) (h1 : c1 ≤ 9223372036854775807) (h2 : -9223372036854775808 ≤ c2) (h3 : c2 ≤ 9223372036854775807) (hv : (colV xs && ckV (c1, c2)) = false) :
    Calls Try.prog 43 #[.slice A n c, .agg #[.int .i64 c1, .int .i64 c2]] w (LackPost w false 0 0) := by
  have HK0 := hide (((Kp.refl w).push 26 #[.int .i64 c1, .int .i64 c2]).pushN (w.heap.size + 1) (by simp) 55 #[.int .i64 0, .int .i64 0])
  have HC := hide fun (W : World) (hb : Below w.heap.size w W) => implCV A n c B xs W (hr.below hb hB) hn
  have HB0 := hide ((((Below.refl w.heap.size w).alloc (Nat.le_refl _) (.cells #[.int .i64 c1, .int .i64 c2] 26))).alloc (by simp) (.cells #[.int .i64 0, .int .i64 0] 55))
  clear hr
  rcases hx : colV xs with _ | _
  · rw [hx] at HC
    clear hv hx
    go_enter Try.func43, Try.ntmps43
    go_wp2_with fail
    refine (HC.out _ HB0.out).mono ?_
    rintro e w' ⟨rfl, rfl⟩
    go_wp2
    exact bodyPost_ret (v := .tuple #[.agg #[.int .i64 0, .int .i64 0], .bool false]) (by simp [results, Try.results43, go_sem]) rfl ⟨rfl, HK0.out.below⟩
  · rw [hx] at HC
    have hk : ckV (c1, c2) = false := by rw [hx, Bool.true_and] at hv; exact hv
    have HV := hide fun (W : World) => implKV c1 c2 W h0 h1 h2 h3
    rw [hk] at HV
    clear hv hx hk
    go_enter Try.func43, Try.ntmps43
    go_wp2_with fail
    refine (HC.out _ HB0.out).mono ?_
    rintro e w' ⟨rfl, rfl⟩
    go_wp2_with fail
    refine (HV.out _).mono ?_
    rintro e w1 ⟨rfl, hb1⟩
    have HK1 := hide (HK0.out.step hb1)
    have r0 := HK1.out.hd.cell 0
    have r1 := HK1.out.hd.cell 1
    have f0 := HK1.out.free 0
    have f1 := HK1.out.free 1
    have HF := hide ((HK1.out.put (by intro p hp; simp at hp; rcases hp with rfl; simp) 0 (.int .i64 0)).put (by intro p hp; simp at hp; rcases hp with rfl; simp) 1 (.int .i64 0))
    have q0 := HF.out.hd.cell 0
    have q1 := HF.out.hd.cell 1
    simp at q0 q1 r0 r1
    clear hb1
    go_wp2
    exact bodyPost_ret (v := .tuple #[.agg #[.int .i64 0, .int .i64 0], .bool false]) (by simp [results, Try.results43, go_sem, q0, q1]) rfl ⟨rfl, HF.out.below⟩

set_option maxHeartbeats 6400000 in
theorem lack_yes (A : Option Addr) (n c B : Nat) (xs : List Int) (c1 c2 : Int) (w : World) (hr : Ints w B A n xs) (hB : B ≤ w.heap.size) (hx : colV xs = true) (hk : ckV (c1, c2) = true) :
    Calls Try.prog 43 #[.slice A n c, .agg #[.int .i64 c1, .int .i64 c2]] w (LackPost w true (lkS xs (c1, c2)) (lkW xs (c1, c2))) := by
  have hn6 : n ≤ 6 := by rw [← hr.1]; exact (colV_iff.1 hx).2.2
  have hck := chk_rng xs
  have hk' := hk
  unfold ckV at hck hk'
  rw [Bool.and_eq_true, inB_iff, inB_iff] at hck hk'
  have HK0 := hide (((Kp.refl w).push 26 #[.int .i64 c1, .int .i64 c2]).pushN (w.heap.size + 1) (by simp) 55 #[.int .i64 0, .int .i64 0])
  have HB0 := hide ((((Below.refl w.heap.size w).alloc (Nat.le_refl _) (.cells #[.int .i64 c1, .int .i64 c2] 26))).alloc (by simp) (.cells #[.int .i64 0, .int .i64 0] 55))
  have HC := hide fun (W : World) (hb : Below w.heap.size w W) => implCV A n c B xs W (hr.below hb hB) (by omega)
  have HV := hide fun (W : World) => implKV c1 c2 W (by omega) (by omega) (by omega) (by omega)
  have HT := hide fun (W : World) (hb : Below w.heap.size w W) => tally_any A n c B xs W (hr.below hb hB) (Nat.le_trans hB hb.size) hx
  rw [hx] at HC
  rw [hk] at HV
  have eS : lkS xs (c1, c2) = (c1 % 101 - (chk xs).1) % 101 := by unfold lkS; omega
  have eW : lkW xs (c1, c2) = (c2 % 101 - (chk xs).2) % 101 := by unfold lkW; omega
  rw [eS, eW]
  clear hr hx hk eS eW
  obtain ⟨S0, S1⟩ := hck.1
  obtain ⟨T0, T1⟩ := hck.2
  generalize (chk xs).1 = s at *
  generalize (chk xs).2 = t at *
  have HM1 := hide fun (W : World) => modOf_any c1 W (by omega) (by omega)
  have HM2 := hide fun (W : World) => modOf_any c2 W (by omega) (by omega)
  have HN1 := hide fun (W : World) => minus_any (c1 % 101) s W (by omega) (by omega) S0 S1
  have HN2 := hide fun (W : World) => minus_any (c2 % 101) t W (by omega) (by omega) T0 T1
  clear hck hk'
  obtain ⟨X1, hX1⟩ : ∃ X, (c1 % 101 - s) % 101 = X := ⟨_, rfl⟩
  obtain ⟨X2, hX2⟩ : ∃ X, (c2 % 101 - t) % 101 = X := ⟨_, rfl⟩
  rw [hX1, hX2]
  rw [hX1] at HN1
  rw [hX2] at HN2
  clear hX1 hX2
  generalize c1 % 101 = y1 at *
  generalize c2 % 101 = y2 at *
  go_enter Try.func43, Try.ntmps43
  go_wp2_with fail
  refine (HC.out _ HB0.out).mono ?_
  rintro e w' ⟨rfl, rfl⟩
  go_wp2_with fail
  refine (HV.out _).mono ?_
  rintro e w1 ⟨rfl, hb1⟩
  have HK1 := hide (HK0.out.step hb1)
  clear hb1 HK0 HB0 HC HV
  go_wp2_with fail
  refine (HT.out _ HK1.out.below).mono ?_
  rintro e w2 ⟨rfl, hb2⟩
  have HK2 := hide (HK1.out.step hb2)
  obtain ⟨g, hg⟩ : ∃ g, w2.heap.size = g := ⟨_, rfl⟩
  have hgl : w.heap.size + 1 < g := by rw [← hg]; exact HK2.out.lt
  have HK3 : Hid (LKp w ((w2.alloc (.cells #[.int .i64 s, .int .i64 t] 55)).drewN 1) g c1 c2 s t) := ((HK2.out.pushN g hg 55 #[.int .i64 s, .int .i64 t]).swap).drewN 1
  have HKA : Hid (LKp w (w2.drew.alloc (.cells #[.int .i64 s, .int .i64 t] 55)) g c1 c2 s t) := HK3.out
  clear hb2 HK1 HK2 HT
  go_wp2_with fail
  clear hg
  go_region_held3 (fun W => W.cell? ⟨w.heap.size, 0, none⟩ = some (.int .i64 c1) ∧ W.cell? ⟨w.heap.size, 1, none⟩ = some (.int .i64 c2) ∧ W.cell? ⟨g, 0, none⟩ = some (.int .i64 s) ∧ W.cell? ⟨g, 1, none⟩ = some (.int .i64 t))
    (first
      | (exact LKp.c HKA.out)
      | (exact LKp.c HK4.out)
      | (exact LKp.c HK5.out)
      | (exact LKp.c HK6.out)
      | (exact LKp.c HK7.out)
      | (exact LKp.cc HK7.out hgl _ _))
    ((first
      | (go_at_call 54; refine (LKp.call HK5.out (HM2.out _)).mono ?_; rintro e w6 ⟨rfl, HK6, q0, q1, f0, f1⟩)
      | (go_at_call 54; refine (LKp.call HKA.out (HM1.out _)).mono ?_; rintro e w4 ⟨rfl, HK4, q0, q1, f0, f1⟩)
      | (go_at_call 51; refine (LKp.call HK6.out (HN2.out _)).mono ?_; rintro e w7 ⟨rfl, HK7, q0, q1, f0, f1⟩)
      | (go_at_call 51; refine (LKp.call HK4.out (HN1.out _)).mono ?_; rintro e w5 ⟨rfl, HK5, q0, q1, f0, f1⟩)))
  all_goals
    have HF := hide (LKp.put2 HK7.out hgl (.int .i64 X1) (.int .i64 X2))
    have q0 := HF.out.hd.cell 0
    have q1 := HF.out.hd.cell 1
    simp at q0 q1
    clear HK3 HKA HK4 HK5 HK6 HK7 HM1 HM2 HN1 HN2
    go_wp2
    exact bodyPost_ret (v := .tuple #[.agg #[.int .i64 X1, .int .i64 X2], .bool true]) (by simp [results, Try.results43, go_sem, q0, q1]) rfl ⟨rfl, HF.out.below⟩
end Go.Proofs.Ytldbcenipahkfaa
