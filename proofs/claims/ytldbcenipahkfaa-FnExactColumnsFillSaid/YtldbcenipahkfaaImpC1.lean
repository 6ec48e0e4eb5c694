/-
  The program's numbers modulo 101: base, modularOf, plus, minus, times, placeOf.
-/
import Derived.Test.YtldbcenipahkfaaCkP
import Derived.Handy
import Derived.Deep.RegionHeld3
namespace Go.Proofs.Ytldbcenipahkfaa
open Go.RowKit
set_option linter.unusedVariables false
set_option maxRecDepth 100000

/-- blocks of the call's own that are known whole -/
structure Kp (w W : World) (L : List (Nat × TypeId × Array Value)) : Prop where
  blk : ∀ p ∈ L, Blk W p.1 p.2.1 p.2.2 ∧ w.heap.size ≤ p.1
  below : Below w.heap.size w W
section
variable {w W W' : World} {t : TypeId} {cs : Array Value} {L : List (Nat × TypeId × Array Value)} {g : Nat}
theorem Kp.refl (w : World) : Kp w w [] := ⟨fun p hp => (List.not_mem_nil hp).elim, Below.refl _ _⟩
theorem Kp.push (h : Kp w W L) (t : TypeId) (cs : Array Value) : Kp w (W.alloc (.cells cs t)) ((W.heap.size, t, cs) :: L) :=
  ⟨fun p hp => by
    rcases List.mem_cons.1 hp with rfl | hp
    · exact ⟨Blk.new W t cs, h.below.size⟩
    · exact ⟨(h.blk p hp).1.alloc _, (h.blk p hp).2⟩, h.below.alloc h.below.size _⟩
theorem Kp.pushN (h : Kp w W L) (g : Nat) (hg : W.heap.size = g) (t : TypeId) (cs : Array Value) : Kp w (W.alloc (.cells cs t)) ((g, t, cs) :: L) := by subst hg; exact h.push t cs
theorem Kp.alloc (h : Kp w W L) (o : Obj) : Kp w (W.alloc o) L := ⟨fun p hp => ⟨(h.blk p hp).1.alloc _, (h.blk p hp).2⟩, h.below.alloc h.below.size _⟩
theorem Kp.drewN (h : Kp w W L) (n : Nat) : Kp w (W.drewN n) L := ⟨fun p hp => ⟨(h.blk p hp).1.drewN n, (h.blk p hp).2⟩, below_drewN h.below n⟩
theorem Kp.drew (h : Kp w W L) : Kp w W.drew L := h.drewN 1
theorem Kp.step (h : Kp w W L) (hb : Below W.heap.size W W') : Kp w W' L := ⟨fun p hp => ⟨(h.blk p hp).1.below hb (h.blk p hp).1.lt, (h.blk p hp).2⟩, h.below.trans (hb.mono h.below.size)⟩
theorem Kp.hd (h : Kp w W ((g, t, cs) :: L)) : Blk W g t cs := (h.blk _ (List.mem_cons_self ..)).1
theorem Kp.tl (h : Kp w W ((g, t, cs) :: L)) : Kp w W L := ⟨fun p hp => h.blk p (List.mem_cons_of_mem _ hp), h.below⟩
theorem Kp.sub {L' : List (Nat × TypeId × Array Value)} (h : Kp w W L) (hs : ∀ p ∈ L', p ∈ L) : Kp w W L' := ⟨fun p hp => h.blk p (hs p hp), h.below⟩
theorem Kp.swap {x y : Nat × TypeId × Array Value} (h : Kp w W (x :: y :: L)) : Kp w W (y :: x :: L) := ⟨fun p hp => h.blk p (by simp only [List.mem_cons] at hp ⊢; rcases hp with h | h | h <;> simp [h]), h.below⟩
theorem Kp.put (h : Kp w W ((g, t, cs) :: L)) (hne : ∀ p ∈ L, p.1 ≠ g) (j : Nat) (v : Value) : Kp w (W.setCell ⟨g, j, none⟩ v) ((g, t, cs.setIfInBounds j v) :: L) := by
  have hg := (h.blk _ (List.mem_cons_self ..)).2
  refine ⟨fun p hp => ?_, ?_⟩
  · rcases List.mem_cons.1 hp with rfl | hp
    · exact ⟨h.hd.set_ j v, hg⟩
    · exact ⟨(h.tl.blk p hp).1.far (p := ⟨g, j, none⟩) (hne p hp) v, (h.tl.blk p hp).2⟩
  · exact h.below.grown (w' := W.setCell ⟨g, j, none⟩ v) (row := some g) ⟨rfl, rfl, rfl, by simp [World.setCell], fun i hi hne => Below.heap_setCell W ⟨g, j, none⟩ _ i (by rintro rfl; exact hne rfl)⟩ h.below.size (by intro k hk; injection hk with hk; simp only at hg; omega)
theorem Kp.free (h : Kp w W ((g, t, cs) :: L)) (j : Nat) : W.frozen? ⟨g, j, none⟩ = false := h.hd.frozen j
theorem Kp.lt (h : Kp w W ((g, t, cs) :: L)) : g < W.heap.size := h.hd.lt
end

set_option maxHeartbeats 400000 in
theorem base_any (w : World) : Calls Try.prog 72 #[.agg #[]] w fun e w' => e = .returned (.int .i64 101) ∧ Below w.heap.size w w' := by
  go_enter Try.func72, Try.ntmps72
  go_wp2
  go_ret
  exact ⟨rfl, (Below.refl _ w).alloc (Nat.le_refl _) _⟩
theorem base_keep {w W : World} {x : Int} (h : Hid (Kp w W [(w.heap.size, 53, #[.int .i64 x])])) :
    Calls Try.prog 72 #[.agg #[]] W fun e W' => e = .returned (.int .i64 101) ∧ Hid (Kp w W' [(w.heap.size, 53, #[.int .i64 x])]) ∧ W'.cell? ⟨w.heap.size, 0, none⟩ = some (.int .i64 x) ∧ W'.frozen? ⟨w.heap.size, 0, none⟩ = false :=
  (base_any W).mono fun e W' ⟨he, hb⟩ => ⟨he, h.out.step hb, by rw [(h.out.step hb).hd.cell]; rfl, (h.out.step hb).free 0⟩
theorem meth_base (W : World) : (Go.method 190 64 (.agg #[]) "loop.example/tiervolume/impl.base").run Try.prog W = .ok (72, .agg #[]) W := by kernel_rfl

theorem tmod_pos (n : Int) (h0 : -1000000000000 ≤ n) (h1 : n ≤ 1000000000000) : (IntKind.i64.wrap (n.tmod 101 + 101)).tmod 101 = n % 101 := by
  have h2 : -100 ≤ n.tmod 101 ∧ n.tmod 101 ≤ 100 ∧ (n.tmod 101 - n) % 101 = 0 := by
    by_cases h : 0 ≤ n
    · rw [Int.tmod_eq_emod_of_nonneg h]; omega
    · have e : n.tmod 101 = -((-n).tmod 101) := by rw [Int.neg_tmod]; omega
      rw [e, Int.tmod_eq_emod_of_nonneg (by omega)]; omega
  rw [IntWalk.i64_in _ (by omega), Int.tmod_eq_emod_of_nonneg (by omega)]
  omega
set_option maxHeartbeats 1600000 in
theorem modOf_any (n : Int) (w : World) (h0 : -1000000000000 ≤ n) (h1 : n ≤ 1000000000000) :
    Calls Try.prog 54 #[.int .i64 n] w fun e w' => e = .returned (.agg #[.int .i64 (n % 101)]) ∧ Below w.heap.size w w' := by
  have hm := meth_base
  go_enter Try.func54, Try.ntmps54
  go_wp2
  have HK := hide (((Kp.refl w).push 53 #[.int .i64 0]).alloc (.cells #[] 64))
  generalize (w.alloc (.cells #[.int .i64 0] 53)).alloc (.cells #[] 64) = W0 at HK ⊢
  have HK0 := hide (HK.out.drewN 1)
  go_region_held3 (fun _ => True) (trivial)
    ((first
      | (go_at_call 72; refine (base_keep HK2).mono ?_; rintro e w1 ⟨rfl, HK3, hc, hf⟩)
      | (go_at_call 72; refine (base_keep HK1).mono ?_; rintro e w1 ⟨rfl, HK2, hc, hf⟩)
      | (go_at_call 72; refine (base_keep HK0).mono ?_; rintro e w1 ⟨rfl, HK1, hc, hf⟩)))
  have HF := hide (HK3.out.put (fun _ h => (List.not_mem_nil h).elim) 0 (.int .i64 (n % 101)))
  rw [tmod_pos n h0 h1]
  clear HK HK0 HK1 HK2 HK3 hm hc hf
  have q0 := HF.out.hd.cell 0
  simp only [List.setIfInBounds_toArray, List.set_cons_zero] at q0
  go_wp2
  exact bodyPost_ret (v := .agg #[.int .i64 (n % 101)]) (by simp [results, Try.results54, go_sem, q0]) rfl ⟨rfl, HF.out.below⟩
theorem mul_rng {a b : Int} (ha0 : 0 ≤ a) (ha1 : a ≤ 100) (hb0 : 0 ≤ b) (hb1 : b ≤ 100) : 0 ≤ a * b ∧ a * b ≤ 10000 :=
  ⟨Int.mul_nonneg ha0 hb0, Int.mul_le_mul ha1 hb1 hb0 (by omega)⟩

set_option maxHeartbeats 1600000 in
theorem plus_any (a b : Int) (w : World) (ha0 : 0 ≤ a) (ha1 : a ≤ 100) (hb0 : 0 ≤ b) (hb1 : b ≤ 100) :
    Calls Try.prog 55 #[.agg #[.int .i64 a], .agg #[.int .i64 b]] w fun e w' => e = .returned (.agg #[.int .i64 ((a + b) % 101)]) ∧ Below w.heap.size w w' := by
  have wx : IntKind.i64.wrap (a + b) = a + b := IntWalk.i64_in _ (by omega)
  obtain ⟨x, hx⟩ : ∃ x, (a + b) % 101 = x := ⟨_, rfl⟩
  have HM : Hid (∀ W : World, Calls Try.prog 54 #[.int .i64 (a + b)] W fun e w' => e = .returned (.agg #[.int .i64 x]) ∧ Below W.heap.size W w') := fun W => by
    have h := modOf_any (a + b) W (by omega) (by omega)
    rwa [hx] at h
  rw [hx]
  clear hx
  have HK0 := hide ((((Kp.refl w).push 53 #[.int .i64 a]).pushN (w.heap.size + 1) (by simp) 53 #[.int .i64 b]).pushN (w.heap.size + 1 + 1) (by simp) 53 #[.int .i64 0])
  go_enter Try.func55, Try.ntmps55
  go_wp2_with fail
  refine (HM.out _).mono ?_
  rintro e w1 ⟨rfl, hb⟩
  have HK1 := hide (HK0.out.step hb)
  have hfree := HK1.out.free 0
  have hcell := HK1.out.hd.cell 0
  have HK2 := hide (HK1.out.put (by intro p hp; simp at hp; rcases hp with rfl | rfl <;> simp <;> omega) 0 (.int .i64 x))
  have q0 := HK2.out.hd.cell 0
  simp only [List.setIfInBounds_toArray, List.set_cons_zero] at q0 hcell hfree
  simp at q0 hcell
  clear hb HK0 HM wx
  go_wp2
  exact bodyPost_ret (v := .agg #[.int .i64 x]) (by simp [results, Try.results55, go_sem, q0]) rfl ⟨rfl, HK2.out.below⟩

set_option maxHeartbeats 1600000 in
theorem minus_any (a b : Int) (w : World) (ha0 : 0 ≤ a) (ha1 : a ≤ 100) (hb0 : 0 ≤ b) (hb1 : b ≤ 100) :
    Calls Try.prog 51 #[.agg #[.int .i64 a], .agg #[.int .i64 b]] w fun e w' => e = .returned (.agg #[.int .i64 ((a - b) % 101)]) ∧ Below w.heap.size w w' := by
  have wx : IntKind.i64.wrap (a - b) = a - b := IntWalk.i64_in _ (by omega)
  obtain ⟨x, hx⟩ : ∃ x, (a - b) % 101 = x := ⟨_, rfl⟩
  have HM : Hid (∀ W : World, Calls Try.prog 54 #[.int .i64 (a - b)] W fun e w' => e = .returned (.agg #[.int .i64 x]) ∧ Below W.heap.size W w') := fun W => by
    have h := modOf_any (a - b) W (by omega) (by omega)
    rwa [hx] at h
  rw [hx]
  clear hx
  have HK0 := hide ((((Kp.refl w).push 53 #[.int .i64 a]).pushN (w.heap.size + 1) (by simp) 53 #[.int .i64 b]).pushN (w.heap.size + 1 + 1) (by simp) 53 #[.int .i64 0])
  go_enter Try.func51, Try.ntmps51
  go_wp2_with fail
  refine (HM.out _).mono ?_
  rintro e w1 ⟨rfl, hb⟩
  have HK1 := hide (HK0.out.step hb)
  have hfree := HK1.out.free 0
  have hcell := HK1.out.hd.cell 0
  have HK2 := hide (HK1.out.put (by intro p hp; simp at hp; rcases hp with rfl | rfl <;> simp <;> omega) 0 (.int .i64 x))
  have q0 := HK2.out.hd.cell 0
  simp only [List.setIfInBounds_toArray, List.set_cons_zero] at q0 hcell hfree
  simp at q0 hcell
  clear hb HK0 HM wx
  go_wp2
  exact bodyPost_ret (v := .agg #[.int .i64 x]) (by simp [results, Try.results51, go_sem, q0]) rfl ⟨rfl, HK2.out.below⟩

set_option maxHeartbeats 1600000 in
theorem times_any (a b : Int) (w : World) (ha0 : 0 ≤ a) (ha1 : a ≤ 100) (hb0 : 0 ≤ b) (hb1 : b ≤ 100) :
    Calls Try.prog 52 #[.agg #[.int .i64 a], .agg #[.int .i64 b]] w fun e w' => e = .returned (.agg #[.int .i64 ((a * b) % 101)]) ∧ Below w.heap.size w w' := by
  have hp := mul_rng ha0 ha1 hb0 hb1
  have wx : IntKind.i64.wrap (a * b) = a * b := IntWalk.i64_in _ (by omega)
  obtain ⟨x, hx⟩ : ∃ x, (a * b) % 101 = x := ⟨_, rfl⟩
  have HM : Hid (∀ W : World, Calls Try.prog 54 #[.int .i64 (a * b)] W fun e w' => e = .returned (.agg #[.int .i64 x]) ∧ Below W.heap.size W w') := fun W => by
    have h := modOf_any (a * b) W (by omega) (by omega)
    rwa [hx] at h
  rw [hx]
  clear hx
  have HK0 := hide ((((Kp.refl w).push 53 #[.int .i64 a]).pushN (w.heap.size + 1) (by simp) 53 #[.int .i64 b]).pushN (w.heap.size + 1 + 1) (by simp) 53 #[.int .i64 0])
  go_enter Try.func52, Try.ntmps52
  go_wp2_with fail
  refine (HM.out _).mono ?_
  rintro e w1 ⟨rfl, hb⟩
  have HK1 := hide (HK0.out.step hb)
  have hfree := HK1.out.free 0
  have hcell := HK1.out.hd.cell 0
  have HK2 := hide (HK1.out.put (by intro p hp; simp at hp; rcases hp with rfl | rfl <;> simp <;> omega) 0 (.int .i64 x))
  have q0 := HK2.out.hd.cell 0
  simp only [List.setIfInBounds_toArray, List.set_cons_zero] at q0 hcell hfree
  simp at q0 hcell
  clear hb HK0 HM wx
  go_wp2
  exact bodyPost_ret (v := .agg #[.int .i64 x]) (by simp [results, Try.results52, go_sem, q0]) rfl ⟨rfl, HK2.out.below⟩

set_option maxHeartbeats 1600000 in
theorem placeOf_any (n : Int) (w : World) (h0 : 0 ≤ n) (h1 : n ≤ 1000000000) :
    Calls Try.prog 50 #[.int .i64 n] w fun e w' => e = .returned (.agg #[.int .i64 ((n + 1) % 101)]) ∧ Below w.heap.size w w' := by
  obtain ⟨x, hx⟩ : ∃ x, (n + 1) % 101 = x := ⟨_, rfl⟩
  have HM : Hid (∀ W : World, Calls Try.prog 54 #[.int .i64 (n + 1)] W fun e w' => e = .returned (.agg #[.int .i64 x]) ∧ Below W.heap.size W w') := fun W => by
    have h := modOf_any (n + 1) W (by omega) (by omega)
    rwa [hx] at h
  rw [hx]
  clear hx
  have HK0 := hide ((Kp.refl w).push 53 #[.int .i64 0])
  go_enter Try.func50, Try.ntmps50
  go_wp2_with fail
  refine (HM.out _).mono ?_
  rintro e w1 ⟨rfl, hb⟩
  have HK1 := hide (HK0.out.step hb)
  have hfree := HK1.out.free 0
  have HK2 := hide (HK1.out.put (by intro p hp; cases hp) 0 (.int .i64 x))
  have hcell := HK1.out.hd.cell 0
  have q0 := HK2.out.hd.cell 0
  simp at q0 hcell
  clear hb HK0
  go_wp2
  exact bodyPost_ret (v := .agg #[.int .i64 x]) (by simp [results, Try.results50, go_sem, q0]) rfl ⟨rfl, HK2.out.below⟩
end Go.Proofs.Ytldbcenipahkfaa
