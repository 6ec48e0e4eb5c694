/-
  The model's FrameGet: the frame at a place, or nothing.
-/
import Derived.Test.YtfianpjoifcphaaGreatG4
import Derived.Deep.RegionHeld3
import Derived.Deep.DeepCutAuto
namespace Go.Proofs.YtfianpjoifcphaaGreat
open Go.RowKit
set_option linter.unusedVariables false
set_option maxRecDepth 100000

theorem good_parts {xs : List Int} {n : Nat} {a m : Nat} (hm : xs.getD (a + 2) 0 = (m : Int)) (hl : a + 4 + m ≤ n) :
    goodF xs n a ↔ (validF (xs.getD a 0) (xs.getD (a + 1) 0) (cutW xs (a + 3) m) = true ∧ xs.getD (a + 3 + m) 0 = sumFrom 7 (cutW xs a (3 + m))) := by
  unfold goodF enough bodyAt
  simp only [Int.toNat_natCast, hm]
  constructor
  · intro h; exact h.2
  · intro h; exact ⟨⟨by omega, by omega, by omega, by omega⟩, h⟩

/-- the words of a valid frame ahead of its sum -/
theorem cut_head {xs : List Int} {a m : Nat} (hl : a + 4 + m ≤ xs.length) (hm : xs.getD (a + 2) 0 = (m : Int)) :
    cutW xs a (3 + m) = headF (xs.getD a 0) (xs.getD (a + 1) 0) (cutW xs (a + 3) m) := by
  have h1 : a < xs.length := by omega
  have h2 : a + 1 < xs.length := by omega
  have h3 : a + 2 < xs.length := by omega
  unfold headF
  rw [cutW_length _ _ _ (by omega), ← hm]
  unfold cutW
  rw [List.drop_eq_getElem_cons h1, List.drop_eq_getElem_cons h2, List.drop_eq_getElem_cons h3]
  have e : 3 + m = m + 1 + 1 + 1 := by omega
  rw [e, List.take_succ_cons, List.take_succ_cons, List.take_succ_cons]
  simp [List.getD, h1, h2, h3]

set_option maxHeartbeats 1600000 in
theorem specGet_early (A : Option Addr) (n c : Nat) (p : Int) (xs : List Int) (w : World) (hi : Ints w w.heap.size A n xs) (hn : n ≤ c) (hc : c ≤ 9223372036854775807) (hn2 : n ≤ 17592186044416)
    (hp : p ≤ 9223372036854775807) (hno : p < 0 ∨ (n : Int) - 5 < p ∨ inB (xs.getD (p.toNat + 2) 0) 1 18 = false) :
    Calls Tryz.prog 215 #[.slice A n c, .int .i64 p] w fun e w' => e = .returned noFrame ∧ Below w.heap.size w w' := by
  have hr := Blk.new w 128 #[.int .i64 0, .int .i64 0, .slice none 0 0]
  obtain ⟨r0, r1, r2⟩ := blk_cells3 hr
  have f0 := hr.frozen 0
  have f1 := hr.frozen 1
  have f2 := hr.frozen 2
  obtain ⟨q0, q1, q2⟩ := blk_cells3 (frame_new w.heap.size _ _ _ hr (.int .i64 0) (.int .i64 0) (.slice none 0 0))
  clear hr
  by_cases h1 : p < 0
  · have g1 : decide (p < 0) = true := by simpa using h1
    clear hno hi
    go_enter Tryz.func215, Tryz.ntmps215
    go_wp2
    refine bodyPost_ret (v := noFrame) (by simp [noFrame, results, Tryz.results215, go_sem]) rfl ⟨rfl, ?_⟩
    exact below_box _ _
  · have g1 : decide (p < 0) = false := by simpa using h1
    by_cases h2 : (n : Int) - 5 < p
    · have g2 : decide ((n : Int) - 5 < p) = true := by simpa using h2
      clear hno hi
      go_enter Tryz.func215, Tryz.ntmps215
      go_wp2
      refine bodyPost_ret (v := noFrame) (by simp [noFrame, results, Tryz.results215, go_sem]) rfl ⟨rfl, ?_⟩
      exact below_box _ _
    · have g2 : decide ((n : Int) - 5 < p) = false := by simpa using h2
      obtain ⟨a, rfl⟩ := Int.eq_ofNat_of_zero_le (show 0 ≤ p by omega)
      have h3 : inB (xs.getD (a + 2) 0) 1 18 = false := by
        rcases hno with h | h | h
        · exact absurd h h1
        · exact absurd h h2
        · simpa using h
      obtain ⟨ad, rfl, hb, hcell⟩ := hi.at_ (k := a + 2) (by omega)
      have hcell' := (World.cell?_alloc_lt w (.cells #[.int .i64 0, .int .i64 0, .slice none 0 0] 128) (ad.add (a + 2)) (by rw [block_of_add]; exact hb)).trans hcell
      generalize xs.getD (a + 2) 0 = m at h3 hcell'
      have H3 := hide h3
      obtain ⟨b, hb2⟩ : ∃ b, a + 2 = b := ⟨_, rfl⟩
      rw [hb2] at hcell'
      have i0 : (a : Int) + 2 = (b : Int) := by omega
      have i1 : (b : Int) < (n : Int) := by omega
      clear hb2
      clear hno hi hcell h3
      go_enter Tryz.func215, Tryz.ntmps215
      go_wp2_with (go_at_call 60; refine (in_no _ _ _ _ H3.out).mono ?_; rintro e w' ⟨rfl, rfl⟩)
      refine bodyPost_ret (v := noFrame) (by simp [noFrame, results, Tryz.results215, go_sem]) rfl ⟨rfl, ?_⟩
      exact below_box _ _

set_option maxHeartbeats 1600000 in
theorem specGet_long (A : Option Addr) (n c a m : Nat) (xs : List Int) (w : World) (hi : Ints w w.heap.size A n xs) (hn : n ≤ c) (hc : c ≤ 9223372036854775807) (hn2 : n ≤ 17592186044416)
    (ha : a + 5 ≤ n) (hm : xs.getD (a + 2) 0 = (m : Int)) (hm1 : inB (m : Int) 1 18 = true) (hl : n < a + 4 + m) :
    Calls Tryz.prog 215 #[.slice A n c, .int .i64 (a : Int)] w fun e w' => e = .returned noFrame ∧ Below w.heap.size w w' := by
  have hr := Blk.new w 128 #[.int .i64 0, .int .i64 0, .slice none 0 0]
  obtain ⟨r0, r1, r2⟩ := blk_cells3 hr
  have f0 := hr.frozen 0
  have f1 := hr.frozen 1
  have f2 := hr.frozen 2
  have g1 : decide ((a : Int) < 0) = false := by simp
  have g2 : decide ((n : Int) - 5 < (a : Int)) = false := by simp; omega
  obtain ⟨ad, rfl, hb, hcell⟩ := hi.at_ (k := a + 2) (by omega)
  have hcell' := (World.cell?_alloc_lt w (.cells #[.int .i64 0, .int .i64 0, .slice none 0 0] 128) (ad.add (a + 2)) (by rw [block_of_add]; exact hb)).trans hcell
  rw [hm] at hcell'
  obtain ⟨b, hb2⟩ : ∃ b, a + 2 = b := ⟨_, rfl⟩
  rw [hb2] at hcell'
  have i0 : (a : Int) + 2 = (b : Int) := by omega
  have i1 : (b : Int) < (n : Int) := by omega
  have i2 : (n : Int) < (a : Int) + 4 + (m : Int) := by omega
  have i3 : (m : Int) ≤ 18 := (inB_iff.1 hm1).2
  have H3 := hide hm1
  clear hb2 hi hcell hm hm1 hr
  go_enter Tryz.func215, Tryz.ntmps215
  go_wp2_with (go_at_call 60; refine (in_yes _ _ _ _ H3.out).mono ?_; rintro e w' ⟨rfl, rfl⟩)
  refine bodyPost_ret (v := noFrame) (by simp [noFrame, results, Tryz.results215, go_sem]) rfl ⟨rfl, ?_⟩
  exact below_box _ _

theorem own_blk_ne' {w : World} {g base n c : Nat} {t : TypeId} {cs : Array Value} {A : Option Addr} {xs : List Int} (h : Own w base A n c xs) (hg : Blk w g t cs) (hne : 3 ≠ t) : (Value.slice A n c).ownBlock ≠ some g := by
  rcases h.2.2 with ⟨hv, _⟩ | ⟨g', cap, cur, hv, _, hh, _⟩
  · rw [hv]; simp [Value.ownBlock]
  · rw [hv]
    intro he
    have e : g' = g := by simpa [Value.ownBlock] using he
    subst e
    have hg' : w.heap[g']? = some (.cells cs t (0, 0)) := hg
    rw [hh] at hg'
    injection hg' with hg'
    injection hg' with _ ht
    exact hne ht

/-- what the statement that builds f leaves: f's block, its body a row of the call's own -/
def FCut (w : World) (x0 x1 : Int) (m : Nat) (body : List Int) (s8 : Value) (wx : World) : Prop :=
  ∃ F A3 c3, s8 = .pointer (some ⟨F, 0, none⟩) ∧ Blk wx F 128 #[.int .i64 x0, .int .i64 x1, .slice A3 m c3] ∧ Own wx w.heap.size A3 m c3 body ∧ Below w.heap.size w wx ∧
    Blk wx w.heap.size 128 #[.int .i64 0, .int .i64 0, .slice none 0 0] ∧ w.heap.size < F

theorem fcut_alloc {w W w3 : World} {g m c3 : Nat} {A3 : Option Addr} {body : List Int} {x0 x1 : Int} (hw : Below w.heap.size w W) (hQ : Blk W w.heap.size 128 #[.int .i64 0, .int .i64 0, .slice none 0 0])
    (hg : W.grownBy w3 (Value.slice (some ⟨g, 0, none⟩) 0 0).ownBlock) (hgb : w.heap.size < g) (ho : Own w3 w.heap.size A3 m c3 body) :
    FCut w x0 x1 m body (.pointer (some ⟨w3.heap.size, 0, none⟩)) (w3.alloc (.cells #[.int .i64 x0, .int .i64 x1, .slice A3 m c3] 128)) := by
  have hr : ∀ k, (Value.slice (some ⟨g, 0, none⟩) 0 0).ownBlock = some k → k = g := fun k e => by simp [Value.ownBlock] at e; exact e.symm
  have hQ3 := hQ.grown hg (by intro e; have := hr _ e.symm; omega)
  have hB3 := hw.grown hg hw.size (fun k e => by have := hr k e; omega)
  exact ⟨w3.heap.size, A3, c3, rfl, Blk.new w3 _ _, ho.alloc _, hB3.alloc hB3.size _, hQ3.alloc _, hQ3.lt⟩
theorem fcut_set {w W w3 : World} {g m c3 F : Nat} {A3 : Option Addr} {body : List Int} {x0 x1 : Int} {u0 u1 u2 : Value} (hw : Below w.heap.size w W) (hQ : Blk W w.heap.size 128 #[.int .i64 0, .int .i64 0, .slice none 0 0])
    (hg : W.grownBy w3 (Value.slice (some ⟨g, 0, none⟩) 0 0).ownBlock) (hgb : w.heap.size < g) (ho : Own w3 w.heap.size A3 m c3 body) (hF : Blk w3 F 128 #[u0, u1, u2]) (hFb : w.heap.size < F) :
    FCut w x0 x1 m body (.pointer (some ⟨F, 0, none⟩)) (((w3.setCell ⟨F, 0, none⟩ (.int .i64 x0)).setCell ⟨F, 1, none⟩ (.int .i64 x1)).setCell ⟨F, 2, none⟩ (.slice A3 m c3)) := by
  have hr : ∀ k, (Value.slice (some ⟨g, 0, none⟩) 0 0).ownBlock = some k → k = g := fun k e => by simp [Value.ownBlock] at e; exact e.symm
  have hQ3 := hQ.grown hg (by intro e; have := hr _ e.symm; omega)
  have hB3 := hw.grown hg hw.size (fun k e => by have := hr k e; omega)
  have hset := set3_grown w3 F (.int .i64 x0) (.int .i64 x1) (.slice A3 m c3)
  exact ⟨F, A3, c3, rfl, frame_new F _ _ _ hF _ _ _, ho.kept hset (by intro q e; injection e with e; subst e; exact own_blk_ne' ho hF (by decide)), hB3.grown hset hB3.size (by intro q e; injection e with e; omega),
    hQ3.grown hset (by intro e; injection e with e; omega), hFb⟩
theorem cell_alloc' {w : World} {o : Obj} {p : Addr} {u : Value} (hc : w.cell? p = some u) : (w.alloc o).cell? p = some u := by
  rw [World.cell?_alloc_lt w o p (World.block_lt_of_cell? w _ hc)]; exact hc
theorem cell_set3 {w : World} {p : Addr} {F : Nat} {u u0 u1 u2 : Value} (hc : w.cell? p = some u) (hne : p.block ≠ F) :
    (((w.setCell ⟨F, 0, none⟩ u0).setCell ⟨F, 1, none⟩ u1).setCell ⟨F, 2, none⟩ u2).cell? p = some u :=
  (World.cell?_of_block ((set3_grown w F u0 u1 u2).block p.block (World.block_lt_of_cell? w _ hc) (by intro e; injection e with e; exact hne e))).trans hc
theorem grown_undrew {w w' : World} {row : Option Nat} (h : w.drew.grownBy w' row) : w.grownBy w' row := ⟨h.os, h.tape, h.output, h.size, h.block⟩
theorem cell_gr {w w' : World} {row : Option Nat} {p : Addr} {u : Value} (hc : w.cell? p = some u) (hg : w.grownBy w' row) (hr : ∀ g, row = some g → p.block ≠ g) : w'.cell? p = some u :=
  (World.cell?_of_block (hg.block p.block (World.block_lt_of_cell? w _ hc) (fun e => hr _ e.symm rfl))).trans hc
theorem cell_app {w w' : World} {o : Obj} {row : Option Nat} {p : Addr} {u : Value} (hc : w.cell? p = some u) (hg : (w.alloc o).grownBy w' row) (hr : ∀ g, row = some g → p.block ≠ g) : w'.cell? p = some u := by
  have hl := World.block_lt_of_cell? w _ hc
  rw [World.cell?_of_block (hg.block p.block (by simp; omega) (fun e => hr _ e.symm rfl)), World.cell?_alloc_lt w o p hl]
  exact hc

/-- what the model's FrameGet hands back where there are enough words -/
def DeepPost (w : World) (xs : List Int) (a m : Nat) (x0 x1 x3 : Int) (e : Ending) (w' : World) : Prop :=
  if validF x0 x1 (cutW xs (a + 3) m) = true ∧ x3 = sumFrom 7 (cutW xs a (3 + m)) then
    ∃ A2 c2, e = .returned (.tuple #[.agg #[.int .i64 x0, .int .i64 x1, .slice A2 m c2], .int .i64 ((a : Int) + 4 + m), .bool true]) ∧ Own w' w.heap.size A2 m c2 (cutW xs (a + 3) m) ∧ Below w.heap.size w w'
  else e = .returned noFrame ∧ Below w.heap.size w w'

set_option maxRecDepth 100000 in
set_option maxHeartbeats 6400000 in
theorem specGet_deep (A : Option Addr) (n c a m : Nat) (xs : List Int) (w : World) (hi : Ints w w.heap.size A n xs) (hn : n ≤ c) (hc : c ≤ 9223372036854775807) (hn2 : n ≤ 17592186044416)
    (hm : xs.getD (a + 2) 0 = (m : Int)) (hm1 : inB (m : Int) 1 18 = true) (hl : a + 4 + m ≤ n)
    (x0 x1 x3 : Int) (hx0 : xs.getD a 0 = x0) (hx1 : xs.getD (a + 1) 0 = x1) (hx3 : xs.getD (a + 3 + m) 0 = x3) :
    Calls Tryz.prog 215 #[.slice A n c, .int .i64 (a : Int)] w (DeepPost w xs a m x0 x1 x3) := by
  have hm18 : 1 ≤ (m : Int) ∧ (m : Int) ≤ 18 := inB_iff.1 hm1
  have hr := Blk.new w 128 #[.int .i64 0, .int .i64 0, .slice none 0 0]
  obtain ⟨r0, r1, r2⟩ := blk_cells3 hr
  have f0 := hr.frozen 0
  have f1 := hr.frozen 1
  have f2 := hr.frozen 2
  have g1 : decide ((a : Int) < 0) = false := by simp
  have g2 : decide ((n : Int) - 5 < (a : Int)) = false := by simp; omega
  obtain ⟨ad, rfl, hb, _⟩ := hi.at_ (k := a + 2) (by omega)
  have hia := hi.alloc (Nat.le_refl _) (.cells #[.int .i64 0, .int .i64 0, .slice none 0 0] 128)
  have cell_at : ∀ k, k < n → (w.alloc (.cells #[.int .i64 0, .int .i64 0, .slice none 0 0] 128)).cell? (ad.add k) = some (.int .i64 (xs.getD k 0)) := fun k hk => by
    obtain ⟨ad', e, _, h⟩ := hia.at_ hk
    injection e with e
    subst e
    exact h
  have k0 := cell_at a (by omega)
  have k1 := cell_at (a + 1) (by omega)
  have k2 := cell_at (a + 2) (by omega)
  have k3 := cell_at (a + 3 + m) (by omega)
  rw [hx0] at k0
  rw [hx1] at k1
  rw [hm] at k2
  rw [hx3] at k3
  obtain ⟨b1, hb1⟩ : ∃ b, a + 1 = b := ⟨_, rfl⟩
  obtain ⟨b2, hb2⟩ : ∃ b, a + 2 = b := ⟨_, rfl⟩
  obtain ⟨b3, hb3⟩ : ∃ b, a + 3 = b := ⟨_, rfl⟩
  obtain ⟨b4, hb4⟩ : ∃ b, a + 3 + m = b := ⟨_, rfl⟩
  rw [hb1] at k1
  rw [hb2] at k2
  rw [hb4] at k3
  obtain ⟨D, hD⟩ : ∃ D, (if c = b3 then some ad else some (ad.add b3)) = D := ⟨_, rfl⟩
  obtain ⟨D', hD'⟩ : ∃ D', (if c = a then some ad else some (ad.add a)) = D' := ⟨_, rfl⟩
  have HC : Hid (∀ (W : World), Ints W w.heap.size (some ad) n xs → Ints W w.heap.size D m (cutW xs (a + 3) m) ∧ Ints W w.heap.size D' (3 + m) (cutW xs a (3 + m))) := by
    intro W h
    have h1 := h.cut' (a := b3) (m := m) (by omega) hn
    have h2 := h.cut' (a := a) (m := 3 + m) (by omega) hn
    rw [Option.map_some, hD] at h1
    rw [Option.map_some, hD'] at h2
    rw [hb3]
    exact ⟨h1, h2⟩
  have i1 : (a : Int) + 1 = (b1 : Int) := by omega
  have i2 : (a : Int) + 2 = (b2 : Int) := by omega
  have i3 : (a : Int) + 3 = (b3 : Int) := by omega
  have i4 : (a : Int) + 4 + (m : Int) - 1 = (b4 : Int) := by omega
  have j0 : (a : Int) < (n : Int) := by omega
  have j1 : (b1 : Int) < (n : Int) := by omega
  have j2 : (b2 : Int) < (n : Int) := by omega
  have j3 : (b3 : Int) ≤ (b4 : Int) := by omega
  have j4 : (b4 : Int) ≤ (c : Int) := by omega
  have j5 : (b4 : Int) < (n : Int) := by omega
  have j6 : (a : Int) ≤ (b4 : Int) := by omega
  have j7 : (a : Int) + 4 + (m : Int) ≤ (n : Int) := by omega
  have l1 : b4 - b3 = m := by omega
  have l2 : b4 - a = 3 + m := by omega
  have H1 := hide hm1
  have HI := hide hia
  have HI0 := hide hi
  have HK3 : Hid (w.cell? (ad.add b4) = some (.int .i64 x3)) := by
    obtain ⟨ad', e, _, h⟩ := hi.at_ (k := b4) (by omega)
    injection e with e
    subst e
    rw [← hb4, hx3] at h
    rw [← hb4]
    exact h
  have HX := hide (And.intro hx0 (And.intro hx1 hx3))
  have HM := hide hm
  have HL := hide hi.1
  have m18 : m ≤ 18 := by omega
  obtain ⟨m1, m2⟩ := hm18
  clear hi hia cell_at hb1 hb2 hb3 hb4 hx0 hx1 hx3 hm hm1 hr
  go_enter Tryz.func215, Tryz.ntmps215
  go_wp2_with (go_at_call 60; refine (in_yes _ _ _ _ H1.out).mono ?_; rintro e w' ⟨rfl, rfl⟩)
  have hadw : ad.block < w.heap.size + 1 := by omega
  have y1 : IntKind.i64.wrap (b1 : Int) = (b1 : Int) := IntWalk.i64_in _ (by omega)
  have y3 : IntKind.i64.wrap (b3 : Int) = (b3 : Int) := IntWalk.i64_in _ (by omega)
  have y4 : IntKind.i64.wrap (b4 : Int) = (b4 : Int) := IntWalk.i64_in _ (by omega)
  have HNE : Hid (∀ g, (Value.slice (some ⟨w.heap.size + 1, 0, none⟩) 0 0).ownBlock = some g → (ad.add a).block ≠ g ∧ (ad.add b1).block ≠ g) := by
    intro g hg
    simp [Value.ownBlock] at hg
    rw [block_of_add, block_of_add]
    omega
  have HOW := hide (Own.lit' (w := w.alloc (.cells #[.int .i64 0, .int .i64 0, .slice none 0 0] 128)) (base := w.heap.size) (g := w.heap.size + 1) (by simp) (by simp) [] (Nat.zero_le _))
  have HIN := hide (HC.out _ (HI.out.alloc (by simp) (.cells #[] 3))).1
  have HNM : Hid (0 + m ≤ 17592186044416) := (by omega : 0 + m ≤ 17592186044416)
  have HBB : Hid (w.heap.size ≤ w.heap.size + 1 + 1) := (by omega : w.heap.size ≤ w.heap.size + 1 + 1)
  have z0 : (0 : Int) ≤ (a : Int) := by omega
  have z1 : (0 : Int) ≤ (b1 : Int) := by omega
  have z3 : (0 : Int) ≤ (b3 : Int) := by omega
  have z4 : (0 : Int) ≤ (b4 : Int) := by omega
  have HOB := hide (HOW.out.alloc (.cells #[.int .i64 0, .int .i64 0, .slice none 0 0] 128))
  have HIB := hide (HIN.out.alloc (by simp; omega) (.cells #[.int .i64 0, .int .i64 0, .slice none 0 0] 128))
  have HKB := hide (And.intro (cell_alloc' (o := .cells #[] 3) k0) (cell_alloc' (o := .cells #[] 3) k1))
  have HB3 : Hid (w.heap.size ≤ w.heap.size + 1 + 1 + 1) := (by omega : w.heap.size ≤ w.heap.size + 1 + 1 + 1)
  have HFB := hide (blk_new' (w := (w.alloc (.cells #[.int .i64 0, .int .i64 0, .slice none 0 0] 128)).alloc (.cells #[] 3)) (g := w.heap.size + 1 + 1) (by simp) 128 #[.int .i64 0, .int .i64 0, .slice none 0 0])
  have HQ0 := hide (Blk.new w 128 #[.int .i64 0, .int .i64 0, .slice none 0 0])
  have HOWd : Hid (Own ((w.alloc (.cells #[.int .i64 0, .int .i64 0, .slice none 0 0] 128)).alloc (.cells #[] 3)).drew w.heap.size (some ⟨w.heap.size + 1, 0, none⟩) 0 0 []) := HOW
  have HOBd : Hid (Own (((w.alloc (.cells #[.int .i64 0, .int .i64 0, .slice none 0 0] 128)).alloc (.cells #[] 3)).alloc (.cells #[.int .i64 0, .int .i64 0, .slice none 0 0] 128)).drew w.heap.size (some ⟨w.heap.size + 1, 0, none⟩) 0 0 []) := HOB
  have HNF : Hid ((ad.add a).block ≠ w.heap.size + 1 + 1 ∧ (ad.add b1).block ≠ w.heap.size + 1 + 1) := by
    rw [block_of_add, block_of_add]
    exact ⟨by omega, by omega⟩
  have HIWd : Hid (Ints ((w.alloc (.cells #[.int .i64 0, .int .i64 0, .slice none 0 0] 128)).alloc (.cells #[] 3)).drew w.heap.size D m (cutW xs (a + 3) m)) := HIN
  have HIBd : Hid (Ints (((w.alloc (.cells #[.int .i64 0, .int .i64 0, .slice none 0 0] 128)).alloc (.cells #[] 3)).alloc (.cells #[.int .i64 0, .int .i64 0, .slice none 0 0] 128)).drew w.heap.size D m (cutW xs (a + 3) m)) := HIB
  have HNE1 : Hid (∀ g, (Value.slice (some ⟨w.heap.size + 1, 0, none⟩) 0 0).ownBlock = some g → (ad.add a).block ≠ g) := fun g h => (HNE.out g h).1
  have HNE2 : Hid (∀ g, (Value.slice (some ⟨w.heap.size + 1, 0, none⟩) 0 0).ownBlock = some g → (ad.add b1).block ≠ g) := fun g h => (HNE.out g h).2
  have HKC := hide (And.intro (cell_alloc' (o := .cells #[.int .i64 0, .int .i64 0, .slice none 0 0] 128) HKB.out.1) (cell_alloc' (o := .cells #[.int .i64 0, .int .i64 0, .slice none 0 0] 128) HKB.out.2))
  have HNE3 : Hid (∀ g, (Value.slice (some ⟨w.heap.size + 1 + 1, 0, none⟩) 0 0).ownBlock = some g → (ad.add a).block ≠ g) := by
    intro g hg
    simp [Value.ownBlock] at hg
    rw [block_of_add]
    omega
  have HNE4 : Hid (∀ g, (Value.slice (some ⟨w.heap.size + 1 + 1, 0, none⟩) 0 0).ownBlock = some g → (ad.add b1).block ≠ g) := by
    intro g hg
    simp [Value.ownBlock] at hg
    rw [block_of_add]
    omega
  have HNB : Hid (some (w.heap.size + 1 + 1) ≠ (Value.slice (some ⟨w.heap.size + 1, 0, none⟩) 0 0).ownBlock) := by
    intro e
    simp [Value.ownBlock] at e
  have HNC : Hid (some (w.heap.size + 1) ≠ (Value.slice (some ⟨w.heap.size + 1 + 1, 0, none⟩) 0 0).ownBlock) := by
    intro e
    simp [Value.ownBlock] at e
  have hC0 := Own.lit' (w := (w.alloc (.cells #[.int .i64 0, .int .i64 0, .slice none 0 0] 128)).alloc (.cells #[.int .i64 0, .int .i64 0, .slice none 0 0] 128)) (base := w.heap.size) (g := w.heap.size + 1 + 1) (by simp) (by simp; omega) [] (Nat.zero_le _)
  have HOCd : Hid (Own (((w.alloc (.cells #[.int .i64 0, .int .i64 0, .slice none 0 0] 128)).alloc (.cells #[.int .i64 0, .int .i64 0, .slice none 0 0] 128)).alloc (.cells #[] 3)).drew w.heap.size (some ⟨w.heap.size + 1 + 1, 0, none⟩) 0 0 []) := hC0
  have hI0 := (HC.out _ ((HI.out.alloc (by simp) (.cells #[.int .i64 0, .int .i64 0, .slice none 0 0] 128)).alloc (by simp; omega) (.cells #[] 3))).1
  have HICd : Hid (Ints (((w.alloc (.cells #[.int .i64 0, .int .i64 0, .slice none 0 0] 128)).alloc (.cells #[.int .i64 0, .int .i64 0, .slice none 0 0] 128)).alloc (.cells #[] 3)).drew w.heap.size D m (cutW xs (a + 3) m)) := hI0
  have HKD := hide (And.intro (cell_alloc' (o := .cells #[] 3) (cell_alloc' (o := .cells #[.int .i64 0, .int .i64 0, .slice none 0 0] 128) k0)) (cell_alloc' (o := .cells #[] 3) (cell_alloc' (o := .cells #[.int .i64 0, .int .i64 0, .slice none 0 0] 128) k1)))
  have HFC := hide ((blk_new' (w := w.alloc (.cells #[.int .i64 0, .int .i64 0, .slice none 0 0] 128)) (g := w.heap.size + 1) (by simp) 128 #[.int .i64 0, .int .i64 0, .slice none 0 0]).alloc (.cells #[] 3))
  have HNF1 : Hid ((ad.add a).block ≠ w.heap.size + 1 ∧ (ad.add b1).block ≠ w.heap.size + 1) := by
    rw [block_of_add, block_of_add]
    exact ⟨by omega, by omega⟩
  clear HOW HOB HIN HIB hC0 hI0
  go_cut [8] (fun s8 wx => FCut w x0 x1 m (cutW xs (a + 3) m) s8 wx)
  case first =>
    go_region_held3 (fun w' => w'.cell? (ad.add a) = some (.int .i64 x0) ∧ w'.cell? (ad.add b1) = some (.int .i64 x1))
      (first
        | go_keep
        | (exact T01.out)
        | (exact ⟨cell_alloc' T01.out.1, cell_alloc' T01.out.2⟩)
        | (exact ⟨cell_set3 T01.out.1 HNF.out.1, cell_set3 T01.out.2 HNF.out.2⟩)
        | (exact ⟨cell_set3 T01.out.1 HNF1.out.1, cell_set3 T01.out.2 HNF1.out.2⟩))
      (((first | (refine step_append_ints ?_ (.tmp 50) (.tmp 56) ?_ w.heap.size 0 0 w.heap.size m (c - b3) (some ⟨w.heap.size + 1, 0, none⟩) D [] (cutW xs (a + 3) m) ?_ ?_ ?_ ?_ ?_ ?_ ?_; rfl; rfl; rfl) | (refine step_append_ints ?_ (.tmp 50) (.tmp 56) ?_ w.heap.size 0 0 w.heap.size m (c - b3) (some ⟨w.heap.size + 1 + 1, 0, none⟩) D [] (cutW xs (a + 3) m) ?_ ?_ ?_ ?_ ?_ ?_ ?_; rfl; rfl; rfl)); (first | (with_reducible exact HOWd.out) | (with_reducible exact HOBd.out) | (with_reducible exact HOCd.out)); rfl; (first | (with_reducible exact HIWd.out) | (with_reducible exact HIBd.out) | (with_reducible exact HICd.out)); exact HNM.out; (first | (simpa using HBB.out) | (simpa using HB3.out)); intro A3 c3 w3 ho3 hg3' hat3; have hg3 := grown_undrew hg3'; clear hg3' hat3; (first | ((with_reducible have T01 := hide (And.intro (cell_gr HKB.out.1 hg3 HNE1.out) (cell_gr HKB.out.2 hg3 HNE2.out)))) | ((with_reducible have T01 := hide (And.intro (cell_gr HKC.out.1 hg3 HNE1.out) (cell_gr HKC.out.2 hg3 HNE2.out))); have hfb := HFB.out.grown hg3 HNB.out; obtain ⟨n0, n1, n2⟩ := blk_cells3 hfb; have o0 := hfb.frozen 0; have o1 := hfb.frozen 1; have o2 := hfb.frozen 2; have HFB3 := hide hfb; clear hfb) | ((with_reducible have T01 := hide (And.intro (cell_gr HKD.out.1 hg3 HNE3.out) (cell_gr HKD.out.2 hg3 HNE4.out))); have hfb := HFC.out.grown hg3 HNC.out; obtain ⟨n0, n1, n2⟩ := blk_cells3 hfb; have o0 := hfb.frozen 0; have o1 := hfb.frozen 1; have o2 := hfb.frozen 2; have HFB3 := hide hfb; clear hfb)); have HG3 := hide hg3; clear hg3))
    all_goals
      go_wp2_with fail
      go_meet
      have hoz : Own w3 w.heap.size A3 m c3 (cutW xs (a + 3) m) := by simpa using ho3
      first
        | exact fcut_alloc (((below_box w _).alloc (by simp) _)) (HQ0.out.alloc _) HG3.out (by omega) hoz
        | exact fcut_set (((below_box w _).alloc (by simp) _).alloc (by simp; omega) _) ((HQ0.out.alloc _).alloc _) HG3.out (by omega) hoz HFB3.out (by omega)
  case rest =>
    obtain ⟨F, A3, c3, rfl, hF, hO, hB, hQ, hlt⟩ := hcut
    have hlb : (cutW xs (a + 3) m).length = m := hO.1
    have hmx : m ≤ maxLen := by unfold maxLen; omega
    have HIw := hide (HI0.out.below hB (Nat.le_refl _))
    have HO := hide hO.ints
    have HOW2 := hide hO
    have HB := hide hB
    have HQ := hide hQ
    have hF1 := hF.lt
    have hF2 := hQ.lt
    obtain ⟨t0, t1, t2⟩ := blk_cells3 hF
    have k3' := (hB.cell (by rw [block_of_add]; exact hb)).trans HK3.out
    have HF := hide hF
    have HV := hide fun (W : World) (h : Ints W wc.heap.size A3 m (cutW xs (a + 3) m)) (hB : wc.heap.size ≤ W.heap.size) => specValid x0 x1 A3 m c3 _ _ W h hB hmx
    clear hF hO hB hQ
    rcases hv : validF x0 x1 (cutW xs (a + 3) m) with _ | _
    · have hV := fun W h hB => hv ▸ HV.out W h hB
      have HV2 := hide hV
      have HVV := hide hv
      clear hV HV hv
      go_wp2_with fail
      refine wp_region_any (by kernel_rfl) ?_
      try (change wpAny _ _ _ _ _ _ _ (World.drew _))
      refine wpAny_ready (rs := [0]) (by kernel_rfl) (by simp) ?_
      refine AllReady.cons rfl (fun K hK => ?_) AllReady.nil
      go_simp
      refine hK _ _ ?_
      clear hK K
      refine wpAny_ready (rs := [1]) (by kernel_rfl) (by simp) ?_
      refine AllReady.cons rfl (fun K hK => ?_) AllReady.nil
      go_simp
      refine (HV2.out _ ?_ ?_).mono ?_
      · exact HO.out
      · exact Nat.le_refl _
      rintro e w5 ⟨rfl, hb5⟩
      refine hK _ _ ?_
      clear hK K
      refine wpAny_ready (rs := [2]) (by kernel_rfl) (by simp) ?_
      refine AllReady.cons rfl (fun K hK => ?_) AllReady.nil
      go_simp
      refine hK _ _ ?_
      clear hK K
      refine wpAny_ready (rs := [3]) (by kernel_rfl) (by simp) ?_
      refine AllReady.cons rfl (fun K hK => ?_) AllReady.nil
      go_simp
      refine hK _ _ ?_
      clear hK K
      refine wpAny_take (i := 4) (v := undef) rfl (by kernel_rfl) (by kernel_rfl) (by kernel_rfl) (fun _ _ _ h => h) (Or.inr ⟨by kernel_rfl, rfl⟩) ?_
      refine wpAny_take (i := 5) (v := undef) rfl (by kernel_rfl) (by kernel_rfl) (by kernel_rfl) (fun _ _ _ h => h) (Or.inr ⟨by kernel_rfl, rfl⟩) ?_
      refine wpAny_take (i := 6) (v := undef) rfl (by kernel_rfl) (by kernel_rfl) (by kernel_rfl) (fun _ _ _ h => h) (Or.inr ⟨by kernel_rfl, rfl⟩) ?_
      refine wpAny_take (i := 7) (v := undef) rfl (by kernel_rfl) (by kernel_rfl) (by kernel_rfl) (fun _ _ _ h => h) (Or.inr ⟨by kernel_rfl, rfl⟩) ?_
      refine wpAny_take (i := 8) (v := undef) rfl (by kernel_rfl) (by kernel_rfl) (by kernel_rfl) (fun _ _ _ h => h) (Or.inr ⟨by kernel_rfl, rfl⟩) ?_
      refine wpAny_take (i := 9) (v := undef) rfl (by kernel_rfl) (by kernel_rfl) (by kernel_rfl) (fun _ _ _ h => h) (Or.inr ⟨by kernel_rfl, rfl⟩) ?_
      refine wpAny_take (i := 10) (v := undef) rfl (by kernel_rfl) (by kernel_rfl) (by kernel_rfl) (fun _ _ _ h => h) (Or.inr ⟨by kernel_rfl, rfl⟩) ?_
      refine wpAny_take (i := 11) (v := undef) rfl (by kernel_rfl) (by kernel_rfl) (by kernel_rfl) (fun _ _ _ h => h) (Or.inr ⟨by kernel_rfl, rfl⟩) ?_
      refine wpAny_take (i := 12) (v := undef) rfl (by kernel_rfl) (by kernel_rfl) (by kernel_rfl) (fun _ _ _ h => h) (Or.inr ⟨by kernel_rfl, rfl⟩) ?_
      refine wpAny_take (i := 13) (v := undef) rfl (by kernel_rfl) (by kernel_rfl) (by kernel_rfl) (fun _ _ _ h => h) (Or.inr ⟨by kernel_rfl, rfl⟩) ?_
      refine wpAny_take (i := 14) (v := undef) rfl (by kernel_rfl) (by kernel_rfl) (by kernel_rfl) (fun _ _ _ h => h) (Or.inr ⟨by kernel_rfl, rfl⟩) ?_
      refine wpAny_take (i := 15) (v := undef) rfl (by kernel_rfl) (by kernel_rfl) (by kernel_rfl) (fun _ _ _ h => h) (Or.inr ⟨by kernel_rfl, rfl⟩) ?_
      refine wpAny_ready (rs := [16]) (by kernel_rfl) (by simp) ?_
      refine AllReady.cons rfl (fun K hK => ?_) AllReady.nil
      go_simp
      refine hK _ _ ?_
      clear hK K
      refine wpAny_done (by kernel_rfl) ?_ _
      have hq5 := HQ.out.below (show Below wc.heap.size wc w5 from ⟨hb5.os, hb5.tape, hb5.output, hb5.size, hb5.block⟩) hF2
      obtain ⟨r0', r1', r2'⟩ := blk_cells3 hq5
      have g0' := hq5.frozen 0
      have g1' := hq5.frozen 1
      have g2' := hq5.frozen 2
      obtain ⟨q0, q1, q2⟩ := blk_cells3 (frame_new w.heap.size _ _ _ hq5 (.int .i64 0) (.int .i64 0) (.slice none 0 0))
      have HB5 := hide (HB.out.trans ((⟨hb5.os, hb5.tape, hb5.output, hb5.size, hb5.block⟩ : Below wc.heap.size wc w5).mono HB.out.size))
      clear hq5 hb5
      go_wp2
      refine bodyPost_ret (v := noFrame) (by simp [noFrame, results, Tryz.results215, go_sem, q0, q1, q2]) rfl ?_
      unfold DeepPost
      rw [if_neg (by rw [HVV.out]; simp)]
      exact ⟨rfl, HB5.out.trans (below_of_grown' (set3_grown _ w.heap.size _ _ _) (by have := HB5.out.size; omega) (by intro q e; injection e with e; omega))⟩
    · have hV := fun W h hB => hv ▸ HV.out W h hB
      have HV2 := hide hV
      have HVV := hide hv
      have hhd : cutW xs a (3 + m) = headF x0 x1 (cutW xs (a + 3) m) := by
        have h := cut_head (xs := xs) (a := a) (m := m) (by rw [HL.out]; exact hl) HM.out
        rw [HX.out.1, HX.out.2.1] at h
        exact h
      have hall : allW (cutW xs a (3 + m)) = true := by rw [hhd]; exact allW_head hv
      have hm3 : 3 + m ≤ maxLen := by unfold maxLen; omega
      have HSUM0 := hide fun (W : World) (h : Ints W w.heap.size D' (3 + m) (cutW xs a (3 + m))) => specSum0 D' (3 + m) (c - a) _ _ W h hm3 hall
      have hadc : (ad.add b4).block < wc.heap.size := by rw [block_of_add]; have := HB.out.size; omega
      have hwc : w.heap.size ≤ wc.heap.size := HB.out.size
      clear hV HV hv hhd hall
      by_cases hx : x3 = sumFrom 7 (cutW xs a (3 + m))
      · have HSUM : Hid (∀ (W : World), Ints W w.heap.size D' (3 + m) (cutW xs a (3 + m)) → Calls Tryz.prog 194 #[.slice D' (3 + m) (c - a)] W fun e w' => e = .returned (.int .i64 x3) ∧ W = w') := by
          rw [hx]
          exact HSUM0
        have HXX := hide hx
        clear hx HSUM0
        go_wp2_with fail
        go_region_held3 (fun w' => w'.cell? ⟨F, 0, none⟩ = some (.int .i64 x0) ∧ w'.cell? ⟨F, 1, none⟩ = some (.int .i64 x1) ∧ w'.cell? ⟨F, 2, none⟩ = some (.slice A3 m c3) ∧ w'.cell? (ad.add b4) = some (.int .i64 x3))
          (first
            | go_keep
            | (exact ⟨(hb5.cell hF1).trans t0, (hb5.cell hF1).trans t1, (hb5.cell hF1).trans t2, (hb5.cell hadc).trans k3'⟩))
          ((first
            | (go_at_call 154; refine (HV2.out _ ?_ ?_).mono ?_; exact HO.out; exact Nat.le_refl _; rintro e w5 ⟨rfl, hb5⟩)
            | (go_at_call 194; refine (HSUM.out _ ?_).mono ?_; exact (HC.out _ (HIw.out.below (show Below wc.heap.size wc w5 from ⟨hb5.os, hb5.tape, hb5.output, hb5.size, hb5.block⟩) hwc)).2; rintro e w' ⟨rfl, rfl⟩)))
        have hb5' : Below wc.heap.size wc w5 := ⟨hb5.os, hb5.tape, hb5.output, hb5.size, hb5.block⟩
        have hq5 := HQ.out.below hb5' hF2
        have hf5 := HF.out.below hb5' hF1
        obtain ⟨r0', r1', r2'⟩ := blk_cells3 hq5
        obtain ⟨v0', v1', v2'⟩ := blk_cells3 hf5
        have g0' := hq5.frozen 0
        have g1' := hq5.frozen 1
        have g2' := hq5.frozen 2
        obtain ⟨q0, q1, q2⟩ := blk_cells3 (frame_new w.heap.size _ _ _ hq5 (.int .i64 x0) (.int .i64 x1) (.slice A3 m c3))
        have HB5 := hide (HB.out.trans (hb5'.mono HB.out.size))
        have HO5 := hide (HOW2.out.below hb5')
        have hset := hide (set3_grown w5 w.heap.size (.int .i64 x0) (.int .i64 x1) (.slice A3 m c3))
        have HQ5 := hide hq5
        clear hq5 hf5 hb5 hb5'
        go_wp2
        refine bodyPost_ret (v := .tuple #[.agg #[.int .i64 x0, .int .i64 x1, .slice A3 m c3], .int .i64 ((a : Int) + 4 + m), .bool true]) (by simp [results, Tryz.results215, go_sem, q0, q1, q2]) rfl ?_
        unfold DeepPost
        rw [if_pos ⟨HVV.out, HXX.out⟩]
        exact ⟨A3, c3, rfl, HO5.out.kept hset.out (by intro q e; injection e with e; subst e; exact own_blk_ne' HO5.out HQ5.out (by decide)), HB5.out.trans (below_of_grown' hset.out (by have := HB5.out.size; omega) (by intro q e; injection e with e; omega))⟩
      · have HXX := hide hx
        have HSUM := HSUM0
        clear HSUM0
        generalize sumFrom 7 (cutW xs a (3 + m)) = t at hx HSUM
        have hne : (t != x3) = true := by simpa using fun h => hx h.symm
        clear hx
        go_wp2_with fail
        go_region_held3 (fun w' => w'.cell? ⟨F, 0, none⟩ = some (.int .i64 x0) ∧ w'.cell? ⟨F, 1, none⟩ = some (.int .i64 x1) ∧ w'.cell? ⟨F, 2, none⟩ = some (.slice A3 m c3) ∧ w'.cell? (ad.add b4) = some (.int .i64 x3))
          (first
            | go_keep
            | (exact ⟨(hb5.cell hF1).trans t0, (hb5.cell hF1).trans t1, (hb5.cell hF1).trans t2, (hb5.cell hadc).trans k3'⟩))
          ((first
            | (go_at_call 154; refine (HV2.out _ ?_ ?_).mono ?_; exact HO.out; exact Nat.le_refl _; rintro e w5 ⟨rfl, hb5⟩)
            | (go_at_call 194; refine (HSUM.out _ ?_).mono ?_; exact (HC.out _ (HIw.out.below (show Below wc.heap.size wc w5 from ⟨hb5.os, hb5.tape, hb5.output, hb5.size, hb5.block⟩) hwc)).2; rintro e w' ⟨rfl, rfl⟩)))
        have hb5' : Below wc.heap.size wc w5 := ⟨hb5.os, hb5.tape, hb5.output, hb5.size, hb5.block⟩
        have hq5 := HQ.out.below hb5' hF2
        have hf5 := HF.out.below hb5' hF1
        obtain ⟨r0', r1', r2'⟩ := blk_cells3 hq5
        obtain ⟨v0', v1', v2'⟩ := blk_cells3 hf5
        have g0' := hq5.frozen 0
        have g1' := hq5.frozen 1
        have g2' := hq5.frozen 2
        obtain ⟨q0, q1, q2⟩ := blk_cells3 (frame_new w.heap.size _ _ _ hq5 (.int .i64 0) (.int .i64 0) (.slice none 0 0))
        have HB5 := hide (HB.out.trans (hb5'.mono HB.out.size))
        have HO5 := hide (HOW2.out.below hb5')
        have hset := hide (set3_grown w5 w.heap.size (.int .i64 0) (.int .i64 0) (.slice none 0 0))
        have HQ5 := hide hq5
        clear hq5 hf5 hb5 hb5'
        go_wp2
        refine bodyPost_ret (v := noFrame) (by simp [noFrame, results, Tryz.results215, go_sem, q0, q1, q2]) rfl ?_
        unfold DeepPost
        rw [if_neg (fun h => HXX.out h.2)]
        exact ⟨rfl, HB5.out.trans (below_of_grown' hset.out (by have := HB5.out.size; omega) (by intro q e; injection e with e; omega))⟩
end Go.Proofs.YtfianpjoifcphaaGreat
