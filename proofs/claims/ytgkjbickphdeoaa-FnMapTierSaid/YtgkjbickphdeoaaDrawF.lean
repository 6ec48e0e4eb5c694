/-
  A drawn frame: l91Frame, DrawFramePut: a frame whose body is a row of the call's own; the reader's own block alone has turned.
-/
import Derived.Test.YtgkjbickphdeoaaDrawA
import Derived.Test.YtgkjbickphdeoaaFrameP
import Derived.Deep.LoopGhost
import Derived.Deep.RegionHeld3
namespace Go.Proofs.Ytgkjbickphdeoaa
open Go.RowKit
set_option linter.unusedVariables false
set_option maxRecDepth 100000

/-- what l91Frame knows at each step -/
structure FS (w0 w : World) (R Q F : Nat) (p k s : Int) (A : Option Addr) (n c : Nat) (xs : List Int) : Prop where
  rd : Rd w R p
  rlt : R < w0.heap.size
  qge : w0.heap.size ≤ Q
  fge : w0.heap.size ≤ F
  ne : Q ≠ F
  q : Blk w Q 26 #[.int .i64 0, .int .i64 0, .slice none 0 0]
  f : Blk w F 26 #[.int .i64 k, .int .i64 s, .slice A n c]
  own : Own w w0.heap.size A n c xs
  rng : Rng (-1) 10000 xs
  grown : w0.grownBy w (some R)
theorem FS.pick {w0 w w' : World} {R Q F n c : Nat} {p p' k s : Int} {A : Option Addr} {xs : List Int} (h : FS w0 w R Q F p k s A n c xs) (hr : Rd w' R p') (hg : w.grownBy w' (some R)) : FS w0 w' R Q F p' k s A n c xs :=
  { h with
    rd := hr
    q := h.q.grown hg (by have := h.qge; have := h.rlt; intro e; injection e with e; omega)
    f := h.f.grown hg (by have := h.fge; have := h.rlt; intro e; injection e with e; omega)
    own := h.own.kept hg (by intro q hq e; injection hq with hq; have := (h.own.block _ e).1; have := h.rlt; omega)
    grown := grown_trans' h.grown hg }
theorem FS.alloc {w0 w : World} {R Q F n c : Nat} {p k s : Int} {A : Option Addr} {xs : List Int} (h : FS w0 w R Q F p k s A n c xs) (o : Obj) : FS w0 (w.alloc o) R Q F p k s A n c xs :=
  { h with rd := h.rd.alloc o, q := h.q.alloc o, f := h.f.alloc o, own := h.own.alloc o, grown := grown_alloc h.grown o }
/-- behind 'append(f.Body, x)': the row may have moved; f itself is as it was -/
theorem FS.app {w0 w w' : World} {R Q F n c m d : Nat} {p k s : Int} {A A' : Option Addr} {xs ys : List Int} {o : Obj} (h : FS w0 w R Q F p k s A n c xs) (ho : Own w' w0.heap.size A' m d ys)
    (hg : (w.alloc o).grownBy w' (Value.slice A n c).ownBlock) (h1 : (-1 : Int) ≤ 3) (h2 : (3 : Int) ≤ 10000) :
    Rd w' R p ∧ Blk w' Q 26 #[.int .i64 0, .int .i64 0, .slice none 0 0] ∧ Blk w' F 26 #[.int .i64 k, .int .i64 s, .slice A n c] ∧ w0.grownBy w' (some R) := by
  have hR := h.rlt
  have hrow : ∀ g, (Value.slice A n c).ownBlock = some g → w0.heap.size ≤ g := fun g hg => (h.own.block g hg).1
  exact ⟨(h.rd.alloc o).grown hg (fun g hg => by have := hrow g hg; omega), (h.q.alloc o).grown hg (Ne.symm (own_blk_ne h.own h.q (by decide))), (h.f.alloc o).grown hg (Ne.symm (own_blk_ne h.own h.f (by decide))),
    grown_own (grown_alloc h.grown o) hg hrow⟩
/-- .. and the field is set -/
theorem FS.app2 {w0 w w' : World} {R Q F n c m d : Nat} {p k s : Int} {A A' : Option Addr} {xs ys : List Int} (h : FS w0 w R Q F p k s A n c xs) (ho : Own w' w0.heap.size A' m d ys) (hr : Rng (-1) 10000 ys)
    (h1 : Rd w' R p ∧ Blk w' Q 26 #[.int .i64 0, .int .i64 0, .slice none 0 0] ∧ Blk w' F 26 #[.int .i64 k, .int .i64 s, .slice A n c] ∧ w0.grownBy w' (some R)) :
    FS w0 (w'.setCell ⟨F, 2, none⟩ (.slice A' m d)) R Q F p k s A' m d ys := by
  obtain ⟨a, b, f, g⟩ := h1
  have hg := set_grown (grown_refl w' (some F)) 2 (.slice A' m d)
  have hF := h.fge
  have hR := h.rlt
  have hf := f.set_ 2 (.slice A' m d)
  exact
    { rd := a.grown hg (by intro g e; injection e with e; omega), rlt := h.rlt, qge := h.qge, fge := h.fge, ne := h.ne
      q := b.grown hg (by intro e; injection e with e; exact h.ne e), f := by simpa using hf
      own := ho.kept hg (by intro g e; injection e with e; subst e; exact own_blk_ne ho f (by decide)), rng := hr
      grown := grown_own g hg (by intro g e; injection e with e; omega) }
theorem FS.drewN {w0 w : World} {R Q F n c : Nat} {p k s : Int} {A : Option Addr} {xs : List Int} (h : FS w0 w R Q F p k s A n c xs) (d : Nat) : FS w0 (w.drewN d) R Q F p k s A n c xs :=
  { h with rd := h.rd.drewN d, grown := grown_drewN h.grown d }
/-- a field of f is set -/
theorem FS.setF {w0 w : World} {R Q F n c : Nat} {p k s : Int} {A : Option Addr} {xs : List Int} (h : FS w0 w R Q F p k s A n c xs) (i : Nat) (u : Value) :
    Rd (w.setCell ⟨F, i, none⟩ u) R p ∧ Blk (w.setCell ⟨F, i, none⟩ u) Q 26 #[.int .i64 0, .int .i64 0, .slice none 0 0] ∧
    Blk (w.setCell ⟨F, i, none⟩ u) F 26 ((#[.int .i64 k, .int .i64 s, .slice A n c] : Array Value).setIfInBounds i u) ∧ Own (w.setCell ⟨F, i, none⟩ u) w0.heap.size A n c xs ∧ w0.grownBy (w.setCell ⟨F, i, none⟩ u) (some R) := by
  have hg := set_grown (grown_refl w (some F)) i u
  have hF := h.fge
  have hR := h.rlt
  refine ⟨h.rd.grown hg (by intro g e; injection e with e; omega), h.q.grown hg (by intro e; injection e with e; exact h.ne e), h.f.set_ i u, h.own.kept hg (by intro g e; injection e with e; subst e; exact own_blk_ne h.own h.f (by decide)), ?_⟩
  exact grown_own h.grown hg (by intro g e; injection e with e; omega)
theorem FS.set0 {w0 w : World} {R Q F n c : Nat} {p k s : Int} {A : Option Addr} {xs : List Int} (h : FS w0 w R Q F p k s A n c xs) (x : Int) : FS w0 (w.setCell ⟨F, 0, none⟩ (.int .i64 x)) R Q F p x s A n c xs := by
  obtain ⟨a, b, d, e, f⟩ := h.setF 0 (.int .i64 x)
  exact { h with rd := a, q := b, f := by simpa using d, own := e, grown := f }
theorem FS.set1 {w0 w : World} {R Q F n c : Nat} {p k s : Int} {A : Option Addr} {xs : List Int} (h : FS w0 w R Q F p k s A n c xs) (x : Int) : FS w0 (w.setCell ⟨F, 1, none⟩ (.int .i64 x)) R Q F p k x A n c xs := by
  obtain ⟨a, b, d, e, f⟩ := h.setF 1 (.int .i64 x)
  exact { h with rd := a, q := b, f := by simpa using d, own := e, grown := f }
theorem FS.set2 {w0 w : World} {R Q F n c m d : Nat} {p k s : Int} {A A' : Option Addr} {xs ys : List Int} (h : FS w0 w R Q F p k s A n c xs) (ho : Own w w0.heap.size A' m d ys) (hr : Rng (-1) 10000 ys) :
    FS w0 (w.setCell ⟨F, 2, none⟩ (.slice A' m d)) R Q F p k s A' m d ys := by
  obtain ⟨a, b, d', e, f⟩ := h.setF 2 (.slice A' m d)
  exact { h with rd := a, q := b, f := by simpa using d', own := ho.kept (set_grown (grown_refl w (some F)) 2 _) (by intro g e; injection e with e; subst e; exact own_blk_ne ho h.f (by decide)), rng := hr, grown := f }

/-- the cells that the walk wants -/
theorem FS.facts {w0 w : World} {R Q F n c : Nat} {p k s : Int} {A : Option Addr} {xs : List Int} (h : FS w0 w R Q F p k s A n c xs) :
    (w.cell? ⟨F, 0, none⟩ = some (.int .i64 k) ∧ w.cell? ⟨F, 1, none⟩ = some (.int .i64 s) ∧ w.cell? ⟨F, 2, none⟩ = some (.slice A n c)) ∧
    (w.cell? ⟨Q, 0, none⟩ = some (.int .i64 0) ∧ w.cell? ⟨Q, 1, none⟩ = some (.int .i64 0) ∧ w.cell? ⟨Q, 2, none⟩ = some (.slice none 0 0)) ∧
    (w.frozen? ⟨F, 0, none⟩ = false ∧ w.frozen? ⟨F, 1, none⟩ = false ∧ w.frozen? ⟨F, 2, none⟩ = false) ∧ (w.frozen? ⟨Q, 0, none⟩ = false ∧ w.frozen? ⟨Q, 1, none⟩ = false ∧ w.frozen? ⟨Q, 2, none⟩ = false) :=
  ⟨blk_cells3 h.f, blk_cells3 h.q, ⟨h.f.frozen 0, h.f.frozen 1, h.f.frozen 2⟩, h.q.frozen 0, h.q.frozen 1, h.q.frozen 2⟩
theorem FS.final {w0 w : World} {R Q F n c : Nat} {p k s : Int} {A : Option Addr} {xs : List Int} (h : FS w0 w R Q F p k s A n c xs) :
    (((w.setCell ⟨Q, 0, none⟩ (.int .i64 k)).setCell ⟨Q, 1, none⟩ (.int .i64 s)).setCell ⟨Q, 2, none⟩ (.slice A n c)).cell? ⟨Q, 0, none⟩ = some (.int .i64 k) ∧
    (((w.setCell ⟨Q, 0, none⟩ (.int .i64 k)).setCell ⟨Q, 1, none⟩ (.int .i64 s)).setCell ⟨Q, 2, none⟩ (.slice A n c)).cell? ⟨Q, 1, none⟩ = some (.int .i64 s) ∧
    (((w.setCell ⟨Q, 0, none⟩ (.int .i64 k)).setCell ⟨Q, 1, none⟩ (.int .i64 s)).setCell ⟨Q, 2, none⟩ (.slice A n c)).cell? ⟨Q, 2, none⟩ = some (.slice A n c) :=
  blk_cells3 (frame_new Q _ _ _ h.q (.int .i64 k) (.int .i64 s) (.slice A n c))

def four2 (v : Int) : Int := ([0, 999, 1000, -1] : List Int).getD v.toNat 0
theorem four2_rng (v : Int) : -1 ≤ four2 v ∧ four2 v ≤ 1000 := by
  unfold four2
  rcases h : v.toNat with _ | _ | _ | _ | n <;> simp

/-- what is handed back -/
def FrameDrawn (w0 : World) (R : Nat) (p : Int) (e : Ending) (w' : World) : Prop :=
  ∃ k s A n c xs p', e = .returned (.agg #[.int .i64 k, .int .i64 s, .slice A n c]) ∧ Own w' w0.heap.size A n c xs ∧ n ≤ 30 ∧ Rng (-1) 10000 xs ∧ -1 ≤ k ∧ k ≤ 1000 ∧ -1 ≤ s ∧ s ≤ 1000 ∧
    p ≤ p' ∧ p' ≤ p + 80 ∧ Rd w' R p' ∧ w0.grownBy w' (some R)

theorem FS.done {w0 w : World} {R Q F n c : Nat} {p p0 k s : Int} {A : Option Addr} {xs : List Int} (h : FS w0 w R Q F p k s A n c xs) (hn : n ≤ 30) (hk : -1 ≤ k ∧ k ≤ 1000) (hs : -1 ≤ s ∧ s ≤ 1000) (hp : p0 ≤ p ∧ p ≤ p0 + 80) :
    FrameDrawn w0 R p0 (.returned (.agg #[.int .i64 k, .int .i64 s, .slice A n c])) (((w.setCell ⟨Q, 0, none⟩ (.int .i64 k)).setCell ⟨Q, 1, none⟩ (.int .i64 s)).setCell ⟨Q, 2, none⟩ (.slice A n c)) := by
  have hg := set3_grown w Q (.int .i64 k) (.int .i64 s) (.slice A n c)
  have hR := h.rlt
  have hQ := h.qge
  exact ⟨k, s, A, n, c, xs, p, rfl, h.own.kept hg (by intro g e; injection e with e; subst e; exact own_blk_ne h.own h.q (by decide)), hn, h.rng, hk.1, hk.2, hs.1, hs.2, hp.1, hp.2,
    h.rd.grown hg (by intro g e; injection e with e; omega), grown_own h.grown hg (by intro g e; injection e with e; omega)⟩

set_option maxHeartbeats 4000000 in
theorem frame_any (R : Nat) (p : Int) (w : World) (hr : Rd w R p) (hp : p < 20000) :
    Calls Try.prog 39 #[.pointer (some ⟨R, 0, none⟩)] w (FrameDrawn w R p) := by
  have hRw := hr.lt
  have HR0 := hide (hr.alloc (.cells #[.int .i64 0, .int .i64 0, .slice none 0 0] 26))
  clear hr
  go_enter Try.func39, Try.ntmps39
  go_wp2_with fail
  refine (pick_any R p 2 _ HR0.out (by omega) (by omega)).mono ?_
  rintro e w1 ⟨v1, rfl, _, _, hr1, hg1⟩
  have HQ1 := hide ((Blk.new w 26 #[.int .i64 0, .int .i64 0, .slice none 0 0]).grown hg1 (by intro e; injection e with e; omega))
  have HG1 := hide (grown_box hg1)
  have hs1 := hg1.size
  simp at hs1
  clear hg1
  go_wp2_with fail
  refine (pick_any R _ 30 _ hr1 (by omega) (by omega)).mono ?_
  rintro e w2 ⟨v2, rfl, _, _, hr2, hg2⟩
  have HQ2 := hide (HQ1.out.grown hg2 (by intro e; injection e with e; omega))
  have HG2 := hide (grown_trans' HG1.out hg2)
  have hs2 := hg2.size
  clear hg2
  go_wp2_with fail
  refine (words91_any R _ 8 _ hr2 (by omega) (by omega) (by omega)).mono ?_
  rintro e w3 ⟨A3, n3, c3, xs, p3, rfl, ho3, hn3, hrng3, hp3, hp3', hr3, hg3⟩
  have HQ3 := hide (HQ2.out.grown hg3 (by intro e; injection e with e; omega))
  have HG3 := hide (grown_trans' HG2.out hg3)
  have HO3 := hide ho3
  have hs3 := hg3.size
  clear hg3 ho3
  go_wp2_with fail
  refine (pick_any R _ 12 _ hr3 (by omega) (by omega)).mono ?_
  rintro e w4 ⟨v4, rfl, hv40, hv41, hr4, hg4⟩
  have HQ4 := hide (HQ3.out.grown hg4 (by intro e; injection e with e; omega))
  have HG4 := hide (grown_trans' HG3.out hg4)
  have HO4 := hide (HO3.out.kept hg4 (by intro q hq e; injection hq with hq; have := (HO3.out.block _ e).1; omega))
  have HR4 := hide hr4
  have hs4 := hg4.size
  have HBLK : Hid (∀ g, (Value.slice A3 n3 c3).ownBlock = some g → w2.heap.size ≤ g ∧ g < w4.heap.size) := HO4.out.block
  clear hg4 hr4 hr3 hr2 hr1
  have HNM : Hid (n3 + 1 ≤ 17592186044416) := (by omega : n3 + 1 ≤ 17592186044416)
  go_wp2_with (at_builtin; refine wpList_append_ints rfl (.tmp 11) (.tmp 14) rfl w2.heap.size n3 c3 _ 1 _ A3 _ xs [v4] rfl (HO4.out.alloc _) rfl (Ints.one _ _) HNM.out (by simp; omega) ?_; intro A5 c5 w5 ho5 hg5 hat5; clear hat5)
  have hrow : ∀ g, (Value.slice A3 n3 c3).ownBlock = some g → w2.heap.size ≤ g := fun g hg => (HBLK.out g hg).1
  have hs5 := hg5.size
  simp at hs5
  have hFS : FS w (w5.alloc (.cells #[.int .i64 (1 + v1), .int .i64 (1 + v2), .slice A5 (n3 + 1) c5] 26)) R w.heap.size w5.heap.size (p3 + 1) (1 + v1) (1 + v2) A5 (n3 + 1) c5 (xs ++ [v4]) :=
    { rd := ((HR4.out.alloc _).grown hg5 (fun g hg => by have := hrow g hg; omega)).alloc _
      rlt := hRw
      qge := Nat.le_refl _
      fge := by omega
      ne := by omega
      q := ((HQ4.out.alloc _).grown hg5 (fun e => by have := hrow _ e.symm; omega)).alloc _
      f := Blk.new w5 _ _
      own := (ho5.mono (by omega)).alloc _
      rng := hrng3.snoc (by omega) (by omega)
      grown := grown_alloc (grown_own (grown_alloc HG4.out _) hg5 (fun g hg => by have := hrow g hg; omega)) _ }
  have HFS := hide hFS
  have hk : -1 ≤ 1 + v1 ∧ 1 + v1 ≤ 1000 := by omega
  have hsq : -1 ≤ 1 + v2 ∧ 1 + v2 ≤ 1000 := by omega
  have hn6 : n3 + 1 ≤ 30 := by omega
  have hpp : p ≤ p3 + 1 ∧ p3 + 1 ≤ p + 30 := by omega
  generalize 1 + v1 = k at HFS hk
  generalize 1 + v2 = s at HFS hsq
  generalize n3 + 1 = n at HFS hn6
  generalize xs ++ [v4] = ys at HFS
  generalize hpq : p3 + 1 = pq at HFS hpp
  generalize hF : w5.heap.size = F at HFS
  generalize hW : w5.alloc (.cells #[.int .i64 k, .int .i64 s, .slice A5 n c5] 26) = W at HFS
  clear hpq hF hW hFS ho5 hg5 hs5 hrow HBLK HR4 HO4 HQ4 HG4 HNM HO3 HQ3 HG3 HG2 HQ2 HG1 HQ1 HR0
  refine (pick_any R _ 20 _ HFS.out.rd (by omega) (by omega)).mono ?_
  rintro e w6 ⟨u, rfl, hu0, hu1, hr6, hg6⟩
  have HF6 := hide (HFS.out.pick hr6 hg6)
  clear hr6 hg6 HFS
  by_cases h0 : u = 0
  · subst h0
    go_wp2_with fail
    refine (pick_any R _ 4 _ HF6.out.rd (by omega) (by omega)).mono ?_
    rintro e w7 ⟨x, rfl, hx0, hx1, hr7, hg7⟩
    have hfs0 := HF6.out.pick hr7 hg7
    obtain ⟨⟨s0, s1, s2⟩, ⟨y0, y1, y2⟩, ⟨z0, z1, z2⟩, ⟨v0', v1', v2'⟩⟩ := hfs0.facts
    have hfs := hfs0.set0 x
    clear hfs0 hr7 hg7
    obtain ⟨⟨t0, t1, t2⟩, ⟨r0, r1, r2⟩, ⟨f0, f1, f2⟩, ⟨g0, g1, g2⟩⟩ := hfs.facts
    obtain ⟨q0, q1, q2⟩ := hfs.final
    have HFS7 := hide hfs
    clear hfs
    go_wp2
    refine bodyPost_ret (v := .agg #[.int .i64 x, .int .i64 s, .slice A5 n c5]) (by simp [results, Try.results39, go_sem, q0, q1, q2]) rfl ?_
    exact HFS7.out.done (by omega) (by omega) (by omega) (by omega)
  · have h0' : (u == 0) = false := by simpa using h0
    by_cases h1 : u = 1
    · subst h1
      go_wp2_with fail
      refine (pick_any R _ 4 _ (HF6.out.alloc _).rd (by omega) (by omega)).mono ?_
      rintro e w7 ⟨x, rfl, hx0, hx1, hr7, hg7⟩
      have hc : w7.cell? ⟨w6.heap.size, x.toNat, none⟩ = some (.int .i64 (four2 x)) := by
        rw [grown_cell hg7 (by simp) (by have := HF6.out.rd.lt; simp; omega), (Blk.new w6 3 _).cell]
        have : x = 0 ∨ x = 1 ∨ x = 2 ∨ x = 3 := by omega
        rcases this with rfl | rfl | rfl | rfl <;> rfl
      have hf := four2_rng x
      have hfs0 := (HF6.out.alloc _).pick hr7 hg7
      generalize four2 x = y at hc hf
      obtain ⟨⟨s0, s1, s2⟩, ⟨y0, y1, y2⟩, ⟨z0, z1, z2⟩, ⟨v0', v1', v2'⟩⟩ := hfs0.facts
      have hfs := hfs0.set1 y
      clear hfs0 hr7 hg7
      obtain ⟨⟨t0, t1, t2⟩, ⟨r0, r1, r2⟩, ⟨f0, f1, f2⟩, ⟨g0, g1, g2⟩⟩ := hfs.facts
      obtain ⟨q0, q1, q2⟩ := hfs.final
      have HFS7 := hide hfs
      clear hfs
      go_wp2
      refine bodyPost_ret (v := .agg #[.int .i64 k, .int .i64 y, .slice A5 n c5]) (by simp [results, Try.results39, go_sem, q0, q1, q2]) rfl ?_
      exact HFS7.out.done (by omega) (by omega) (by omega) (by omega)
    · have h1' : (u == 1) = false := by simpa using h1
      by_cases h2 : u = 2
      · subst h2
        have hfs0 := HF6.out
        obtain ⟨⟨s0, s1, s2⟩, ⟨y0, y1, y2⟩, ⟨z0, z1, z2⟩, ⟨v0', v1', v2'⟩⟩ := hfs0.facts
        have hfs := hfs0.set2 (A' := A5) (m := 0) (d := c5) (ys := []) (by have := hfs0.own.firsts (m := 0) (Nat.zero_le _); simpa using this) (by simp [Rng])
        clear hfs0
        obtain ⟨⟨t0, t1, t2⟩, ⟨r0, r1, r2⟩, ⟨f0, f1, f2⟩, ⟨g0, g1, g2⟩⟩ := hfs.facts
        obtain ⟨q0, q1, q2⟩ := hfs.final
        have HFS7 := hide hfs
        clear hfs
        go_wp2
        refine bodyPost_ret (v := .agg #[.int .i64 k, .int .i64 s, .slice A5 0 c5]) (by simp [results, Try.results39, go_sem, q0, q1, q2]) rfl ?_
        exact HFS7.out.done (by omega) (by omega) (by omega) (by omega)
      · have h2' : (u == 2) = false := by simpa using h2
        by_cases h3 : u = 3
        · subst h3
          go_wp2_with fail
          go_loopg [] (31 - n) (fun gk wr => ∃ (p' : Int) (Ao : Option Addr) (m d : Nat) (zs : List Int), FS w wr R w.heap.size F p' k s Ao m d zs ∧ m ≤ 30 ∧ m + gk = 31 ∧ pq + 1 ≤ p' ∧ p' + gk ≤ pq + 32)
          case atStart => exact ⟨_, _, _, _, _, HF6.out, hn6, by omega, by omega, by omega⟩
          case round =>
            obtain ⟨p', Ao, m, d, zs, hfs0, hm30, hmg, hp1, hp2⟩ := hrel
            obtain ⟨⟨s0, s1, s2⟩, ⟨y0, y1, y2⟩, ⟨z0, z1, z2⟩, ⟨v0', v1', v2'⟩⟩ := hfs0.facts
            have HFS0 := hide hfs0
            have hFne : F ≠ R := by have := hfs0.fge; omega
            have hFlt := hfs0.f.lt
            clear hfs0
            go_wp2_with fail
            go_region_held3 (fun w' => w'.cell? ⟨F, 2, none⟩ = some (.slice Ao m d))
              (first
                | go_keep
                | (exact (grown_cell (p := ⟨F, 2, none⟩) hg7 hFlt hFne).trans s2))
              ((first
                | (go_at_call 38; refine (pick_any R p' 4 _ ?_ (by omega) (by omega)).mono ?_; exact HFS0.out.rd; rintro e w7 ⟨j, rfl, hj0, hj1, hr7, hg7⟩; have e16 : IntKind.i64.wrap (16 + j) = 16 + j := IntWalk.i64_in _ (by omega))))
            have hfs1 := (HFS0.out.drewN 1).pick hr7 hg7
            clear hr7 hg7 s0 s1 s2 y0 y1 y2 z0 z1 z2 v0' v1' v2' HFS0 hFlt hFne HF6
            by_cases hlt : (m : Int) < 16 + j
            · obtain ⟨⟨s0, s1, s2⟩, ⟨y0, y1, y2⟩, ⟨z0, z1, z2⟩, ⟨v0', v1', v2'⟩⟩ := hfs1.facts
              have HF1 := hide hfs1
              have hnm : m + 1 ≤ 17592186044416 := by omega
              have hsz : w.heap.size ≤ w7.heap.size + 1 := by have := hfs1.grown.size; omega
              clear hfs1
              go_wp2_with (at_builtin; refine wpList_append_ints rfl (.tmp 48) (.tmp 49) rfl w.heap.size m d _ 1 _ Ao _ zs [3] rfl (HF1.out.own.alloc _) rfl (Ints.one _ _) hnm (by simpa using hsz) ?_; intro A8 c8 w8 ho8 hg8 hat8; clear hat8; have hfs8 := HF1.out.app ho8 hg8 (by omega) (by omega); have fz8 := hfs8.2.2.1.frozen 2; have cz8 := (blk_cells3 hfs8.2.2.1).2.2)
              go_roundg (gk - 1)
              case measure => omega
              case rel => exact ⟨p' + 1, A8, m + 1, c8, zs ++ [3], HF1.out.app2 ho8 (HF1.out.rng.snoc (by omega) (by omega)) hfs8, by omega, by omega, by omega, by omega⟩
            · have hfs := hfs1
              clear hfs1
              obtain ⟨⟨t0, t1, t2⟩, ⟨r0, r1, r2⟩, ⟨f0, f1, f2⟩, ⟨g0, g1, g2⟩⟩ := hfs.facts
              obtain ⟨q0, q1, q2⟩ := hfs.final
              have HFS7 := hide hfs
              clear hfs
              go_wp2
              refine bodyPost_ret (v := .agg #[.int .i64 k, .int .i64 s, .slice Ao m d]) (by simp [results, Try.results39, go_sem, q0, q1, q2]) rfl ?_
              exact HFS7.out.done hm30 (by omega) (by omega) (by omega)
        · have h3' : (u == 3) = false := by simpa using h3
          have hfs := HF6.out
          obtain ⟨⟨t0, t1, t2⟩, ⟨r0, r1, r2⟩, ⟨f0, f1, f2⟩, ⟨g0, g1, g2⟩⟩ := hfs.facts
          obtain ⟨q0, q1, q2⟩ := hfs.final
          have HFS7 := hide hfs
          clear hfs
          go_wp2
          refine bodyPost_ret (v := .agg #[.int .i64 k, .int .i64 s, .slice A5 n c5]) (by simp [results, Try.results39, go_sem, q0, q1, q2]) rfl ?_
          exact HFS7.out.done (by omega) (by omega) (by omega) (by omega)
end Go.Proofs.Ytgkjbickphdeoaa
