/-
  The program's trees: put.
-/
import Derived.Test.YtapfbkjgmfmepaaImpL1
import Derived.Deep.RegionHeld3
namespace Go.Proofs.Ytapfbkjgmfmepaa
open Go.RowKit
set_option linter.unusedVariables false
set_option maxRecDepth 100000

theorem But.cell {ids : List Nat} {w w' : World} (h : But ids w w') {p : Addr} (hp : p.block < w.heap.size) (hn : p.block ∉ ids) : w'.cell? p = w.cell? p := World.cell?_of_block (h.block p.block hp hn)
theorem node_nodup {g : Nat} {l r : Tr} {e : Int × Int} (h : (Tr.node g l e r).ids.Nodup) : g ∉ l.ids ∧ g ∉ r.ids ∧ l.ids.Nodup ∧ r.ids.Nodup ∧ (∀ i ∈ l.ids, i ∉ r.ids) := by
  obtain ⟨h1, h2⟩ := List.nodup_cons.1 h
  obtain ⟨h3, h4, h5⟩ := List.nodup_append.1 h2
  exact ⟨fun hm => h1 (List.mem_append_left _ hm), fun hm => h1 (List.mem_append_right _ hm), h3, h4, fun i hi hr => h5 i hi i hr rfl⟩
theorem nodup_node {g : Nat} {l r : Tr} {e : Int × Int} (h1 : g ∉ l.ids) (h2 : g ∉ r.ids) (h3 : l.ids.Nodup) (h4 : r.ids.Nodup) (h5 : ∀ i ∈ l.ids, i ∉ r.ids) : (Tr.node g l e r).ids.Nodup := by
  refine List.nodup_cons.2 ⟨fun hm => ?_, List.nodup_append.2 ⟨h3, h4, fun i hi j hj e => h5 i hi (e ▸ hj)⟩⟩
  rcases List.mem_append.1 hm with hm | hm
  · exact h1 hm
  · exact h2 hm
theorem mem_node {g i : Nat} {l r : Tr} {e : Int × Int} : i ∈ (Tr.node g l e r).ids ↔ i = g ∨ i ∈ l.ids ∨ i ∈ r.ids := by
  show i ∈ g :: (l.ids ++ r.ids) ↔ _
  rw [List.mem_cons, List.mem_append]

/-- behind put: the tree with the value -/
def PutT (w : World) (t : Tr) (b v : Int) (x : Ending) (w' : World) : Prop :=
  ∃ t' : Tr, x = .returned (.pointer t'.pt) ∧ TrI w' t' ∧ t'.vals = insL b v t.vals ∧ (∀ g ∈ t'.ids, g ∈ t.ids ∨ w.heap.size ≤ g) ∧ t'.ids.Nodup ∧ But t.ids w w'

section
variable {w w2 : World} {g : Nat} {l r l' r' : Tr} {e : Int × Int}
theorem left_done (h : TrI w (.node g l e r)) (hn : (Tr.node g l e r).ids.Nodup) (hI : TrI w2 l') (hs : ∀ i ∈ l'.ids, i ∈ l.ids ∨ w.heap.size ≤ i) (hd : l'.ids.Nodup) (hb : But l.ids w w2) :
    TrI (w2.setCell ⟨g, 2, none⟩ (.pointer l'.pt)) (.node g l' e r) ∧ (∀ i ∈ (Tr.node g l' e r).ids, i ∈ (Tr.node g l e r).ids ∨ w.heap.size ≤ i) ∧ (Tr.node g l' e r).ids.Nodup ∧ But (Tr.node g l e r).ids w (w2.setCell ⟨g, 2, none⟩ (.pointer l'.pt)) := by
  obtain ⟨n1, n2, n3, n4, n5⟩ := node_nodup hn
  have hg := h.1.lt
  have hgl : g ∉ l'.ids := fun hm => by
    rcases hs g hm with h1 | h1
    · exact n1 h1
    · omega
  have hb2 : Blk w2 g 92 _ := (hb.block g hg n1).trans h.1
  have hr2 : TrI w2 r := h.2.2.but hb fun i hi hm => n5 i hm hi
  refine ⟨⟨hb2.set_ 2 _, hI.keep fun i hi => Below.heap_setCell _ _ _ i fun e => hgl (show g ∈ _ from (show i = g from e) ▸ hi), hr2.keep fun i hi => Below.heap_setCell _ _ _ i fun e => n2 (show g ∈ _ from (show i = g from e) ▸ hi)⟩, fun i hi => ?_, ?_, ?_⟩
  · rcases mem_node.1 hi with rfl | hi | hi
    · exact .inl (mem_node.2 (.inl rfl))
    · rcases hs i hi with h1 | h1
      · exact .inl (mem_node.2 (.inr (.inl h1)))
      · exact .inr h1
    · exact .inl (mem_node.2 (.inr (.inr hi)))
  · refine nodup_node hgl n2 hd n4 fun i hi hm => ?_
    rcases hs i hi with h1 | h1
    · exact n5 i h1 hm
    · have := h.2.2.lt i hm; omega
  · exact (hb.mono fun i hi => .inl (mem_node.2 (.inr (.inl hi)))).trans (But.set (ids := (Tr.node g l e r).ids) w2 (p := ⟨g, 2, none⟩) (mem_node.2 (.inl rfl)) _) fun i hi => .inl hi
theorem right_done (h : TrI w (.node g l e r)) (hn : (Tr.node g l e r).ids.Nodup) (hI : TrI w2 r') (hs : ∀ i ∈ r'.ids, i ∈ r.ids ∨ w.heap.size ≤ i) (hd : r'.ids.Nodup) (hb : But r.ids w w2) :
    TrI (w2.setCell ⟨g, 3, none⟩ (.pointer r'.pt)) (.node g l e r') ∧ (∀ i ∈ (Tr.node g l e r').ids, i ∈ (Tr.node g l e r).ids ∨ w.heap.size ≤ i) ∧ (Tr.node g l e r').ids.Nodup ∧ But (Tr.node g l e r).ids w (w2.setCell ⟨g, 3, none⟩ (.pointer r'.pt)) := by
  obtain ⟨n1, n2, n3, n4, n5⟩ := node_nodup hn
  have hg := h.1.lt
  have hgl : g ∉ r'.ids := fun hm => by
    rcases hs g hm with h1 | h1
    · exact n2 h1
    · omega
  have hb2 : Blk w2 g 92 _ := (hb.block g hg n2).trans h.1
  have hl2 : TrI w2 l := h.2.1.but hb fun i hi hm => n5 i hi hm
  refine ⟨⟨hb2.set_ 3 _, hl2.keep fun i hi => Below.heap_setCell _ _ _ i fun e => n1 (show g ∈ _ from (show i = g from e) ▸ hi), hI.keep fun i hi => Below.heap_setCell _ _ _ i fun e => hgl (show g ∈ _ from (show i = g from e) ▸ hi)⟩, fun i hi => ?_, ?_, ?_⟩
  · rcases mem_node.1 hi with rfl | hi | hi
    · exact .inl (mem_node.2 (.inl rfl))
    · exact .inl (mem_node.2 (.inr (.inl hi)))
    · rcases hs i hi with h1 | h1
      · exact .inl (mem_node.2 (.inr (.inr h1)))
      · exact .inr h1
  · refine nodup_node n1 hgl n3 hd fun i hi hm => ?_
    rcases hs i hm with h1 | h1
    · exact n5 i hi h1
    · have := h.2.1.lt i hi; omega
  · exact (hb.mono fun i hi => .inl (mem_node.2 (.inr (.inr hi)))).trans (But.set (ids := (Tr.node g l e r).ids) w2 (p := ⟨g, 3, none⟩) (mem_node.2 (.inl rfl)) _) fun i hi => .inl hi
end
theorem PutT.of {w W : World} {t t' : Tr} {b v : Int} {w' : World} (ha : But [] w W) (h1 : TrI w' t') (h2 : t'.vals = insL b v t.vals) (h3 : ∀ g ∈ t'.ids, g ∈ t.ids ∨ W.heap.size ≤ g) (h4 : t'.ids.Nodup) (h5 : But t.ids W w') : PutT w t b v (.returned (.pointer t'.pt)) w' :=
  ⟨t', rfl, h1, h2, fun g hg => (h3 g hg).imp id (fun h => Nat.le_trans ha.size h), h4, (ha.mono fun i hi => by cases hi).trans h5 fun i hi => .inl hi⟩

set_option maxHeartbeats 3200000 in
theorem put_any (b v : Int) (t : Tr) : ∀ (w : World) (l : Int), TrI w t → lyV l t.vals = true → t.ids.Nodup →
    Calls Try.prog 69 #[.pointer t.pt, .agg #[.int .i64 b, .int .i64 v]] w (PutT w t b v) := by
  induction t with
  | nil =>
    intro w l h hv hn
    show Calls Try.prog 69 #[.pointer none, .agg #[.int .i64 b, .int .i64 v]] w _
    have HP := hide (show PutT w .nil b v (.returned (.pointer (some ⟨w.heap.size + 1, 0, none⟩))) ((w.alloc (.cells #[.int .i64 b, .int .i64 v] 29)).alloc (.cells #[.int .i64 b, .int .i64 v, .pointer none, .pointer none] 92)) from by
      have hb := Blk.new (w.alloc (.cells #[.int .i64 b, .int .i64 v] 29)) 92 #[.int .i64 b, .int .i64 v, .pointer none, .pointer none]
      simp only [World.size_alloc] at hb
      refine ⟨.node (w.heap.size + 1) .nil (b, v) .nil, rfl, ⟨hb, trivial, trivial⟩, rfl, fun i hi => ?_, by simp [Tr.ids], (But.new _ w _).trans (But.new _ _ _) fun i hi => .inl hi⟩
      simp [Tr.ids] at hi
      right; omega)
    clear h hv hn
    go_enter Try.func69, Try.ntmps69
    go_wp2
    go_ret
    exact HP.out
  | node g lt e rt ihl ihr =>
    intro w l h hv hn
    show Calls Try.prog 69 #[.pointer (some ⟨g, 0, none⟩), .agg #[.int .i64 b, .int .i64 v]] w _
    obtain ⟨c0, c1, c2, c3⟩ := node_cells h
    obtain ⟨d0, d1, d2, d3⟩ := node_cells (h.alloc (.cells #[.int .i64 b, .int .i64 v] 29))
    have hgl := h.1.lt
    have HB := hide (Blk.new w 29 #[.int .i64 b, .int .i64 v])
    have p0 : (w.alloc (.cells #[.int .i64 b, .int .i64 v] 29)).cell? ⟨w.heap.size, 0, none⟩ = some (.int .i64 b) := HB.out.cell 0
    have p1 : (w.alloc (.cells #[.int .i64 b, .int .i64 v] 29)).cell? ⟨w.heap.size, 1, none⟩ = some (.int .i64 v) := HB.out.cell 1
    have hv' := hv
    rw [vals_mid] at hv'
    obtain ⟨x, y⟩ := e
    obtain ⟨k1, k2, k3, k4, k5, k6⟩ := lyV_mid hv'
    obtain ⟨n1, n2, n3, n4, n5⟩ := node_nodup hn
    obtain ⟨W1, hW1⟩ : ∃ W1, w.alloc (.cells #[.int .i64 b, .int .i64 v] 29) = W1 := ⟨_, rfl⟩
    have HA := hide (show But [] w W1 by rw [← hW1]; exact But.new _ _ _)
    have hI := h.alloc (.cells #[.int .i64 b, .int .i64 v] 29)
    have hs : W1.heap.size = w.heap.size + 1 := by rw [← hW1]; simp
    have hwl : w.heap.size ∉ lt.ids := fun hm => by have := h.2.1.lt _ hm; omega
    have hwr : w.heap.size ∉ rt.ids := fun hm => by have := h.2.2.lt _ hm; omega
    rw [hW1] at d0 d1 d2 d3 p0 p1 hI
    have hg2 : g < W1.heap.size := by omega
    have hw2 : w.heap.size < W1.heap.size := by omega
    clear h hv hv'
    have f1 := hI.1.frozen 0
    have f2 := hI.1.frozen 1
    have f3 := hI.1.frozen 2
    have f4 := hI.1.frozen 3
    by_cases hlt : b < x
    · have HI := hide fun (n : Nat) => ihl (W1.drewN n) l (hI.2.1.drewN n) k1 n3
      have HV := hide (show insL b v (lt.vals ++ (x, y) :: rt.vals) = insL b v lt.vals ++ (x, y) :: rt.vals from insL_left hlt)
      have HN := hide hn
      have HII := hide hI
      clear ihl ihr k1 k2 k3 k4 k5 k6 n2 n3 n4 n5 hn hI
      go_enter Try.func69, Try.ntmps69
      go_wp2_with fail
      go_quiet (fail)
      go_wp2_with fail
      go_region_with ((first
          | (go_at_call 69; refine (HI.out _).mono ?_; rintro e w2 ⟨t2, rfl, hi2, hv2, hs2, hd2, hbu'⟩; have hbu : But lt.ids W1 w2 := ⟨hbu'.os, hbu'.tape, hbu'.output, hbu'.size, hbu'.block⟩; have ff : w2.frozen? ⟨g, 2, none⟩ = false := Blk.frozen ((hbu.block g hg2 n1).trans HII.out.1) 2; have cc := (hbu.cell (p := ⟨g, 2, none⟩) hg2 n1).trans d2)))
      all_goals
        have HD := hide (left_done (e := (x, y)) HII.out HN.out hi2 hs2 hd2 hbu)
        have HP := hide (PutT.of (t' := .node g t2 (x, y) rt) (b := b) (v := v) HA.out HD.out.1 (by rw [vals_mid, vals_mid, HV.out, hv2]) HD.out.2.1 HD.out.2.2.1 HD.out.2.2.2)
        clear hi2 hv2 hs2 hd2 hbu hbu' HD HI HV HN HII HA HB ff cc d0 d1 d2 d3 c0 c1 c2 c3 p0 p1 f1 f2 f3 f4
        go_wp2
        go_ret
        exact HP.out
    · by_cases hgt : x < b
      · have HI := hide fun (n : Nat) => ihr (W1.drewN n) x (hI.2.2.drewN n) k6 n4
        have HV := hide (show insL b v (lt.vals ++ (x, y) :: rt.vals) = lt.vals ++ (x, y) :: insL b v rt.vals from insL_right hgt k3)
        have HN := hide hn
        have HII := hide hI
        clear ihl ihr k1 k2 k3 k4 k5 k6 n1 n3 n4 n5 hn hI
        go_enter Try.func69, Try.ntmps69
        go_wp2_with fail
        go_quiet (fail)
        go_wp2_with fail
        go_quiet (fail)
        go_wp2_with fail
        go_region_with ((first
            | (go_at_call 69; refine (HI.out _).mono ?_; rintro e w2 ⟨t2, rfl, hi2, hv2, hs2, hd2, hbu'⟩; have hbu : But rt.ids W1 w2 := ⟨hbu'.os, hbu'.tape, hbu'.output, hbu'.size, hbu'.block⟩; have ff : w2.frozen? ⟨g, 3, none⟩ = false := Blk.frozen ((hbu.block g hg2 n2).trans HII.out.1) 3; have cc := (hbu.cell (p := ⟨g, 3, none⟩) hg2 n2).trans d3)))
        all_goals
          have HD := hide (right_done (e := (x, y)) HII.out HN.out hi2 hs2 hd2 hbu)
          have HP := hide (PutT.of (t' := .node g lt (x, y) t2) (b := b) (v := v) HA.out HD.out.1 (by rw [vals_mid, vals_mid, HV.out, hv2]) HD.out.2.1 HD.out.2.2.1 HD.out.2.2.2)
          clear hi2 hv2 hs2 hd2 hbu hbu' HD HI HV HN HII HA HB ff cc d0 d1 d2 d3 c0 c1 c2 c3 p0 p1 f1 f2 f3 f4
          go_wp2
          go_ret
          exact HP.out
      · obtain rfl : x = b := by omega
        have HV := hide (show insL x v (lt.vals ++ (x, y) :: rt.vals) = lt.vals ++ (x, v) :: rt.vals from insL_same rfl k3)
        have HP := hide fun (n : Nat) => by
          have hJ := hI.drewN n
          have hb2 := (hJ.1.set_ 0 (.int .i64 x)).set_ 1 (.int .i64 v)
          have k : ∀ (W : World) (o : Nat) (u : Value) (i : Nat), i ≠ g → (W.setCell ⟨g, o, none⟩ u).heap[i]? = W.heap[i]? := fun W o u i hi => Below.heap_setCell W ⟨g, o, none⟩ u i hi
          have hD : TrI (((W1.drewN n).setCell ⟨g, 0, none⟩ (.int .i64 x)).setCell ⟨g, 1, none⟩ (.int .i64 v)) (.node g lt (x, v) rt) :=
            ⟨hb2, (hJ.2.1.keep fun i hi => k _ _ _ i fun e => n1 (e ▸ hi)).keep fun i hi => k _ _ _ i fun e => n1 (e ▸ hi),
              (hJ.2.2.keep fun i hi => k _ _ _ i fun e => n2 (e ▸ hi)).keep fun i hi => k _ _ _ i fun e => n2 (e ▸ hi)⟩
          exact PutT.of (t := .node g lt (x, y) rt) (t' := .node g lt (x, v) rt) (b := x) (v := v) (HA.out.drewN n) hD (by rw [vals_mid, vals_mid, HV.out]) (fun i hi => .inl hi) hn ((But.set (ids := (Tr.node g lt (x, y) rt).ids) (W1.drewN n) (p := ⟨g, 0, none⟩) (mem_node.2 (.inl rfl)) (.int .i64 x)).trans (But.set (ids := (Tr.node g lt (x, y) rt).ids) _ (p := ⟨g, 1, none⟩) (mem_node.2 (.inl rfl)) (.int .i64 v)) fun i hi => .inl hi)
        clear ihl ihr k1 k2 k3 k4 k5 k6 n1 n2 n3 n4 n5 hn hI HV
        go_enter Try.func69, Try.ntmps69
        go_wp2_with fail
        go_quiet (fail)
        go_wp2_with fail
        go_quiet (fail)
        go_wp2
        go_ret
        exact HP.out _
end Go.Proofs.Ytapfbkjgmfmepaa
