/-
  The model's l4Copy: a store in new memory.
-/
import Derived.Test.YtfianpjoifcphaaGreatSpecO1
import Derived.Deep.RegionLaw
namespace Go.Proofs.YtfianpjoifcphaaGreat
open Go.RowKit
set_option linter.unusedVariables false
set_option maxRecDepth 100000

theorem size_allocO (w : World) (o : Obj) : (w.alloc o).heap.size = w.heap.size + 1 := by simp

/-- behind 'append(out, o)', the object in a new block -/
theorem below_app_o {B base n c : Nat} {a w w' : World} {A : Option Addr} {qs : List Oq} {o : Obj} (h : Below B a w) (hB : B ≤ w.heap.size) (hown : OwnO w base A n c qs) (hb : B ≤ base)
    (hg : (w.alloc o).grownBy w' (Value.slice A n c).ownBlock) : Below B a w' :=
  (h.alloc hB o).grown hg (by simp; omega) (fun k hk => by have := (hown.block k hk).1; omega)
theorem new_sepO {w : World} {base n c : Nat} {A : Option Addr} {qs : List Oq} (h : OwnO w base A n c qs) {q : Oq} (hq : ∀ g, q.sl.ownBlock = some g → w.heap.size ≤ g) :
    ∀ (k : Nat) (r : Oq), qs[k]? = some r → ∀ g, r.sl.ownBlock = some g → q.sl.ownBlock ≠ some g := by
  intro k r hk g hg e
  have h1 := (h.wblock hk g hg).2
  have h2 := hq g e
  omega

/-- what is known between the two appends of a copied object -/
structure MidO (w wr w3 : World) (A2 : Option Addr) (k c2 : Nat) (qs : List Oq) (q : Oq) : Prop where
  own : OwnO w3 w.heap.size A2 k c2 qs
  hq : Own w3 w.heap.size q.addr q.vals.length q.cap q.vals
  sep : ∀ (k : Nat) (r : Oq), qs[k]? = some r → ∀ g, r.sl.ownBlock = some g → q.sl.ownBlock ≠ some g
  below : Below w.heap.size w w3
  cell : ∀ (p : Addr) (v : Value), p.block < wr.heap.size → wr.cell? p = some v → w3.cell? p = some v

theorem midO {w wr w3 : World} {A2 A3 : Option Addr} {k c2 m c3 : Nat} {qs : List Oq} {ws : List Int} (id : Int) (hB : Below w.heap.size w wr) (hown : OwnO wr w.heap.size A2 k c2 qs) (hq : Own w3 w.heap.size A3 m c3 ws)
    (hg : (wr.alloc (.cells #[] 3)).grownBy w3 (Value.slice (some ⟨wr.heap.size, 0, none⟩) 0 0).ownBlock)
    (hat : (Value.slice A3 m c3).ownBlock = (Value.slice (some ⟨wr.heap.size, 0, none⟩) 0 0).ownBlock ∨ (Value.slice A3 m c3).ownBlock = some (wr.alloc (.cells #[] 3)).heap.size) :
    MidO w wr w3 A2 k c2 qs ⟨id, ws, A3, c3⟩ := by
  have hs := hB.size
  have hl := hq.1
  subst hl
  have hgb : (Value.slice (some (⟨wr.heap.size, 0, none⟩ : Addr)) 0 0).ownBlock = some wr.heap.size := rfl
  rw [hgb] at hg hat
  refine ⟨(hown.alloc _).kept hg (fun g h => ?_), hq, new_sepO hown (fun g h => ?_), below_app0 (n := 0) (c := 0) hB hs hg, fun p v hp h => ?_⟩
  · injection h with h
    subst h
    exact ⟨fun e => by have := (hown.block _ e).2; omega, fun j r hj e => by have := (hown.wblock hj _ e).2; omega⟩
  · have h' : (Value.slice A3 ws.length c3).ownBlock = some g := h
    rcases hat with h2 | h2
    · rw [h'] at h2; injection h2 with h2; omega
    · rw [h', size_allocO] at h2; injection h2 with h2; omega
  · rw [World.cell?_of_block (hg.block p.block (by rw [size_allocO]; omega) (fun e => by injection e with e; omega)), World.cell?_alloc_lt _ _ _ hp]
    exact h

theorem obj_cells_m (w : World) {ws : List Int} {m : Nat} (hm : ws.length = m) (id : Int) (A : Option Addr) (c : Nat) :
    ∀ j u, (Oq.cells ⟨id, ws, A, c⟩)[j]? = some u → (w.alloc (.cells #[.int .i64 id, .slice A m c] 139)).cell? (Addr.add ⟨w.heap.size, 0, none⟩ j) = some u := by
  subst hm
  exact obj_cells w ⟨id, ws, A, c⟩
theorem MidO.news {w wr w3 : World} {A2 : Option Addr} {k c2 m : Nat} {qs : List Oq} {id : Int} {ws : List Int} {A3 : Option Addr} {c3 : Nat} (h : MidO w wr w3 A2 k c2 qs ⟨id, ws, A3, c3⟩) (hm : ws.length = m) :
    News (w3.alloc (.cells #[.int .i64 id, .slice A3 m c3] 139)) w.heap.size k A2 c2 qs (some ⟨w3.heap.size, 0, none⟩) 1 [⟨id, ws, A3, c3⟩] :=
  News.one (h.own.alloc _) (obj_cells_m w3 hm id A3 c3) (h.hq.alloc _) h.sep

set_option maxHeartbeats 6400000 in
theorem specCopyO (A : Option Addr) (n c B : Nat) (qs : List Oq) (w : World) (hr : Objs w B A n qs) (hB : B ≤ w.heap.size) (hn : n ≤ 10000000000) (hl : ∀ q ∈ qs, q.vals.length ≤ 1000000000000) :
    Calls Tryz.prog 129 #[.slice A n c] w fun e w' => ∃ A2 c2 qs2, e = .returned (.slice A2 n c2) ∧ OwnO w' w.heap.size A2 n c2 qs2 ∧ obs qs2 = obs qs ∧ Below w.heap.size w w' := by
  have HR := hide hr
  have HL := hide hl
  have HBB := hide hB
  clear hr hl
  go_enter Tryz.func129, Tryz.ntmps129
  go_wp2
  go_loopw [3, 4] (fun o i wr => ∃ (k c2 : Nat) (A2 : Option Addr) (rs : List Oq), k ≤ n ∧ i = .int .i64 k ∧ o = .slice A2 k c2 ∧ Hid (OwnO wr w.heap.size A2 k c2 rs) ∧ Hid (obs rs = (obs qs).take k) ∧ Hid (Below w.heap.size w wr)) (fun _ i _ => n - (intOf i).toNat)
  case atStart => exact ⟨0, 0, _, [], Nat.zero_le _, rfl, rfl, OwnO.lit0 w _ (Nat.le_refl _), rfl, below_new w _⟩
  case round =>
    obtain ⟨k, c2, A2, rs, hk, rfl, rfl, HO, HZ, HB⟩ := hrel
    have hs := HB.out.size
    by_cases hlt : k < n
    · obtain ⟨q, hq⟩ : ∃ q, qs[k]? = some q := ⟨_, List.getElem?_eq_getElem (by rw [HR.out.1]; exact hlt)⟩
      have HZ2 : Hid ((obs qs).take (k + 1) = obs rs ++ [q.ob]) := by
        show _ = _
        rw [List.take_add_one, HZ.out]
        simp [obs, hq]
      have hR := HR.out.below HB.out HBB.out
      obtain ⟨ad, p, rfl, hp, hb, hc0, hc1⟩ := hR.at_ hq
      obtain ⟨hi, hle, hcm, _⟩ := hR.words hq
      have hml := HL.out q (List.mem_of_getElem? hq)
      clear hR hq
      obtain ⟨id, ws, qa, qc⟩ := q
      simp only [Oq.sl] at hc0 hc1 hi hle hcm hml
      obtain ⟨m, hm⟩ : ∃ m, ws.length = m := ⟨_, rfl⟩
      rw [hm] at hc1 hi hle hml
      have HM := hide hm
      have hpb : p.block < wr.heap.size := by omega
      have HI := hide (hi.alloc (by omega) (.cells #[] 3))
      have HQ := hide (Own.lit0 wr w.heap.size hs)
      have k0 : (0 : Int) ≤ (k : Int) := by omega
      have k1 : (k : Int) < (n : Int) := by omega
      have hbs : w.heap.size ≤ (wr.alloc (.cells #[] 3)).heap.size := by simp; omega
      have hnm : 0 + m ≤ 17592186044416 := by omega
      have hk9 : k + 1 ≤ 100000000000 := by omega
      clear hm hi hle hcm
      go_wp2_with fail
      go_region_law (first
        | (refine step_append_ints ?_ (.tmp 18) (.tmp 23) ?_ w.heap.size 0 0 B m qc (some ⟨wr.heap.size, 0, none⟩) qa [] ws ?_ ?_ ?_ ?_ ?_ ?_ ?_; rfl; rfl; rfl; exact HQ.out; rfl; exact HI.out; exact hnm; exact hbs; intro A3 c3 w3 ho3 hg3' hat3; simp only [Nat.zero_add, List.nil_append] at ho3 hat3 ⊢; have HMID := hide (midO (A3 := A3) (c3 := c3) (m := m) (ws := ws) id HB.out HO.out ho3 (grown_undrawn hg3') hat3); have hd0 := HMID.out.cell _ _ hpb hc0; have hd1 := HMID.out.cell ⟨p.block, p.off + 1, none⟩ _ hpb hc1; have hbz : w.heap.size ≤ (w3.alloc (.cells #[.int .i64 id, .slice A3 m c3] 139)).heap.size := Nat.le_trans HMID.out.below.size (by rw [size_allocO]; omega); have HZC := hide (HMID.out.news HM.out); clear hat3 hg3' ho3)
        | (refine step_append_objs ?_ (.tmp 12) (.tmp 26) ?_ w.heap.size k c2 1 1 A2 (some ⟨w3.heap.size, 0, none⟩) rs [⟨id, ws, A3, c3⟩] ?_ ?_ ?_ ?_ ?_ ?_; rfl; rfl; rfl; rfl; exact HZC.out; exact hk9; exact hbz; intro A4 c4 w4 ho4 hg4' hat4; clear hat4))
      all_goals
        have hB4 := below_app_o HMID.out.below HMID.out.below.size HMID.out.own (Nat.le_refl _) hg4'
        have HB4 := hide hB4
        have HO4 := hide ho4
        clear ho4 hg4' hB4
        go_wp2
        go_roundw
        case rel => exact ⟨k + 1, c4, A4, _, by omega, by go_num, rfl, HO4.out, by show obs (rs ++ [_]) = _; rw [HZ2.out]; simp [obs, Oq.ob], HB4.out⟩
        case measure => simp [intOf]; omega
    · obtain rfl : k = n := by omega
      go_wp2
      go_ret
      have h := HZ.out
      rw [List.take_of_length_le (by rw [obs_length, HR.out.1]; exact Nat.le_refl _)] at h
      exact ⟨_, _, _, rfl, HO.out, h, HB.out⟩
end Go.Proofs.YtfianpjoifcphaaGreat
