/-
  The model's l3New, l3Copy: new devices.
-/
import Derived.Test.YtfianpjoifcphaaGreatSpecZ1
import Derived.Deep.RegionLaw
namespace Go.Proofs.YtfianpjoifcphaaGreat
open Go.RowKit
set_option linter.unusedVariables false
set_option maxRecDepth 100000

def zone0 : List Int × Int × Bool := ([], 0, false)

theorem size_alloc (w : World) (o : Obj) : (w.alloc o).heap.size = w.heap.size + 1 := by simp

/-- behind 'append(out, z)', the zone in a new block behind one other new block -/
theorem below_app_z {B base n c : Nat} {a w w' : World} {A : Option Addr} {qs : List Zq} {o o' : Obj} (h : Below B a w) (hB : B ≤ w.heap.size) (hown : OwnZ w base A n c qs) (hb : B ≤ base)
    (hg : ((w.alloc o).alloc o').grownBy w' (Value.slice A n c).ownBlock) : Below B a w' :=
  ((h.alloc hB o).alloc (by simp; omega) o').grown hg (by simp; omega) (fun k hk => by have := (hown.block k hk).1; omega)
theorem below_app_z1 {B base n c : Nat} {a w w' : World} {A : Option Addr} {qs : List Zq} {o : Obj} (h : Below B a w) (hB : B ≤ w.heap.size) (hown : OwnZ w base A n c qs) (hb : B ≤ base)
    (hg : (w.alloc o).grownBy w' (Value.slice A n c).ownBlock) : Below B a w' :=
  (h.alloc hB o).grown hg (by simp; omega) (fun k hk => by have := (hown.block k hk).1; omega)

theorem new_sep {w : World} {base n c : Nat} {A : Option Addr} {qs : List Zq} (h : OwnZ w base A n c qs) {q : Zq} (hq : ∀ g, q.sl.ownBlock = some g → w.heap.size ≤ g) :
    ∀ (k : Nat) (r : Zq), qs[k]? = some r → ∀ g, r.sl.ownBlock = some g → q.sl.ownBlock ≠ some g := by
  intro k r hk g hg e
  have h1 := (h.wblock hk g hg).2
  have h2 := hq g e
  omega

set_option maxHeartbeats 1600000 in
theorem specNew (w : World) : Calls Tryz.prog 89 #[] w fun e w' => ∃ A2 c2 qs, e = .returned (.slice A2 4 c2) ∧ OwnZ w' w.heap.size A2 4 c2 qs ∧ zns qs = List.replicate 4 zone0 ∧ Below w.heap.size w w' := by
  go_enter Tryz.func89, Tryz.ntmps89
  go_wp2
  go_loopw [1, 2] (fun o i wr => ∃ (k c2 : Nat) (A2 : Option Addr) (qs : List Zq), k ≤ 4 ∧ i = .int .i64 k ∧ o = .slice A2 k c2 ∧ Hid (OwnZ wr w.heap.size A2 k c2 qs) ∧ Hid (zns qs = List.replicate k zone0) ∧ Hid (Below w.heap.size w wr)) (fun _ i _ => 4 - (intOf i).toNat)
  case atStart => exact ⟨0, 0, _, [], Nat.zero_le _, rfl, rfl, OwnZ.lit0 w _ (Nat.le_refl _), rfl, below_new w _⟩
  case round =>
    obtain ⟨k, c2, A2, qs, hk, rfl, rfl, HO, HZ, HB⟩ := hrel
    have hs := HB.out.size
    by_cases hlt : k < 4
    · have HQ := hide (Own.lit0 wr w.heap.size hs)
      have HZC := hide (zone_cells (wr.alloc (.cells #[] 3)) ⟨[], 0, false, some ⟨wr.heap.size, 0, none⟩, 0⟩)
      rw [size_alloc] at HZC
      have HSEP := hide (new_sep HO.out (q := ⟨[], 0, false, some ⟨wr.heap.size, 0, none⟩, 0⟩) (fun g hg => by injection hg with hg; subst hg; exact Nat.le_refl _))
      have HOA := hide (HO.out.alloc (.cells #[] 3))
      go_wp2_with (at_builtin; refine wpList_append_zone rfl (.tmp 8) (.tmp 11) rfl w.heap.size k c2 1 A2 ⟨wr.heap.size + 1, 0, none⟩ qs ⟨[], 0, false, some ⟨wr.heap.size, 0, none⟩, 0⟩ rfl rfl (HOA.out.alloc _) HZC.out (HQ.out.alloc _) HSEP.out (by omega) (by simp; omega) ?_; intro A3 c3 w3 ho3 hg3 hat3; clear hat3)
      have hB3 := below_app_z HB.out hs HO.out (Nat.le_refl _) hg3
      have HO3 := hide ho3
      have HB3 := hide hB3
      clear ho3 hg3 hB3
      go_wp2
      go_roundw
      case rel => exact ⟨k + 1, c3, A3, _, by omega, by go_num, rfl, HO3.out, by show zns (qs ++ [_]) = _; rw [List.replicate_succ', ← HZ.out]; simp [zns, Zq.zn, zone0], HB3.out⟩
      case measure => simp [intOf]; omega
    · obtain rfl : k = 4 := by omega
      go_wp2
      go_ret
      exact ⟨_, _, _, rfl, HO.out, HZ.out, HB.out⟩
/-- what is known between the two appends of a copied zone -/
structure Mid (w wr w3 : World) (A2 : Option Addr) (k c2 : Nat) (qs : List Zq) (q : Zq) : Prop where
  own : OwnZ w3 w.heap.size A2 k c2 qs
  hq : Own w3 w.heap.size q.addr q.words.length q.cap q.words
  sep : ∀ (k : Nat) (r : Zq), qs[k]? = some r → ∀ g, r.sl.ownBlock = some g → q.sl.ownBlock ≠ some g
  below : Below w.heap.size w w3
  cell : ∀ (p : Addr) (v : Value), p.block < wr.heap.size → wr.cell? p = some v → w3.cell? p = some v

theorem mid {w wr w3 : World} {A2 A3 : Option Addr} {k c2 m c3 : Nat} {qs : List Zq} {ws : List Int} (sy : Int) (fu : Bool) (hB : Below w.heap.size w wr) (hown : OwnZ wr w.heap.size A2 k c2 qs) (hq : Own w3 w.heap.size A3 m c3 ws)
    (hg : (wr.alloc (.cells #[] 3)).grownBy w3 (Value.slice (some ⟨wr.heap.size, 0, none⟩) 0 0).ownBlock)
    (hat : (Value.slice A3 m c3).ownBlock = (Value.slice (some ⟨wr.heap.size, 0, none⟩) 0 0).ownBlock ∨ (Value.slice A3 m c3).ownBlock = some (wr.alloc (.cells #[] 3)).heap.size) :
    Mid w wr w3 A2 k c2 qs ⟨ws, sy, fu, A3, c3⟩ := by
  have hs := hB.size
  have hl := hq.1
  subst hl
  have hgb : (Value.slice (some (⟨wr.heap.size, 0, none⟩ : Addr)) 0 0).ownBlock = some wr.heap.size := rfl
  rw [hgb] at hg hat
  refine ⟨(hown.alloc _).kept hg (fun g h => ?_), hq, new_sep hown (fun g h => ?_), below_app0 (n := 0) (c := 0) hB hs hg, fun p v hp h => ?_⟩
  · injection h with h
    subst h
    exact ⟨fun e => by have := (hown.block _ e).2; omega, fun j r hj e => by have := (hown.wblock hj _ e).2; omega⟩
  · have h' : (Value.slice A3 ws.length c3).ownBlock = some g := h
    rcases hat with h2 | h2
    · rw [h'] at h2; injection h2 with h2; omega
    · rw [h', size_alloc] at h2; injection h2 with h2; omega
  · rw [World.cell?_of_block (hg.block p.block (by rw [size_alloc]; omega) (fun e => by injection e with e; omega)), World.cell?_alloc_lt _ _ _ hp]
    exact h

theorem zone_cells_m (w : World) {ws : List Int} {m : Nat} (hm : ws.length = m) (sy : Int) (fu : Bool) (A : Option Addr) (c : Nat) :
    ∀ j u, (Zq.vals ⟨ws, sy, fu, A, c⟩)[j]? = some u → (w.alloc (.cells #[.slice A m c, .int .i64 sy, .bool fu] 69)).cell? (Addr.add ⟨w.heap.size, 0, none⟩ j) = some u := by
  subst hm
  exact zone_cells w ⟨ws, sy, fu, A, c⟩

set_option maxHeartbeats 6400000 in
theorem specCopy (A : Option Addr) (n c B : Nat) (qs : List Zq) (w : World) (hr : Zns w B A n qs) (hB : B ≤ w.heap.size) (hn : n ≤ 100000000000) (hl : ∀ q ∈ qs, q.words.length ≤ 1000000000000) :
    Calls Tryz.prog 128 #[.slice A n c] w fun e w' => ∃ A2 c2 qs2, e = .returned (.slice A2 n c2) ∧ OwnZ w' w.heap.size A2 n c2 qs2 ∧ zns qs2 = zns qs ∧ Below w.heap.size w w' := by
  have HR := hide hr
  have HL := hide hl
  have HBB := hide hB
  clear hr hl
  go_enter Tryz.func128, Tryz.ntmps128
  go_wp2
  go_loopw [3, 4] (fun o i wr => ∃ (k c2 : Nat) (A2 : Option Addr) (rs : List Zq), k ≤ n ∧ i = .int .i64 k ∧ o = .slice A2 k c2 ∧ Hid (OwnZ wr w.heap.size A2 k c2 rs) ∧ Hid (zns rs = (zns qs).take k) ∧ Hid (Below w.heap.size w wr)) (fun _ i _ => n - (intOf i).toNat)
  case atStart => exact ⟨0, 0, _, [], Nat.zero_le _, rfl, rfl, OwnZ.lit0 w _ (Nat.le_refl _), rfl, below_new w _⟩
  case round =>
    obtain ⟨k, c2, A2, rs, hk, rfl, rfl, HO, HZ, HB⟩ := hrel
    have hs := HB.out.size
    by_cases hlt : k < n
    · obtain ⟨q, hq⟩ : ∃ q, qs[k]? = some q := ⟨_, List.getElem?_eq_getElem (by rw [HR.out.1]; exact hlt)⟩
      have HZ2 : Hid ((zns qs).take (k + 1) = zns rs ++ [q.zn]) := by
        show _ = _
        rw [List.take_add_one, HZ.out]
        simp [zns, hq]
      have hR := HR.out.below HB.out HBB.out
      obtain ⟨ad, p, rfl, hp, hb, hc0, hc1, hc2⟩ := hR.at_ hq
      obtain ⟨hi, hle, hcm⟩ := hR.words hq
      have hml := HL.out q (List.mem_of_getElem? hq)
      clear hR hq
      obtain ⟨ws, sy, fu, qa, qc⟩ := q
      simp only [Zq.sl] at hc0 hc1 hc2 hi hle hcm hml
      obtain ⟨m, hm⟩ : ∃ m, ws.length = m := ⟨_, rfl⟩
      rw [hm] at hc0 hi hle hml
      have HM := hide hm
      have hpb : p.block < wr.heap.size := by omega
      have HI := hide (hi.alloc (by omega) (.cells #[] 3))
      have HQ := hide (Own.lit0 wr w.heap.size hs)
      have k0 : (0 : Int) ≤ (k : Int) := by omega
      have k1 : (k : Int) < (n : Int) := by omega
      have hbs : w.heap.size ≤ (wr.alloc (.cells #[] 3)).heap.size := by simp; omega
      have hnm : 0 + m ≤ 17592186044416 := by omega
      have hk9 : k ≤ 100000000000 := by omega
      clear hm hi hle hcm
      go_wp2_with fail
      go_region_law (first
        | (refine step_append_ints ?_ (.tmp 13) (.tmp 18) ?_ w.heap.size 0 0 B m qc (some ⟨wr.heap.size, 0, none⟩) qa [] ws ?_ ?_ ?_ ?_ ?_ ?_ ?_; rfl; rfl; rfl; exact HQ.out; rfl; exact HI.out; exact hnm; exact hbs; intro A3 c3 w3 ho3 hg3' hat3; simp only [Nat.zero_add, List.nil_append] at ho3 hat3 ⊢; have HMID := hide (mid (A3 := A3) (c3 := c3) (m := m) (ws := ws) sy fu HB.out HO.out ho3 (grown_undrawn hg3') hat3); have hd0 := HMID.out.cell _ _ hpb hc0; have hd1 := HMID.out.cell ⟨p.block, p.off + 1, none⟩ _ hpb hc1; have hd2 := HMID.out.cell ⟨p.block, p.off + 2, none⟩ _ hpb hc2; have hbz : w.heap.size ≤ (w3.alloc (.cells #[.slice A3 m c3, .int .i64 sy, .bool fu] 69)).heap.size := Nat.le_trans HMID.out.below.size (by rw [size_alloc]; omega); have HZC := hide (zone_cells_m w3 HM.out sy fu A3 c3); clear hat3 hg3' ho3)
        | (refine step_append_zone ?_ (.tmp 12) (.tmp 31) ?_ w.heap.size k c2 1 A2 ⟨w3.heap.size, 0, none⟩ rs ⟨ws, sy, fu, A3, c3⟩ ?_ ?_ ?_ ?_ ?_ ?_ ?_ ?_ ?_; rfl; rfl; rfl; rfl; exact HMID.out.own.alloc _; exact HZC.out; exact HMID.out.hq.alloc _; exact HMID.out.sep; exact hk9; exact hbz; intro A4 c4 w4 ho4 hg4' hat4; clear hat4))
      all_goals
        have hB4 := below_app_z1 HMID.out.below HMID.out.below.size HMID.out.own (Nat.le_refl _) hg4'
        have HB4 := hide hB4
        have HO4 := hide ho4
        clear ho4 hg4' hB4
        go_wp2
        go_roundw
        case rel => exact ⟨k + 1, c4, A4, _, by omega, by go_num, rfl, HO4.out, by show zns (rs ++ [_]) = _; rw [HZ2.out]; simp [zns, Zq.zn], HB4.out⟩
        case measure => simp [intOf]; omega
    · obtain rfl : k = n := by omega
      go_wp2
      go_ret
      have h := HZ.out
      rw [List.take_of_length_le (by unfold zns; rw [List.length_map, HR.out.1]; exact Nat.le_refl _)] at h
      exact ⟨_, _, _, rfl, HO.out, h, HB.out⟩
end Go.Proofs.YtfianpjoifcphaaGreat
