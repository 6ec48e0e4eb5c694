/-
  The model's l3New: a new device.
-/
import Derived.Test.YtiopbgenkalfaaaZone
import Derived.Deep.RegionLaw
namespace Go.Proofs.Ytiopbgenkalfaaa
open Go.RowKit
set_option linter.unusedVariables false
set_option maxRecDepth 100000

def zone0 : List Int × Int × Bool := ([], 0, false)

theorem size_alloc (w : World) (o : Obj) : (w.alloc o).heap.size = w.heap.size + 1 := by simp

/-- behind 'append(out, z)', the zone in a new block behind one other new block -/
theorem below_app_z {B base n c : Nat} {a w w' : World} {A : Option Addr} {qs : List Zq} {o o' : Obj} (h : Below B a w) (hB : B ≤ w.heap.size) (hown : OwnZ w base A n c qs) (hb : B ≤ base)
    (hg : ((w.alloc o).alloc o').grownBy w' (Value.slice A n c).ownBlock) : Below B a w' :=
  ((h.alloc hB o).alloc (by simp; omega) o').grown hg (by simp; omega) (fun k hk => by have := (hown.block k hk).1; omega)
theorem below_app_z1 {B base n c : Nat} {a w w' : World} {A : Option Addr} {qs : List Zq} {o : Obj} (h : Below B a w) (hB : B ≤ w.heap.size) (hown : OwnZ w base A n c qs) (hb : B ≤ base)
    (hg : (w.alloc o).grownBy w' (Value.slice A n c).ownBlock) : Below B a w' :=
  (h.alloc hB o).grown hg (by simp; omega) (fun k hk => by have := (hown.block k hk).1; omega)

theorem new_sep {w : World} {base n c : Nat} {A : Option Addr} {qs : List Zq} (h : OwnZ w base A n c qs) {q : Zq} (hq : ∀ g, q.sl.ownBlock = some g → w.heap.size ≤ g) :
    ∀ (k : Nat) (r : Zq), qs[k]? = some r → ∀ g, r.sl.ownBlock = some g → q.sl.ownBlock ≠ some g := by
  intro k r hk g hg e
  have h1 := (h.wblock hk g hg).2
  have h2 := hq g e
  omega

set_option maxHeartbeats 1600000 in
theorem specNew (w : World) : Calls Try.prog 66 #[] w fun e w' => ∃ A2 c2 qs, e = .returned (.slice A2 4 c2) ∧ OwnZ w' w.heap.size A2 4 c2 qs ∧ zns qs = List.replicate 4 zone0 ∧ Below w.heap.size w w' := by
  go_enter Try.func66, Try.ntmps66
  go_wp2
  go_loopw [1, 2] (fun o i wr => ∃ (k c2 : Nat) (A2 : Option Addr) (qs : List Zq), k ≤ 4 ∧ i = .int .i64 k ∧ o = .slice A2 k c2 ∧ Hid (OwnZ wr w.heap.size A2 k c2 qs) ∧ Hid (zns qs = List.replicate k zone0) ∧ Hid (Below w.heap.size w wr)) (fun _ i _ => 4 - (intOf i).toNat)
  case atStart => exact ⟨0, 0, _, [], Nat.zero_le _, rfl, rfl, OwnZ.lit0 w _ (Nat.le_refl _), rfl, below_new w _⟩
  case round =>
    obtain ⟨k, c2, A2, qs, hk, rfl, rfl, HO, HZ, HB⟩ := hrel
    have hs := HB.out.size
    by_cases hlt : k < 4
    · have HQ := hide (Own.lit0 wr w.heap.size hs)
      have HZC := hide (zone_cells (wr.alloc (.cells #[] 3)) ⟨[], 0, false, some ⟨wr.heap.size, 0, none⟩, 0⟩)
      rw [size_alloc] at HZC
      have HSEP := hide (new_sep HO.out (q := ⟨[], 0, false, some ⟨wr.heap.size, 0, none⟩, 0⟩) (fun g hg => by injection hg with hg; subst hg; exact Nat.le_refl _))
      have HOA := hide (HO.out.alloc (.cells #[] 3))
      go_wp2_with (at_builtin; refine wpList_append_zone rfl (.tmp 8) (.tmp 11) rfl w.heap.size k c2 1 A2 ⟨wr.heap.size + 1, 0, none⟩ qs ⟨[], 0, false, some ⟨wr.heap.size, 0, none⟩, 0⟩ rfl rfl (HOA.out.alloc _) HZC.out (HQ.out.alloc _) HSEP.out (by omega) (by simp; omega) ?_; intro A3 c3 w3 ho3 hg3 hat3; clear hat3)
      have hB3 := below_app_z HB.out hs HO.out (Nat.le_refl _) hg3
      have HO3 := hide ho3
      have HB3 := hide hB3
      clear ho3 hg3 hB3
      go_wp2
      go_roundw
      case rel => exact ⟨k + 1, c3, A3, _, by omega, by go_num, rfl, HO3.out, by show zns (qs ++ [_]) = _; rw [List.replicate_succ', ← HZ.out]; simp [zns, Zq.zn, zone0], HB3.out⟩
      case measure => simp [intOf]; omega
    · obtain rfl : k = 4 := by omega
      go_wp2
      go_ret
      exact ⟨_, _, _, rfl, HO.out, HZ.out, HB.out⟩
end Go.Proofs.Ytiopbgenkalfaaa
