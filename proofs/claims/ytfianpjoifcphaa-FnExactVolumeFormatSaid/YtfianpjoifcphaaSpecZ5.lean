/-
  The model's DeviceSync, DeviceFinish, DeviceReset.
-/
import Derived.Test.YtfianpjoifcphaaSpecZ4
namespace Go.Proofs.Ytfianpjoifcphaa
open Go.RowKit
set_option linter.unusedVariables false
set_option maxRecDepth 100000

/-- zone z of a device, changed -/
def modD (ds : Dev) (z : Int) (f : List Int × Int × Bool → List Int × Int × Bool) : Dev :=
  match ds[z.toNat]? with
  | some q => ds.set z.toNat (f q)
  | none => ds
theorem modD_at {ds : Dev} {k : Nat} {q : List Int × Int × Bool} (h : ds[k]? = some q) (f : List Int × Int × Bool → List Int × Int × Bool) : modD ds k f = ds.set k (f q) := by
  unfold modD; simp only [Int.toNat_natCast, h]
def zoneV (ds : Dev) (z : Int) : Bool := devV ds && inB z 0 3
def syncF (ds : Dev) : Dev := if devV ds then syncD ds else []
def fullZ (q : List Int × Int × Bool) : List Int × Int × Bool := (q.1, q.2.1, true)
def finishD (ds : Dev) (z : Int) : Dev := if zoneV ds z then modD ds z fullZ else []
def resetD (ds : Dev) (z : Int) : Dev := if zoneV ds z then modD ds z (fun _ => zone0) else []

theorem devpost_none {w : World} (i : Nat) : DevPost w false [] (.returned (.tuple #[.slice (some ⟨w.heap.size, 0, none⟩) 0 0, .bool false])) ((w.drewN i).alloc (.cells #[] 43)) :=
  ⟨_, _, _, [], rfl, OwnZ.lit0 (w.drewN i) w.heap.size (Nat.le_refl _), rfl, (below_drewN (Below.refl _ _) i).alloc (Nat.le_refl _) _⟩


/-- what a valid device and a zone's number give -/
theorem zone_parts {A : Option Addr} {n B : Nat} {z : Int} {qs : List Zq} {w : World} (hr : Zns w B A n qs) (h : zoneV (zns qs) z = true) :
    ∃ (k : Nat) (q : Zq), z = (k : Int) ∧ k < 4 ∧ n = 4 ∧ qs[k]? = some q ∧ ∀ r ∈ qs, r.words.length ≤ 64 := by
  unfold zoneV at h
  rw [Bool.and_eq_true] at h
  obtain ⟨hv, hz3⟩ := h
  obtain ⟨hz0, hz1⟩ := inB_iff.1 hz3
  have h4 : n = 4 := by rw [← hr.1]; exact devV_four hv
  obtain ⟨k, rfl⟩ : ∃ k : Nat, z = (k : Int) := ⟨z.toNat, by omega⟩
  exact ⟨k, _, rfl, by omega, h4, List.getElem?_eq_getElem (by rw [hr.1]; omega), devV_len hv⟩

theorem OwnZ.fin {w : World} {base g n c k : Nat} {qs : List Zq} {q : Zq} (h : OwnZ w base (some ⟨g, 0, none⟩) n c qs) (hk : qs[k]? = some q) :
    OwnZ (w.setCell ⟨g, k * 3 + 2, none⟩ (.bool true)) base (some ⟨g, 0, none⟩) n c (qs.set k ⟨q.words, q.synced, true, q.addr, q.cap⟩) ∧ w.grownBy (w.setCell ⟨g, k * 3 + 2, none⟩ (.bool true)) (some g) :=
  h.put_in hk ⟨q.words, q.synced, true, q.addr, q.cap⟩ 2 (.bool true) (by omega) rfl rfl rfl rfl


/-- a zone laid anew, its words in a new row -/
theorem OwnZ.anew {w w3 : World} {base g n c k c3 : Nat} {qs : List Zq} {q : Zq} {A3 : Option Addr} {ws3 : List Int} {row : Option Nat} (h : OwnZ w base (some ⟨g, 0, none⟩) n c qs) (hk : qs[k]? = some q) (hg : w.grownBy w3 row)
    (hrow : ∀ b, row = some b → w.heap.size ≤ b) (ho : Own w3 base A3 ws3.length c3 ws3) (hat : ∀ b, (Value.slice A3 ws3.length c3).ownBlock = some b → w.heap.size ≤ b) (sy : Int) (fu : Bool) :
    OwnZ (((w3.setCell ⟨g, k * 3, none⟩ (.slice A3 ws3.length c3)).setCell ⟨g, k * 3 + 1, none⟩ (.int .i64 sy)).setCell ⟨g, k * 3 + 2, none⟩ (.bool fu)) base (some ⟨g, 0, none⟩) n c (qs.set k ⟨ws3, sy, fu, A3, c3⟩) ∧
      w3.grownBy (((w3.setCell ⟨g, k * 3, none⟩ (.slice A3 ws3.length c3)).setCell ⟨g, k * 3 + 1, none⟩ (.int .i64 sy)).setCell ⟨g, k * 3 + 2, none⟩ (.bool fu)) (some g) := by
  have hlt : g < w.heap.size := by
    obtain ⟨g', e, _, hl⟩ := h.shape (by rw [← h.len]; exact Nat.lt_of_le_of_lt (Nat.zero_le _) (List.getElem?_eq_some_iff.1 hk).1)
    injection e with e
    injection e with e
    subst e
    exact hl
  have p1 := h.put hk hg (fun b hb => ⟨fun e => by have := hrow b hb; omega, fun i r hi hik e => by have := hrow b hb; have := (h.wblock hi b e).2; omega⟩) ⟨ws3, q.synced, q.full, A3, c3⟩ 0 (.slice A3 ws3.length c3) (by omega) rfl ho
    (fun i r hi hik b hb e => by have := hat b e; have := (h.wblock hi b hb).2; omega)
  have hl : k < qs.length := (List.getElem?_eq_some_iff.1 hk).1
  have p2 := p1.1.put_in (k := k) (q := ⟨ws3, q.synced, q.full, A3, c3⟩) (by rw [List.getElem?_set_self hl]) ⟨ws3, sy, q.full, A3, c3⟩ 1 (.int .i64 sy) (by omega) rfl rfl rfl rfl
  rw [List.set_set] at p2
  have p3 := p2.1.put_in (k := k) (q := ⟨ws3, sy, q.full, A3, c3⟩) (by rw [List.getElem?_set_self hl]) ⟨ws3, sy, fu, A3, c3⟩ 2 (.bool fu) (by omega) rfl rfl rfl rfl
  rw [List.set_set] at p3
  exact ⟨p3.1, grown_trans' (grown_trans' p1.2 p2.2) p3.2⟩


end Go.Proofs.Ytfianpjoifcphaa
