/-
  The model's DeviceErase, DeviceAppend.
-/
import Derived.Test.YtfianpjoifcphaaSpecZ3
namespace Go.Proofs.Ytfianpjoifcphaa
open Go.RowKit
set_option linter.unusedVariables false
set_option maxRecDepth 100000

/-- a device and whether it could be done -/
def DevPost (w : World) (v : Bool) (ds : Dev) (e : Ending) (w' : World) : Prop :=
  ∃ A2 m c2 qs2, e = .returned (.tuple #[.slice A2 m c2, .bool v]) ∧ OwnZ w' w.heap.size A2 m c2 qs2 ∧ zns qs2 = ds ∧ Below w.heap.size w w'
/-- a device and a number -/
def DevPostI (w : World) (v : Int) (ds : Dev) (e : Ending) (w' : World) : Prop :=
  ∃ A2 m c2 qs2, e = .returned (.tuple #[.slice A2 m c2, .int .i64 v]) ∧ OwnZ w' w.heap.size A2 m c2 qs2 ∧ zns qs2 = ds ∧ Below w.heap.size w w'

theorem devV_iff {ds : Dev} : devV ds = true ↔ (∀ z ∈ ds, zoneOk z = true) ∧ ds.length = 4 := by simp [devV]
theorem devV_len {qs : List Zq} (h : devV (zns qs) = true) : ∀ q ∈ qs, q.words.length ≤ 64 := by
  intro q hq
  have h1 := (devV_iff.1 h).1 q.zn (List.mem_map_of_mem hq)
  simp only [zoneOk, Zq.zn, Bool.and_eq_true] at h1
  exact of_decide_eq_true h1.1.2
theorem devV_four {qs : List Zq} (h : devV (zns qs) = true) : qs.length = 4 := by
  have := (devV_iff.1 h).2
  simpa [zns] using this


theorem OwnZ.after {w w3 : World} {base g n c k : Nat} {qs : List Zq} {q : Zq} (h : OwnZ w base (some ⟨g, 0, none⟩) n c qs) (hk : qs[k]? = some q) (hg : w.grownBy w3 q.sl.ownBlock) :
    w3.cell? ⟨g, k * 3, none⟩ = some q.sl ∧ w3.frozen? ⟨g, k * 3, none⟩ = false := by
  have hob : (Value.slice (some (⟨g, 0, none⟩ : Addr)) n c).ownBlock = some g := rfl
  have hr := h.row.kept hg (by
    rcases hb : q.sl.ownBlock with _ | b
    · exact .inr (by rw [hob]; simp)
    · exact .inr (by rw [hob]; intro e; injection e with e; subst e; exact h.far hk hob hb))
  refine ⟨?_, hr.frozenAt (k * 3)⟩
  have h0 : (flat qs)[k * 3]? = some q.sl := by rw [show k * 3 = k * 3 + 0 from rfl, flat_get hk 0 (by omega)]; rfl
  have := hr.cells rfl (k * 3) q.sl h0
  rwa [add_plain'] at this

/-- behind 'd[k].Words = append(d[k].Words, ..)' -/
theorem OwnZ.wrote {w w3 : World} {base g n c k m c3 : Nat} {qs : List Zq} {q : Zq} {A3 : Option Addr} {ws3 : List Int} (h : OwnZ w base (some ⟨g, 0, none⟩) n c qs) (hk : qs[k]? = some q) (hg : w.grownBy w3 q.sl.ownBlock)
    (ho : Own w3 base A3 m c3 ws3) (hat : (Value.slice A3 m c3).ownBlock = q.sl.ownBlock ∨ (Value.slice A3 m c3).ownBlock = some w.heap.size) :
    OwnZ (w3.setCell ⟨g, k * 3, none⟩ (.slice A3 m c3)) base (some ⟨g, 0, none⟩) n c (qs.set k ⟨ws3, q.synced, q.full, A3, c3⟩) ∧ w3.grownBy (w3.setCell ⟨g, k * 3, none⟩ (.slice A3 m c3)) (some g) := by
  have hm := ho.1
  subst hm
  refine h.put hk hg (fun b hb => ⟨fun e => ?_, fun i r hi hik e => ?_⟩) ⟨ws3, q.synced, q.full, A3, c3⟩ 0 (.slice A3 ws3.length c3) (by omega) rfl ho (fun i r hi hik b hb => ?_)
  · subst e
    exact h.far hk rfl hb
  · exact h.sep k i q r hk hi (fun e => hik e.symm) b hb e
  · show (Value.slice A3 ws3.length c3).ownBlock ≠ some b
    rcases hat with e | e
    · rw [e]; exact h.sep i k r q hi hk hik b hb
    · rw [e]
      have := (h.wblock hi b hb).2
      intro e2
      injection e2 with e2
      omega

/-- what DeviceAppend tells -/
def appendD (ds : Dev) (z : Int) (ws : List Int) : Dev :=
  if devV ds && inB z 0 3 && allW ws then
    match ds[z.toNat]? with
    | some q => if !q.2.2 && decide (q.1.length + ws.length ≤ 64) then ds.set z.toNat (q.1 ++ ws, q.2.1, q.2.2) else ds
    | none => ds
  else []
def appendN (ds : Dev) (z : Int) (ws : List Int) : Int :=
  if devV ds && inB z 0 3 && allW ws then
    match ds[z.toNat]? with
    | some q => if !q.2.2 && decide (q.1.length + ws.length ≤ 64) then 0 else 1
    | none => 1
  else 2

theorem appendD_no {ds : Dev} {z : Int} {ws : List Int} (h : (devV ds && inB z 0 3 && allW ws) = false) : appendD ds z ws = [] := by unfold appendD; rw [h]; rfl
theorem appendN_no {ds : Dev} {z : Int} {ws : List Int} (h : (devV ds && inB z 0 3 && allW ws) = false) : appendN ds z ws = 2 := by unfold appendN; rw [h]; rfl
theorem zns_get {qs : List Zq} {k : Nat} {q : Zq} (h : qs[k]? = some q) : (zns qs)[k]? = some q.zn := by unfold zns; rw [List.getElem?_map, h]; rfl
theorem zns_get_inv {qs : List Zq} {k : Nat} {z : List Int × Int × Bool} (h : (zns qs)[k]? = some z) : ∃ q, qs[k]? = some q ∧ q.zn = z := by
  unfold zns at h
  rw [List.getElem?_map] at h
  rcases h2 : qs[k]? with _ | q
  · rw [h2] at h; cases h
  · rw [h2] at h; exact ⟨q, rfl, by injection h⟩
theorem appendD_yes {ds : Dev} {k : Nat} {ws : List Int} {q : List Int × Int × Bool} (h : (devV ds && inB k 0 3 && allW ws) = true) (hq : ds[k]? = some q) :
    appendD ds k ws = if !q.2.2 && decide (q.1.length + ws.length ≤ 64) then ds.set k (q.1 ++ ws, q.2.1, q.2.2) else ds := by
  unfold appendD; rw [if_pos h]; simp only [Int.toNat_natCast, hq]
theorem appendN_yes {ds : Dev} {k : Nat} {ws : List Int} {q : List Int × Int × Bool} (h : (devV ds && inB k 0 3 && allW ws) = true) (hq : ds[k]? = some q) :
    appendN ds k ws = if !q.2.2 && decide (q.1.length + ws.length ≤ 64) then 0 else 1 := by
  unfold appendN; rw [if_pos h]; simp only [Int.toNat_natCast, hq]

/-- what is known of the copied device, ahead of the append -/
structure Mine (w w2 : World) (g k c2 : Nat) (qs2 : List Zq) (q2 : Zq) : Prop where
  own : OwnZ w2 w.heap.size (some ⟨g, 0, none⟩) 4 c2 qs2
  at_ : qs2[k]? = some q2
  below : Below w.heap.size w w2

end Go.Proofs.Ytfianpjoifcphaa
