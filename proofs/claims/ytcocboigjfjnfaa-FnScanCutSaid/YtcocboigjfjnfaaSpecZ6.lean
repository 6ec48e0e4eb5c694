/-
  The model's DeviceCut.
-/
import Derived.Test.YtcocboigjfjnfaaSpecZ5
import Derived.Deep.DeepCutAuto
import Derived.Deep.CutBlock
namespace Go.Proofs.Ytcocboigjfjnfaa
open Go.RowKit
set_option linter.unusedVariables false
set_option maxRecDepth 100000

def cutOk (ds : Dev) (z n : Int) : Bool := zoneV ds z && (match ds[z.toNat]? with | some q => inB n 0 q.1.length | none => false)
def cutZ (n : Int) (q : List Int × Int × Bool) : List Int × Int × Bool := (q.1.take n.toNat, min q.2.1 n, q.2.2)
def cutD (ds : Dev) (z n : Int) : Dev := if cutOk ds z n then modD ds z (cutZ n) else []
theorem cutOk_no {ds : Dev} {z n : Int} (h : zoneV ds z = false) : cutOk ds z n = false := by unfold cutOk; rw [h]; rfl
theorem cutOk_at {ds : Dev} {k : Nat} {n : Int} {q : List Int × Int × Bool} (h : zoneV ds k = true) (hq : ds[k]? = some q) : cutOk ds k n = inB n 0 q.1.length := by
  unfold cutOk; rw [h]; simp only [Int.toNat_natCast, hq, Bool.true_and]

/-- a zone's words and how many of them last, laid anew -/
theorem OwnZ.anew2 {w w3 : World} {base g n c k c3 : Nat} {qs : List Zq} {q : Zq} {A3 : Option Addr} {ws3 : List Int} {row : Option Nat} (h : OwnZ w base (some ⟨g, 0, none⟩) n c qs) (hk : qs[k]? = some q) (hg : w.grownBy w3 row)
    (hrow : ∀ b, row = some b → w.heap.size ≤ b) (ho : Own w3 base A3 ws3.length c3 ws3) (hat : ∀ b, (Value.slice A3 ws3.length c3).ownBlock = some b → w.heap.size ≤ b) (sy : Int) :
    OwnZ ((w3.setCell ⟨g, k * 3, none⟩ (.slice A3 ws3.length c3)).setCell ⟨g, k * 3 + 1, none⟩ (.int .i64 sy)) base (some ⟨g, 0, none⟩) n c (qs.set k ⟨ws3, sy, q.full, A3, c3⟩) ∧
      w3.grownBy ((w3.setCell ⟨g, k * 3, none⟩ (.slice A3 ws3.length c3)).setCell ⟨g, k * 3 + 1, none⟩ (.int .i64 sy)) (some g) ∧
      OwnZ (w3.setCell ⟨g, k * 3, none⟩ (.slice A3 ws3.length c3)) base (some ⟨g, 0, none⟩) n c (qs.set k ⟨ws3, q.synced, q.full, A3, c3⟩) ∧ w3.grownBy (w3.setCell ⟨g, k * 3, none⟩ (.slice A3 ws3.length c3)) (some g) := by
  have hlt : g < w.heap.size := by
    obtain ⟨g', e, _, hl⟩ := h.shape (by rw [← h.len]; exact Nat.lt_of_le_of_lt (Nat.zero_le _) (List.getElem?_eq_some_iff.1 hk).1)
    injection e with e
    injection e with e
    subst e
    exact hl
  have p1 := h.put hk hg (fun b hb => ⟨fun e => by have := hrow b hb; omega, fun i r hi hik e => by have := hrow b hb; have := (h.wblock hi b e).2; omega⟩) ⟨ws3, q.synced, q.full, A3, c3⟩ 0 (.slice A3 ws3.length c3) (by omega) rfl ho
    (fun i r hi hik b hb e => by have := hat b e; have := (h.wblock hi b hb).2; omega)
  have hl : k < qs.length := (List.getElem?_eq_some_iff.1 hk).1
  have p2 := p1.1.put_in (k := k) (q := ⟨ws3, q.synced, q.full, A3, c3⟩) (by rw [List.getElem?_set_self hl]) ⟨ws3, sy, q.full, A3, c3⟩ 1 (.int .i64 sy) (by omega) rfl rfl rfl rfl
  rw [List.set_set] at p2
  exact ⟨p2.1, grown_trans' p1.2 p2.2, p1⟩

end Go.Proofs.Ytcocboigjfjnfaa
