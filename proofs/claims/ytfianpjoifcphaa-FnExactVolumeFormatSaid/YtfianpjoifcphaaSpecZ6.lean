/-
  The model's DeviceCut.
-/
import Derived.Test.YtfianpjoifcphaaSpecZ5
import Derived.Deep.DeepCutAuto
import Derived.Deep.CutBlock
namespace Go.Proofs.Ytfianpjoifcphaa
open Go.RowKit
set_option linter.unusedVariables false
set_option maxRecDepth 100000

def cutOk (ds : Dev) (z n : Int) : Bool := zoneV ds z && (match ds[z.toNat]? with | some q => inB n 0 q.1.length | none => false)
def cutZ (n : Int) (q : List Int × Int × Bool) : List Int × Int × Bool := (q.1.take n.toNat, min q.2.1 n, q.2.2)
def cutD (ds : Dev) (z n : Int) : Dev := if cutOk ds z n then modD ds z (cutZ n) else []
theorem cutOk_no {ds : Dev} {z n : Int} (h : zoneV ds z = false) : cutOk ds z n = false := by unfold cutOk; rw [h]; rfl
theorem cutOk_at {ds : Dev} {k : Nat} {n : Int} {q : List Int × Int × Bool} (h : zoneV ds k = true) (hq : ds[k]? = some q) : cutOk ds k n = inB n 0 q.1.length := by
  unfold cutOk; rw [h]; simp only [Int.toNat_natCast, hq, Bool.true_and]

/-- a zone's words and how many of them last, laid anew -/
theorem OwnZ.anew2 {w w3 : World} {base g n c k c3 : Nat} {qs : List Zq} {q : Zq} {A3 : Option Addr} {ws3 : List Int} {row : Option Nat} (h : OwnZ w base (some ⟨g, 0, none⟩) n c qs) (hk : qs[k]? = some q) (hg : w.grownBy w3 row)
    (hrow : ∀ b, row = some b → w.heap.size ≤ b) (ho : Own w3 base A3 ws3.length c3 ws3) (hat : ∀ b, (Value.slice A3 ws3.length c3).ownBlock = some b → w.heap.size ≤ b) (sy : Int) :
    OwnZ ((w3.setCell ⟨g, k * 3, none⟩ (.slice A3 ws3.length c3)).setCell ⟨g, k * 3 + 1, none⟩ (.int .i64 sy)) base (some ⟨g, 0, none⟩) n c (qs.set k ⟨ws3, sy, q.full, A3, c3⟩) ∧
      w3.grownBy ((w3.setCell ⟨g, k * 3, none⟩ (.slice A3 ws3.length c3)).setCell ⟨g, k * 3 + 1, none⟩ (.int .i64 sy)) (some g) ∧
      OwnZ (w3.setCell ⟨g, k * 3, none⟩ (.slice A3 ws3.length c3)) base (some ⟨g, 0, none⟩) n c (qs.set k ⟨ws3, q.synced, q.full, A3, c3⟩) ∧ w3.grownBy (w3.setCell ⟨g, k * 3, none⟩ (.slice A3 ws3.length c3)) (some g) := by
  have hlt : g < w.heap.size := by
    obtain ⟨g', e, _, hl⟩ := h.shape (by rw [← h.len]; exact Nat.lt_of_le_of_lt (Nat.zero_le _) (List.getElem?_eq_some_iff.1 hk).1)
    injection e with e
    injection e with e
    subst e
    exact hl
  have p1 := h.put hk hg (fun b hb => ⟨fun e => by have := hrow b hb; omega, fun i r hi hik e => by have := hrow b hb; have := (h.wblock hi b e).2; omega⟩) ⟨ws3, q.synced, q.full, A3, c3⟩ 0 (.slice A3 ws3.length c3) (by omega) rfl ho
    (fun i r hi hik b hb e => by have := hat b e; have := (h.wblock hi b hb).2; omega)
  have hl : k < qs.length := (List.getElem?_eq_some_iff.1 hk).1
  have p2 := p1.1.put_in (k := k) (q := ⟨ws3, q.synced, q.full, A3, c3⟩) (by rw [List.getElem?_set_self hl]) ⟨ws3, sy, q.full, A3, c3⟩ 1 (.int .i64 sy) (by omega) rfl rfl rfl rfl
  rw [List.set_set] at p2
  exact ⟨p2.1, grown_trans' p1.2 p2.2, p1⟩

/-- what is known behind the append of a cut -/
theorem cut_kept {w w2 w4 : World} {g k c2 x c4 : Nat} {qs2 : List Zq} {q2 : Zq} {A4 : Option Addr} {ws : List Int} (hO : OwnZ w2 w.heap.size (some ⟨g, 0, none⟩) 4 c2 qs2) (hq : qs2[k]? = some q2) (hB : Below w.heap.size w w2)
    (ho : Own w4 w.heap.size A4 x c4 ws) (hg : (w2.alloc (.cells #[] 3)).grownBy w4 (some w2.heap.size))
    (hat : (Value.slice A4 x c4).ownBlock = (Value.slice (some ⟨w2.heap.size, 0, none⟩) 0 0).ownBlock ∨ (Value.slice A4 x c4).ownBlock = some (w2.alloc (.cells #[] 3)).heap.size) :
    (∀ s : Int, OwnZ ((w4.setCell ⟨g, k * 3, none⟩ (.slice A4 x c4)).setCell ⟨g, k * 3 + 1, none⟩ (.int .i64 s)) w.heap.size (some ⟨g, 0, none⟩) 4 c2 (qs2.set k ⟨ws, s, q2.full, A4, c4⟩) ∧
      w4.grownBy ((w4.setCell ⟨g, k * 3, none⟩ (.slice A4 x c4)).setCell ⟨g, k * 3 + 1, none⟩ (.int .i64 s)) (some g)) ∧
    w4.cell? ⟨g, k * 3, none⟩ = some q2.sl ∧ w4.frozen? ⟨g, k * 3, none⟩ = false ∧ Below w.heap.size w w4 ∧
    (w4.setCell ⟨g, k * 3, none⟩ (.slice A4 x c4)).cell? ⟨g, k * 3 + 1, none⟩ = some (.int .i64 q2.synced) ∧ (w4.setCell ⟨g, k * 3, none⟩ (.slice A4 x c4)).frozen? ⟨g, k * 3 + 1, none⟩ = false ∧
    Below w.heap.size w (w4.setCell ⟨g, k * 3, none⟩ (.slice A4 x c4)) := by
  have hs := hB.size
  have hg0 : w.heap.size ≤ g ∧ g < w2.heap.size := hO.block g rfl
  have hx := ho.1
  subst hx
  have hat' : ∀ b, (Value.slice A4 ws.length c4).ownBlock = some b → w2.heap.size ≤ b := by
    intro b hb
    rw [hb] at hat
    rcases hat with e | e
    · injection e with e; rw [e]; exact Nat.le_refl _
    · injection e with e; rw [e, size_alloc]; omega
  have hK := (hO.alloc (.cells #[] 3)).kept hg (fun b hb => by
    injection hb with hb
    subst hb
    exact ⟨fun e => by have := (hO.block _ e).2; omega, fun j r hj e => by have := (hO.wblock hj _ e).2; omega⟩)
  have hB4 : Below w.heap.size w w4 := (hB.alloc hs (.cells #[] 3)).grown hg (by rw [size_alloc]; omega) (fun b hb => by injection hb with hb; omega)
  have hA := fun s => hO.anew2 (w3 := w4) (c3 := c4) (A3 := A4) (row := some w2.heap.size) hq ((World.grownBy_alloc w2 (.cells #[] 3) (some w2.heap.size)).trans hg) (fun b hb => by injection hb with hb; omega) ho hat' s
  have h3 := (hA 0).2.2.1
  have hl : k < qs2.length := (List.getElem?_eq_some_iff.1 hq).1
  have hqk : (qs2.set k ⟨ws, q2.synced, q2.full, A4, c4⟩)[k]? = some ⟨ws, q2.synced, q2.full, A4, c4⟩ := by rw [List.getElem?_set_self hl]
  exact ⟨fun s => ⟨(hA s).1, (hA s).2.1⟩, (hK.at_ hq).1, hK.free, hB4, (h3.at_ hqk).2.1, h3.free, hB4.grown (hA 0).2.2.2 hB4.size (fun b hb => by injection hb with hb; omega)⟩

end Go.Proofs.Ytfianpjoifcphaa
