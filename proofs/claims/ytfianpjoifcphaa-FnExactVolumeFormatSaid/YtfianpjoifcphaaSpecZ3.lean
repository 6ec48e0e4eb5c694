/-
  The model's l3Sync, DeviceErase, DeviceAppend.
-/
import Derived.Test.YtfianpjoifcphaaSpecZ2
namespace Go.Proofs.Ytfianpjoifcphaa
open Go.RowKit
set_option linter.unusedVariables false
set_option maxRecDepth 100000

def syncZ (z : List Int × Int × Bool) : List Int × Int × Bool := (z.1, (z.1.length : Int), z.2.2)
def syncD (ds : Dev) : Dev := ds.map syncZ

theorem set_step {α : Type} {s d : List α} {k : Nat} {y : α} (hl : s.length = d.length) (hy : s[k]? = some y) : (s.take k ++ d.drop k).set k y = s.take (k + 1) ++ d.drop (k + 1) := by
  have hk : k < s.length := (List.getElem?_eq_some_iff.1 hy).1
  apply List.ext_getElem?
  intro i
  rw [List.getElem?_set]
  have h1 : (s.take k).length = k := by rw [List.length_take]; omega
  have h2 : (s.take (k + 1)).length = k + 1 := by rw [List.length_take]; omega
  rcases Nat.lt_trichotomy i k with h | h | h
  · rw [if_neg (by omega), List.getElem?_append_left (by omega), List.getElem?_append_left (by omega), List.getElem?_take_of_lt h, List.getElem?_take_of_lt (by omega)]
  · subst h
    rw [if_pos rfl, if_pos (by rw [List.length_append, h1, List.length_drop]; omega), List.getElem?_append_left (by omega), List.getElem?_take_of_lt (by omega), hy]
  · rw [if_neg (by omega), List.getElem?_append_right (by omega), List.getElem?_append_right (by omega), h1, h2, List.getElem?_drop, List.getElem?_drop]
    congr 1
    omega

theorem zns_set (qs : List Zq) (k : Nat) (q : Zq) : zns (qs.set k q) = (zns qs).set k q.zn := by unfold zns; rw [List.map_set]

theorem OwnZ.at_ {w : World} {base g n c k : Nat} {qs : List Zq} {q : Zq} (h : OwnZ w base (some ⟨g, 0, none⟩) n c qs) (hk : qs[k]? = some q) :
    w.cell? ⟨g, k * 3, none⟩ = some q.sl ∧ w.cell? ⟨g, k * 3 + 1, none⟩ = some (.int .i64 q.synced) ∧ w.cell? ⟨g, k * 3 + 2, none⟩ = some (.bool q.full) := by
  obtain ⟨ad, p, e, hp, _, h0, h1, h2⟩ := h.zns.at_ hk
  injection e with e
  subst e
  rw [add_plain'] at hp
  subst hp
  exact ⟨h0, h1, h2⟩

end Go.Proofs.Ytfianpjoifcphaa
