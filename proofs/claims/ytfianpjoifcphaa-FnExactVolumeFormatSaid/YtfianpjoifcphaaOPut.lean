/-
  A row of objects of the call's own: cells and values of one object turned. Plain.
-/
import Derived.Test.YtfianpjoifcphaaObj
namespace Go.Proofs.Ytfianpjoifcphaa
open Go.RowKit
set_option linter.unusedVariables false
set_option maxRecDepth 100000

theorem OwnO.at_ {w : World} {base g n c k : Nat} {qs : List Oq} {q : Oq} (h : OwnO w base (some ⟨g, 0, none⟩) n c qs) (hk : qs[k]? = some q) :
    w.cell? ⟨g, k * 2, none⟩ = some (.int .i64 q.id) ∧ w.cell? ⟨g, k * 2 + 1, none⟩ = some q.sl := by
  obtain ⟨ad, p, e, hp, _, h0, h1⟩ := h.objs.at_ hk
  injection e with e
  subst e
  rw [add_plain'] at hp
  subst hp
  exact ⟨h0, h1⟩
theorem obs_set (qs : List Oq) (k : Nat) (q : Oq) : obs (qs.set k q) = (obs qs).set k q.ob := by unfold obs; rw [List.map_set]
theorem set_same {l : List Value} {i : Nat} {v : Value} (h : l[i]? = some v) : l.set i v = l := by
  apply List.ext_getElem?
  intro j
  rw [List.getElem?_set]
  split
  · next e =>
    subst e
    split
    · exact h.symm
    · next h2 => exact absurd ((List.getElem?_eq_some_iff.1 h).1) h2
  · rfl

theorem OwnO.put {w w3 : World} {base g n c k : Nat} {qs : List Oq} {q : Oq} {row : Option Nat} (h : OwnO w base (some ⟨g, 0, none⟩) n c qs) (hk : qs[k]? = some q) (hg : w.grownBy w3 row)
    (hrow : ∀ b, row = some b → b ≠ g ∧ ∀ (i : Nat) (r : Oq), qs[i]? = some r → i ≠ k → r.sl.ownBlock ≠ some b) (q' : Oq) (j : Nat) (v : Value) (hj : j < 2) (hv : q'.cells = q.cells.set j v)
    (hq' : Own w3 base q'.addr q'.vals.length q'.cap q'.vals) (hsep : ∀ (i : Nat) (r : Oq), qs[i]? = some r → i ≠ k → ∀ b, r.sl.ownBlock = some b → q'.sl.ownBlock ≠ some b) :
    OwnO (w3.setCell ⟨g, k * 2 + j, none⟩ v) base (some ⟨g, 0, none⟩) n c (qs.set k q') ∧ w3.grownBy (w3.setCell ⟨g, k * 2 + j, none⟩ v) (some g) := by
  have hob : (Value.slice (some (⟨g, 0, none⟩ : Addr)) n c).ownBlock = some g := rfl
  have hr := h.row.kept hg (by
    rcases row with _ | b
    · exact .inr (by rw [hob]; simp)
    · exact .inr (by rw [hob]; intro e; injection e with e; exact (hrow b rfl).1 e.symm))
  have hst := hr.stored (k * 2 + j) v
  rw [flatO_set hk j v hj hv] at hst
  refine ⟨⟨by rw [List.length_set]; exact h.len, hst.1, fun i r hi => ?_, fun i i' r r' hi hi' hii b hb => ?_⟩, hst.2⟩
  · rw [List.getElem?_set] at hi
    split at hi
    · split at hi
      · injection hi with hi
        subst hi
        exact hq'.kept hst.2 (fun b hb => by injection hb with hb; subst hb; exact rows_neO hr hq'.2 (by decide) hob)
      · cases hi
    · next hne =>
      have ho := (h.own i r hi).kept hg (fun b hb => (hrow b hb).2 i r hi (fun e => hne e.symm))
      exact ho.kept hst.2 (fun b hb => by injection hb with hb; subst hb; exact rows_neO hr ho.2 (by decide) hob)
  · rw [List.getElem?_set] at hi hi'
    split at hi
    · next e1 =>
      split at hi
      · injection hi with hi
        subst hi
        split at hi'
        · next e2 => exact absurd (e1.symm.trans e2) hii
        · next e2 => exact fun e => hsep i' r' hi' (fun e3 => e2 e3.symm) b e hb
      · cases hi
    · next e1 =>
      split at hi'
      · split at hi'
        · injection hi' with hi'
          subst hi'
          exact hsep i r hi (fun e3 => e1 e3.symm) b hb
        · cases hi'
      · exact h.sep i i' r r' hi hi' hii b hb

/-- .. where its values stay -/
theorem OwnO.put_in {w : World} {base g n c k : Nat} {qs : List Oq} {q : Oq} (h : OwnO w base (some ⟨g, 0, none⟩) n c qs) (hk : qs[k]? = some q) (q' : Oq) (j : Nat) (v : Value) (hj : j < 2) (hv : q'.cells = q.cells.set j v)
    (h1 : q'.vals = q.vals) (h2 : q'.addr = q.addr) (h3 : q'.cap = q.cap) :
    OwnO (w.setCell ⟨g, k * 2 + j, none⟩ v) base (some ⟨g, 0, none⟩) n c (qs.set k q') ∧ w.grownBy (w.setCell ⟨g, k * 2 + j, none⟩ v) (some g) := by
  refine h.put hk (World.grownBy.refl w none) (by simp) q' j v hj hv ?_ ?_
  · rw [h1, h2, h3]; exact h.own k q hk
  · intro i r hi hik b hb
    have e : q'.sl = q.sl := by unfold Oq.sl; rw [h1, h2, h3]
    rw [e]
    exact h.sep i k r q hi hk hik b hb

/-- .. where only its values are turned -/
theorem OwnO.reval {w w3 : World} {base g n c k : Nat} {qs : List Oq} {q : Oq} {row : Option Nat} (h : OwnO w base (some ⟨g, 0, none⟩) n c qs) (hk : qs[k]? = some q) (hg : w.grownBy w3 row)
    (hrow : ∀ b, row = some b → b ≠ g ∧ ∀ (i : Nat) (r : Oq), qs[i]? = some r → i ≠ k → r.sl.ownBlock ≠ some b) (ws : List Int) (hl : ws.length = q.vals.length) (hq' : Own w3 base q.addr q.vals.length q.cap ws) :
    OwnO w3 base (some ⟨g, 0, none⟩) n c (qs.set k ⟨q.id, ws, q.addr, q.cap⟩) := by
  have hob : (Value.slice (some (⟨g, 0, none⟩ : Addr)) n c).ownBlock = some g := rfl
  have hr := h.row.kept hg (by
    rcases row with _ | b
    · exact .inr (by rw [hob]; simp)
    · exact .inr (by rw [hob]; intro e; injection e with e; exact (hrow b rfl).1 e.symm))
  have hsl : (Oq.sl ⟨q.id, ws, q.addr, q.cap⟩) = q.sl := by unfold Oq.sl; simp only [hl]
  have he : flatO (qs.set k ⟨q.id, ws, q.addr, q.cap⟩) = flatO qs := by
    rw [← flatO_set (q' := ⟨q.id, ws, q.addr, q.cap⟩) hk 0 (.int .i64 q.id) (by omega) (by unfold Oq.cells; rw [hsl]; rfl)]
    exact set_same (by rw [flatO_get hk 0 (by omega)]; rfl)
  refine ⟨by rw [List.length_set]; exact h.len, by rw [he]; exact hr, fun i r hi => ?_, fun i i' r r' hi hi' hii b hb => ?_⟩
  · rw [List.getElem?_set] at hi
    split at hi
    · split at hi
      · injection hi with hi
        subst hi
        simp only [hl]
        exact hq'
      · cases hi
    · next hne => exact (h.own i r hi).kept hg (fun b hb => (hrow b hb).2 i r hi (fun e => hne e.symm))
  · have back : ∀ {i : Nat} {r : Oq}, (qs.set k ⟨q.id, ws, q.addr, q.cap⟩)[i]? = some r → ∃ r0, qs[i]? = some r0 ∧ r.sl = r0.sl := by
      intro i r hi
      rw [List.getElem?_set] at hi
      split at hi
      · next e =>
        split at hi
        · injection hi with hi
          subst hi
          subst e
          exact ⟨q, hk, hsl⟩
        · cases hi
      · exact ⟨r, hi, rfl⟩
    obtain ⟨r0, hr0, e0⟩ := back hi
    obtain ⟨r1, hr1, e1⟩ := back hi'
    rw [e0] at hb
    rw [e1]
    exact h.sep i i' r0 r1 hr0 hr1 hii b hb

/-- an object laid anew, its values in a new row -/
theorem OwnO.anew {w w3 : World} {base g n c k c3 : Nat} {qs : List Oq} {q : Oq} {A3 : Option Addr} {ws3 : List Int} {row : Option Nat} (h : OwnO w base (some ⟨g, 0, none⟩) n c qs) (hk : qs[k]? = some q) (hg : w.grownBy w3 row)
    (hrow : ∀ b, row = some b → w.heap.size ≤ b) (ho : Own w3 base A3 ws3.length c3 ws3) (hat : ∀ b, (Value.slice A3 ws3.length c3).ownBlock = some b → w.heap.size ≤ b) (id : Int) :
    OwnO ((w3.setCell ⟨g, k * 2, none⟩ (.int .i64 id)).setCell ⟨g, k * 2 + 1, none⟩ (.slice A3 ws3.length c3)) base (some ⟨g, 0, none⟩) n c (qs.set k ⟨id, ws3, A3, c3⟩) ∧
      w3.grownBy ((w3.setCell ⟨g, k * 2, none⟩ (.int .i64 id)).setCell ⟨g, k * 2 + 1, none⟩ (.slice A3 ws3.length c3)) (some g) := by
  have hlt : g < w.heap.size := by
    obtain ⟨g', e, _, hl⟩ := h.shape (by rw [← h.len]; exact Nat.lt_of_le_of_lt (Nat.zero_le _) (List.getElem?_eq_some_iff.1 hk).1)
    injection e with e
    injection e with e
    subst e
    exact hl
  have hrw : ∀ b, row = some b → b ≠ g ∧ ∀ (i : Nat) (r : Oq), qs[i]? = some r → i ≠ k → r.sl.ownBlock ≠ some b :=
    fun b hb => ⟨fun e => by have := hrow b hb; omega, fun i r hi hik e => by have := hrow b hb; have := (h.wblock hi b e).2; omega⟩
  have hqk : Own w3 base q.addr q.vals.length q.cap q.vals := (h.own k q hk).kept hg (fun b hb e => by have := hrow b hb; have := (h.wblock hk b e).2; omega)
  have p1 := h.put hk hg hrw ⟨id, q.vals, q.addr, q.cap⟩ 0 (.int .i64 id) (by omega) rfl hqk (fun i r hi hik b hb => h.sep i k r q hi hk hik b hb)
  have hl : k < qs.length := (List.getElem?_eq_some_iff.1 hk).1
  have p2 := p1.1.put (k := k) (q := ⟨id, q.vals, q.addr, q.cap⟩) (by rw [List.getElem?_set_self hl]) (World.grownBy.refl _ none) (by simp) ⟨id, ws3, A3, c3⟩ 1 (.slice A3 ws3.length c3) (by omega) rfl
    (ho.kept p1.2 (fun b hb => by injection hb with hb; subst hb; exact rows_neO (h.row.kept hg (by
      rcases row with _ | b
      · exact .inr (by show (some g : Option Nat) ≠ none; simp)
      · exact .inr (by show (some g : Option Nat) ≠ some b; intro e; injection e with e; exact (hrw b rfl).1 e.symm))) ho.2 (by decide) rfl))
    (fun i r hi hik b hb e => by
      rw [List.getElem?_set, if_neg (fun e2 => hik e2.symm)] at hi
      have := hat b e
      have := (h.wblock hi b hb).2
      omega)
  rw [List.set_set] at p2
  exact ⟨p2.1, grown_trans' p1.2 p2.2⟩
end Go.Proofs.Ytfianpjoifcphaa
