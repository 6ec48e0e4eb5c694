/-
  A map of slices by numbers: what a map that the call has made gives at each number ('Shelf'). Plain.
-/
import Derived.Test.YtfianpjoifcphaaGreatG1
import Derived.Maps.Own
import Derived.Maps.OwnOps
import Derived.Maps.OwnSet
import Derived.Maps.Views
import Derived.Maps.Range
import Derived.Lib.SlKeysI
namespace Go.Proofs.YtfianpjoifcphaaGreat
open Go.RowKit Go.Maps
set_option linter.unusedVariables false
set_option maxRecDepth 100000

/-- a slice in a map: it stands for itself -/
def RV (v : Value) : Option (DataW Value × List MemPlace) := some (.held v, [])
theorem keyI : Keyed Tryz.prog 3 := int_keyed Tryz.underlying3
theorem keyW {x : Int} (h0 : -9223372036854775808 ≤ x) (h1 : x ≤ 9223372036854775807) : keyOf Tryz.prog 3 (.int .i64 x) = some (.int .i64 x) := keyOf_int_mk Tryz.underlying3 (WalkArith.wf_i64 (by omega))

/-- block b is a map of at most N entries, that gives at number x what f says -/
def Shelf (w : World) (b N : Nat) (f : Int → Option Value) : Prop :=
  ∃ n D, w.ownsMap Tryz.prog 3 RV b n D ∧ n ≤ N ∧ (∀ x, has D (.int .i64 x) = (f x).isSome) ∧ ∀ x v, f x = some v → ∀ z, D.atKey (.int .i64 x) z = .held v

section
variable {w w' : World} {b N : Nat} {f : Int → Option Value}
theorem Shelf.made (w : World) : Shelf (w.alloc (.map #[] 0)) w.heap.size 0 (fun _ => none) :=
  ⟨0, .map [], World.ownsMap_made w _ _ _, Nat.le_refl _, fun _ => rfl, fun _ _ h => by cases h⟩
theorem Shelf.lt (h : Shelf w b N f) : b < w.heap.size := by obtain ⟨n, D, ho, _⟩ := h; exact ho.lt
theorem Shelf.mono (h : Shelf w b N f) {M : Nat} (hM : N ≤ M) : Shelf w b M f := by obtain ⟨n, D, ho, hn, r⟩ := h; exact ⟨n, D, ho, Nat.le_trans hn hM, r⟩
theorem Shelf.kept {row : Option Nat} (h : Shelf w b N f) (hg : w.grownBy w' row) (hne : ∀ k, row = some k → b ≠ k) : Shelf w' b N f := by
  obtain ⟨n, D, ho, r⟩ := h
  exact ⟨n, D, ho.kept hg (fun e => hne b e.symm rfl), r⟩
theorem Shelf.below {B : Nat} (h : Shelf w b N f) (hb : Below B w w') (hB : b < B) : Shelf w' b N f := by
  obtain ⟨n, D, ⟨es, clock, hh, F, hs, hD⟩, r⟩ := h
  exact ⟨n, D, ⟨es, clock, (hb.block b hB).trans hh, F, hs, hD⟩, r⟩
theorem Shelf.alloc (h : Shelf w b N f) (o : Obj) : Shelf (w.alloc o) b N f := h.kept (World.grownBy_alloc w o none) (by simp)
theorem Shelf.drewN (h : Shelf w b N f) (k : Nat) : Shelf (w.drewN k) b N f := h.kept ⟨rfl, rfl, rfl, Nat.le_refl _, fun _ _ _ => rfl⟩ (row := none) (by simp)
theorem Shelf.ext {g : Int → Option Value} (h : Shelf w b N f) (he : ∀ x, f x = g x) : Shelf w b N g := by
  have : f = g := funext he
  exact this ▸ h

theorem isKey (x : Int) : WideAt.IsKeyLit (.int .i64 x) := by trivial

/-- 'm[x] = v' -/
theorem Shelf.put (h : Shelf w b N f) (hN : N ≤ 17592186044416) {x : Int} (v : Value) (h0 : -9223372036854775808 ≤ x) (h1 : x ≤ 9223372036854775807) :
    ∃ w', (Instr.mapUpdate 79 (.map (some b)) (.int .i64 x) v).run Tryz.prog w = .ok () w' ∧ Shelf w' b (N + 1) (fun y => if y = x then some v else f y) ∧ w.grownBy w' (some b) := by
  obtain ⟨n, D, ho, hn, hh, ha⟩ := h
  obtain ⟨w', hrun, ho', hg⟩ := ho.update keyI Tryz.underlying79 (by unfold maxLen; omega) (keyW h0 h1) (d := .held v) (ps := []) rfl
  refine ⟨w', hrun, ⟨n + 1, _, ho', by omega, fun y => ?_, fun y u hu z => ?_⟩, hg⟩
  · by_cases hy : y = x
    · subst hy
      rw [has_put_same ho.isMap (isKey y)]
      simp
    · rw [has_put_other (fun e => hy (by injection e)), hh]
      simp [hy]
  · by_cases hy : y = x
    · subst hy
      simp only [if_pos] at hu
      injection hu with hu
      subst hu
      exact atKey_put_same ho.isMap (isKey y) _ z
    · simp only [if_neg hy] at hu
      rw [atKey_put_other (fun e => hy (by injection e))]
      exact ha y u hu z

theorem zeroSl (w : World) : (zeroValue 27).run Tryz.prog w = .ok (.slice none 0 0) w := by kernel_rfl

/-- 'v, ok := m[x]' -/
theorem Shelf.look_ok (h : Shelf w b N f) {x : Int} (h0 : -9223372036854775808 ≤ x) (h1 : x ≤ 9223372036854775807) :
    (Instr.lookup 79 (.map (some b)) (.int .i64 x) true).run Tryz.prog w = .ok (.tuple #[(f x).getD (.slice none 0 0), .bool (f x).isSome]) w := by
  obtain ⟨n, D, ho, hn, hh, ha⟩ := h
  obtain ⟨v, ps, hrun, hv⟩ := ho.look_ok keyI Tryz.underlying79 (zeroSl w) (zd := .held (.slice none 0 0)) (zp := []) rfl (keyW h0 h1)
  rw [hrun, hh x]
  rcases hf : f x with _ | u
  · have e := atKey_of_not_has (D := D) (k := .int .i64 x) (by rw [hh x, hf]; rfl) (.held (.slice none 0 0))
    rw [e] at hv
    unfold RV at hv
    simp at hv
    rw [hv.1]
    rfl
  · rw [ha x u hf] at hv
    unfold RV at hv
    simp at hv
    rw [hv.1]
    rfl
/-- 'm[x]' -/
theorem Shelf.look (h : Shelf w b N f) {x : Int} (h0 : -9223372036854775808 ≤ x) (h1 : x ≤ 9223372036854775807) :
    (Instr.lookup 79 (.map (some b)) (.int .i64 x) false).run Tryz.prog w = .ok ((f x).getD (.slice none 0 0)) w := by
  obtain ⟨n, D, ho, hn, hh, ha⟩ := h
  obtain ⟨v, ps, hrun, hv⟩ := ho.lookup keyI Tryz.underlying79 (zeroSl w) (zd := .held (.slice none 0 0)) (zp := []) rfl (keyW h0 h1)
  rw [hrun]
  rcases hf : f x with _ | u
  · have e := atKey_of_not_has (D := D) (k := .int .i64 x) (by rw [hh x, hf]; rfl) (.held (.slice none 0 0))
    rw [e] at hv
    unfold RV at hv
    simp at hv
    rw [hv.1]
    rfl
  · rw [ha x u hf] at hv
    unfold RV at hv
    simp at hv
    rw [hv.1]
    rfl
end

/-! ### the numbers of a shelf -/
/-- ks are f's numbers, ascending -/
structure Dom (f : Int → Option Value) (ks : List Int) : Prop where
  asc : ks.Pairwise (· < ·)
  mem : ∀ x, x ∈ ks ↔ (f x).isSome = true
theorem Dom.nodup {f : Int → Option Value} {ks : List Int} (h : Dom f ks) : ks.Nodup := h.asc.imp (fun {a b} hab e => by omega)

theorem Shelf.keys {w : World} {b n : Nat} {f : Int → Option Value} {ks : List Int} {D : DataW Value} (hd : Dom f ks) (ho : w.ownsMap Tryz.prog 3 RV b n D) (hh : ∀ x, has D (.int .i64 x) = (f x).isSome) : ks.Perm (intKeys D) := by
  obtain ⟨es, hD, hpw, _⟩ := ho.entries keyI
  obtain ⟨es', hD', hko⟩ := ho.keysOf
  obtain rfl : es = es' := by rw [hD] at hD'; simpa using hD'
  subst hD
  exact perm_intKeys hpw (fun p hp => by obtain ⟨v, hv⟩ := hko p hp; obtain ⟨x, _, hx, _⟩ := Maps.keyOf_i64 Tryz.underlying3 hv; exact ⟨x, hx⟩) hd.nodup (fun x => by rw [hd.mem x, hh x])
theorem size_keys {w : World} {b n : Nat} {f : Int → Option Value} {ks : List Int} {D : DataW Value} (hd : Dom f ks) (ho : w.ownsMap Tryz.prog 3 RV b n D) (hh : ∀ x, has D (.int .i64 x) = (f x).isSome) : Maps.size D = ks.length := by
  have hp := Shelf.keys hd ho hh
  obtain ⟨es, hD, _, _⟩ := ho.entries keyI
  subst hD
  have := hp.length_eq
  simp [intKeys] at this
  simpa [Maps.size] using this.symm
theorem sort_asc {ks : List Int} (h : ks.Pairwise (· < ·)) : ks.mergeSort (fun x y => decide (x ≤ y)) = ks := by
  refine List.mergeSort_of_pairwise (h.imp (fun {a b} hab => by simp; omega))
theorem sort_keys {w : World} {b n : Nat} {f : Int → Option Value} {ks ss : List Int} {D : DataW Value} (hd : Dom f ks) (ho : w.ownsMap Tryz.prog 3 RV b n D) (hh : ∀ x, has D (.int .i64 x) = (f x).isSome) (hs : ss.Perm (intKeys D)) :
    ss.mergeSort (fun x y => decide (x ≤ y)) = ks := by
  rw [← sort_asc hd.asc]
  exact mergeSort_of_perm_i (hs.trans (Shelf.keys hd ho hh).symm)
/-- 'len(m)' -/
theorem Shelf.len {w : World} {b N : Nat} {f : Int → Option Value} {ks : List Int} (h : Shelf w b N f) (hd : Dom f ks) (ty : TypeId) : (Builtin.len_ #[79] ty #[.map (some b)]).run Tryz.prog w = .ok (.int .i64 ks.length) w := by
  obtain ⟨n, D, ho, hn, hh, ha⟩ := h
  rw [ho.len Tryz.underlying79 ty, size_keys hd ho hh]
end Go.Proofs.YtfianpjoifcphaaGreat
