/-
  What the walks of the exact laws on scans keep: the argument, the model's result, the copy that was handed over, the program's result. From XExZ0.
-/
import Derived.Test.YtcocboigjfjnfacExMZ
import Derived.Test.YtcocboigjfjnfacExMN
import Derived.Test.YtcocboigjfjnfacExHN
import Derived.Test.YtcocboigjfjnfacSpecN1
namespace Go.Proofs.Ytcocboigjfjnfac
open Go.RowKit
set_option linter.unusedVariables false
set_option maxRecDepth 100000

theorem row_sameN {w w' : World} {base s n : Nat} {t : TypeId} {v : Value} {xs : List Value} (h : w.ownsRow base t s v n xs) (hs : ∀ b, v.ownBlock = some b → w'.heap[b]? = w.heap[b]?) : w'.ownsRow base t s v n xs :=
  ⟨h.1, by
    rcases h.2 with h0 | ⟨g, cap, cur, hv, hb, hh, r⟩
    · exact .inl h0
    · exact .inr ⟨g, cap, cur, hv, hb, (hs g (by rw [hv]; rfl)).trans hh, r⟩⟩
theorem OwnF.above {w w' : World} {base lo hi n c : Nat} {A : Option Addr} {qs : List Fq} (h : OwnF w base A n c qs) (hc : Chg lo hi w w') (hb : hi ≤ base) : OwnF w' base A n c qs :=
  ⟨h.len, row_sameN h.row fun b e => hc.above b (by have := (h.block b e).1; omega) (h.block b e).2,
    fun k q hk => ⟨(h.own k q hk).1, row_sameN (h.own k q hk).2 fun b e => hc.above b (by have := (h.wblock hk b e).1; omega) (h.wblock hk b e).2⟩, h.sep⟩

structure ZN (w W : World) (B1 B4 B5 : Nat) (A : Option Addr) (n : Nat) (qs : List Zq) (A1 : Option Addr) (m1 : Nat) (rs : List Fq) (A4 : Option Addr) (n4 c4 : Nat) (ys : List Zq) (A5 : Option Addr) (n5 c5 : Nat) (gs : List Fq) : Prop where
  i : Zns W w.heap.size A n qs
  w1 : Fnds W B1 A1 m1 rs
  o4 : OwnZ W B4 A4 n4 c4 ys
  l4 : Lim A4 n4 c4 ys B5
  g5 : OwnF W B5 A5 n5 c5 gs
  b : Below w.heap.size w W
  le0 : w.heap.size ≤ B1
  le1 : B1 ≤ B4
  le2 : B4 ≤ B5
  le3 : B5 ≤ W.heap.size
structure YN (w W : World) (B1 B5 : Nat) (A : Option Addr) (n : Nat) (qs : List Zq) (A1 : Option Addr) (m1 : Nat) (rs : List Fq) (A5 : Option Addr) (n5 c5 : Nat) (gs : List Fq) : Prop where
  i : Zns W w.heap.size A n qs
  w1 : Fnds W B1 A1 m1 rs
  g5 : OwnF W B5 A5 n5 c5 gs
  b : Below w.heap.size w W
  le0 : w.heap.size ≤ B1
  le2 : B1 ≤ B5
  le3 : B5 ≤ W.heap.size
section
variable {w W W' : World} {B1 B4 B5 n m1 n4 c4 n5 c5 : Nat} {A A1 A4 A5 : Option Addr} {qs ys : List Zq} {rs gs : List Fq}
theorem ZN.below (h : ZN w W B1 B4 B5 A n qs A1 m1 rs A4 n4 c4 ys A5 n5 c5 gs) (hb : Below W.heap.size W W') : ZN w W' B1 B4 B5 A n qs A1 m1 rs A4 n4 c4 ys A5 n5 c5 gs :=
  { i := h.i.below hb h.b.size, w1 := h.w1.below hb (by have := h.le1; have := h.le2; have := h.le3; omega), o4 := h.o4.below hb, l4 := h.l4, g5 := h.g5.below hb, b := h.b.trans (hb.mono h.b.size)
    le0 := h.le0, le1 := h.le1, le2 := h.le2, le3 := Nat.le_trans h.le3 hb.size }
theorem ZN.mark4 (h : ZN w W B1 B4 B5 A n qs A1 m1 rs A4 n4 c4 ys A5 n5 c5 gs) (hc : Chg B4 B5 W W') : YN w W' B1 B5 A n qs A1 m1 rs A5 n5 c5 gs :=
  { i := h.i.below hc.below (by have := h.le0; have := h.le1; omega), w1 := h.w1.below hc.below h.le1, g5 := h.g5.above hc (Nat.le_refl _), b := h.b.trans (hc.below.mono (by have := h.le0; have := h.le1; omega))
    le0 := h.le0, le2 := Nat.le_trans h.le1 h.le2, le3 := Nat.le_trans h.le3 hc.below.size }
theorem YN.below (h : YN w W B1 B5 A n qs A1 m1 rs A5 n5 c5 gs) (hb : Below W.heap.size W W') : YN w W' B1 B5 A n qs A1 m1 rs A5 n5 c5 gs :=
  { i := h.i.below hb h.b.size, w1 := h.w1.below hb (by have := h.le2; have := h.le3; omega), g5 := h.g5.below hb, b := h.b.trans (hb.mono h.b.size)
    le0 := h.le0, le2 := h.le2, le3 := Nat.le_trans h.le3 hb.size }
theorem YN.mark5 {gs' : List Fq} {hi : Nat} (h : YN w W B1 B5 A n qs A1 m1 rs A5 n5 c5 gs) (ho : OwnF W' B5 A5 n5 c5 gs') (hc : Chg B5 hi W W') : YN w W' B1 B5 A n qs A1 m1 rs A5 n5 c5 gs' :=
  { i := h.i.below hc.below (by have := h.le0; have := h.le2; omega), w1 := h.w1.below hc.below h.le2, g5 := ho, b := h.b.trans (hc.below.mono (by have := h.le0; have := h.le2; omega))
    le0 := h.le0, le2 := h.le2, le3 := Nat.le_trans h.le3 hc.below.size }
end

/-- no more than a thousand frames, each with no more than 2^20 words -/
def SmallFn (fs : List Fn) : Prop := fs.length ≤ 1000 ∧ ∀ f ∈ fs, f.2.2.2.2.length ≤ 1048576
theorem smallFn_nil : SmallFn [] := ⟨by simp, by simp⟩
theorem smallFn_scanW (z : Int) (xs : List Int) (h : xs.length ≤ 64) : SmallFn (scanW z xs 0).1 := by
  refine ⟨by have := scan_count z xs 0; omega, fun f hf => ?_⟩
  obtain ⟨b, hg, rfl⟩ := scan_mem z xs 0 f hf
  have := good_len hg
  unfold fnAt cutW
  simp only [List.length_take, List.length_drop]
  omega
theorem devV_short {d : Dev} (hv : devV d = true) (k : Nat) : (d.getD k ([], 0, false)).1.length ≤ 64 := by
  rcases hd : d[k]? with _ | q
  · simp [List.getD, hd]
  · unfold devV at hv
    rw [Bool.and_eq_true] at hv
    have h := List.all_eq_true.1 hv.1 q (List.mem_of_getElem? hd)
    unfold zoneOk at h
    simp at h
    simp only [List.getD, hd, Option.getD_some]
    omega
theorem smallFn_scanZ (d : Dev) (z : Int) : SmallFn (scanZ d z).1 := by
  unfold scanZ
  split
  · next h =>
    rw [Bool.and_eq_true] at h
    exact smallFn_scanW z _ (devV_short h.1 _)
  · exact smallFn_nil
theorem SmallFn.len {qs : List Fq} (h : SmallFn (fns qs)) : qs.length ≤ 1000 := by have := h.1; rwa [fns_length] at this
theorem SmallFn.words {qs : List Fq} (h : SmallFn (fns qs)) : ∀ q ∈ qs, q.vals.length ≤ 1048576 := fun q hq => h.2 q.fn (List.mem_map_of_mem hq)
end Go.Proofs.Ytcocboigjfjnfac
