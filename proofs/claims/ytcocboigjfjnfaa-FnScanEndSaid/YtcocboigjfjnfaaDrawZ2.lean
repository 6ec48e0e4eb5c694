/-
  Drawn devices: l91Device's rounds.
-/
import Derived.Test.YtcocboigjfjnfaaDrawZ1
import Derived.Test.YtcocboigjfjnfaaSpecZ4
import Derived.Test.YtcocboigjfjnfaaFrameP
namespace Go.Proofs.Ytcocboigjfjnfaa
open Go.RowKit
set_option linter.unusedVariables false
set_option maxRecDepth 100000

/-- what l91Device knows at each step -/
structure DZ (L : Nat) (w0 w : World) (R : Nat) (p : Int) (A : Option Addr) (c : Nat) (qs : List Zq) : Prop where
  rd : Rd w R p
  rlt : R < w0.heap.size
  own : OwnZ w w0.heap.size A 4 c qs
  len : ∀ q ∈ qs, q.words.length ≤ L
  grown : w0.grownBy w (some R)
theorem DZ.size {L : Nat} {w0 w : World} {R c : Nat} {p : Int} {A : Option Addr} {qs : List Zq} (h : DZ L w0 w R p A c qs) : w0.heap.size ≤ w.heap.size := h.grown.size
theorem DZ.pick {L : Nat} {w0 w w' : World} {R c : Nat} {p p' : Int} {A : Option Addr} {qs : List Zq} (h : DZ L w0 w R p A c qs) (hr : Rd w' R p') (hg : w.grownBy w' (some R)) : DZ L w0 w' R p' A c qs :=
  { rd := hr, rlt := h.rlt, len := h.len, grown := grown_trans' h.grown hg,
    own := h.own.kept hg (by
      intro q hq
      injection hq with hq
      subst hq
      exact ⟨fun e => by have := (h.own.block _ e).1; have := h.rlt; omega, fun k r hk e => by have := (h.own.wblock hk _ e).1; have := h.rlt; omega⟩) }
/-- behind a call that makes new memory alone -/
theorem DZ.below {L : Nat} {w0 w w' : World} {R c : Nat} {p : Int} {A : Option Addr} {qs : List Zq} (h : DZ L w0 w R p A c qs) (hb : Below w.heap.size w w') : DZ L w0 w' R p A c qs :=
  { rd := h.rd.below hb, rlt := h.rlt, own := h.own.below hb, len := h.len, grown := grown_own h.grown (grown_of_below hb none) (by simp) }
/-- .. and hands back another device -/
theorem DZ.swap {L : Nat} {w0 w w' : World} {R c c' : Nat} {p : Int} {A A' : Option Addr} {qs qs' : List Zq} (h : DZ L w0 w R p A c qs) (hb : Below w.heap.size w w') (ho : OwnZ w' w.heap.size A' 4 c' qs') (hl : ∀ q ∈ qs', q.words.length ≤ L) : DZ L w0 w' R p A' c' qs' :=
  { rd := h.rd.below hb, rlt := h.rlt, own := ho.mono h.size, len := hl, grown := grown_own h.grown (grown_of_below hb none) (by simp) }
/-- behind a store into the device's own blocks -/
theorem DZ.stored {L : Nat} {w0 w w' : World} {R g c : Nat} {p : Int} {A : Option Addr} {qs qs' : List Zq} (h : DZ L w0 w R p A c qs) (hg : w.grownBy w' (some g)) (hg0 : w0.heap.size ≤ g) (ho : OwnZ w' w0.heap.size A 4 c qs') (hl : ∀ q ∈ qs', q.words.length ≤ L) : DZ L w0 w' R p A c qs' :=
  { rd := h.rd.grown hg (fun b hb => by injection hb with hb; have := h.rlt; omega), rlt := h.rlt, own := ho, len := hl, grown := grown_own h.grown hg (fun b hb => by injection hb with hb; omega) }
theorem DZ.drewN {L : Nat} {w0 w : World} {R c : Nat} {p : Int} {A : Option Addr} {qs : List Zq} (h : DZ L w0 w R p A c qs) (k : Nat) : DZ L w0 (w.drewN k) R p A c qs :=
  { rd := h.rd.drewN k, rlt := h.rlt, own := h.own.drewN k, len := h.len, grown := grown_drewN h.grown k }
theorem DZ.more {L L' : Nat} {w0 w : World} {R c : Nat} {p : Int} {A : Option Addr} {qs : List Zq} (h : DZ L w0 w R p A c qs) (hl : L ≤ L') : DZ L' w0 w R p A c qs :=
  { rd := h.rd, rlt := h.rlt, own := h.own, len := fun q hq => Nat.le_trans (h.len q hq) hl, grown := h.grown }
/-- behind 'd[j].Words = append(d[j].Words, x)', the new word in a new block -/
theorem DZ.word {L : Nat} {w0 w w8 : World} {R g c j l : Nat} {p : Int} {qs : List Zq} {q : Zq} {o : Obj} {A8 : Option Addr} {c8 : Nat} {ws8 : List Int} (h : DZ L w0 w R p (some ⟨g, 0, none⟩) c qs) (hq : qs[j]? = some q) (hg : (w.alloc o).grownBy w8 q.sl.ownBlock)
    (ho : Own w8 w0.heap.size A8 l c8 ws8) (hat : (Value.slice A8 l c8).ownBlock = q.sl.ownBlock ∨ (Value.slice A8 l c8).ownBlock = some (w.alloc o).heap.size) (hl : l ≤ L) :
    w8.cell? ⟨g, j * 3, none⟩ = some q.sl ∧ w8.frozen? ⟨g, j * 3, none⟩ = false ∧ DZ L w0 (w8.setCell ⟨g, j * 3, none⟩ (.slice A8 l c8)) R p (some ⟨g, 0, none⟩) c (qs.set j ⟨ws8, q.synced, q.full, A8, c8⟩) := by
  have ha := (h.own.alloc o).after hq hg
  have hw := (h.own.alloc o).wrote hq hg ho hat
  have hlen := ho.1
  have hg0 : w0.heap.size ≤ g := (h.own.block g rfl).1
  have hrl := h.rlt
  have hqb := h.own.wblock hq
  have hG1 : w0.grownBy w8 (some R) := grown_own (grown_alloc h.grown o) hg (fun b hb => (hqb b hb).1)
  refine ⟨ha.1, ha.2, { rd := ?_, rlt := hrl, own := hw.1, len := ?_, grown := grown_own hG1 hw.2 (fun b hb => by injection hb with hb; omega) }⟩
  · exact ((h.rd.alloc o).grown hg (fun b hb => by have := (hqb b hb).1; omega)).grown hw.2 (fun b hb => by injection hb with hb; omega)
  · intro r hr
    rcases List.mem_or_eq_of_mem_set hr with hr | rfl
    · exact h.len r hr
    · show ws8.length ≤ L
      omega
theorem len_zns {qs : List Zq} {ds : Dev} (h : zns qs = ds) (hl : ∀ z ∈ ds, z.1.length ≤ 64) : ∀ q ∈ qs, q.words.length ≤ 64 := fun q hq => by
  have := hl q.zn (by rw [← h]; exact List.mem_map_of_mem hq)
  exact this
theorem len_zns' {qs : List Zq} (hl : ∀ q ∈ qs, q.words.length ≤ 64) : ∀ z ∈ zns qs, z.1.length ≤ 64 := fun z hz => by
  obtain ⟨q, hq, rfl⟩ := List.mem_map.1 hz
  exact hl q hq
theorem new_len {qs : List Zq} (h : zns qs = List.replicate 4 zone0) : ∀ q ∈ qs, q.words.length ≤ 64 := len_zns h (fun z hz => by rw [(List.mem_replicate.1 hz).2]; exact Nat.zero_le _)
/-- an appended device has four zones, or none -/
theorem append_len {ds : Dev} {z : Int} {ws : List Int} (h4 : ds.length = 4) (hl : ∀ q ∈ ds, q.1.length ≤ 64) : (appendD ds z ws).length = 4 ∧ (∀ q ∈ appendD ds z ws, q.1.length ≤ 64) ∨ appendD ds z ws = [] := by
  unfold appendD
  split
  · left
    split
    · next q hq =>
      split
      · next hr =>
        simp only [Bool.and_eq_true, decide_eq_true_eq] at hr
        refine ⟨by rw [List.length_set]; exact h4, fun r hr' => ?_⟩
        rcases List.mem_or_eq_of_mem_set hr' with h | rfl
        · exact hl r h
        · show (q.1 ++ ws).length ≤ 64; rw [List.length_append]; exact hr.2
      · exact ⟨h4, hl⟩
    · exact ⟨h4, hl⟩
  · exact .inr rfl
theorem zns_len {w : World} {base n c : Nat} {A : Option Addr} {qs : List Zq} (h : OwnZ w base A n c qs) : (zns qs).length = n := by unfold zns; rw [List.length_map]; exact h.len
theorem putF_len (k s : Int) (xs : List Int) : (putF k s xs).length ≤ xs.length + 4 := by
  unfold putF headF
  split <;> simp <;> omega
end Go.Proofs.Ytcocboigjfjnfaa
