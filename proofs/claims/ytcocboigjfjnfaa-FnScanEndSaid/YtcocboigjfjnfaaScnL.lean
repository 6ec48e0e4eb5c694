/-
  What the laws of a zone's scans know behind both scans.
-/
import Derived.Test.YtcocboigjfjnfaaSameN
import Derived.Test.YtcocboigjfjnfaaImpN2
import Derived.Test.YtcocboigjfjnfaaDrawN1
namespace Go.Proofs.Ytcocboigjfjnfaa
open Go.RowKit
set_option linter.unusedVariables false
set_option maxRecDepth 100000

structure ZScn (w w1 w2 w3 : World) (A1 : Option Addr) (m c1 : Nat) (qs : List Zq) (z : Int) (A2 A3 : Option Addr) (n2 c2 c3 : Nat) (rs rs' : List Fq) : Prop where
  zs : ∀ W, Below w3.heap.size w3 W → Zns W w1.heap.size A1 m qs
  m4 : m ≤ 4
  s1 : w.heap.size ≤ w1.heap.size
  s2 : w1.heap.size ≤ w2.heap.size
  s3 : w2.heap.size ≤ w3.heap.size
  out : ∀ W, Below w3.heap.size w3 W → Fnds W w2.heap.size A2 n2 rs
  want : ∀ W, Below w3.heap.size w3 W → Fnds W w3.heap.size A3 n2 rs'
  f2 : fns rs = (scanZ (zns qs) z).1
  f3 : fns rs = fns rs'
  cap2 : n2 ≤ c2 ∧ c2 ≤ maxLen
  num : n2 ≤ 1000
  fin : ∀ W, Below w3.heap.size w3 W → Below w.heap.size w W

theorem scanZ_count (d : Dev) (z : Int) (h : ∀ q : List Int × Int × Bool, q ∈ d → q.1.length ≤ 70) : (scanZ d z).1.length ≤ 1000 := by
  unfold scanZ
  split
  · have h1 := scan_count z (d.getD z.toNat ([], 0, false)).1 0
    have h2 : (d.getD z.toNat ([], 0, false)).1.length ≤ 70 := by
      rcases hd : d[z.toNat]? with _ | q
      · simp [List.getD, hd]
      · have := h q (List.mem_of_getElem? hd)
        simpa [List.getD, hd] using this
    omega
  · exact Nat.zero_le _

theorem ZScn.of {w w1 w2 w3 : World} {A1 A2 A3 : Option Addr} {m c1 n2 n3 c2 c3 : Nat} {qs : List Zq} {z : Int} {rs rs' : List Fq} (hd : DevDrawn w w1 A1 m c1 qs)
    (ho2 : OwnF w2 w1.heap.size A2 n2 c2 rs) (hf2 : fns rs = (scanZ (zns qs) z).1) (hb2 : Below w1.heap.size w1 w2)
    (ho3 : OwnF w3 w2.heap.size A3 n3 c3 rs') (hf3 : fns rs' = (scanZ (zns qs) z).1) (hb3 : Below w2.heap.size w2 w3) : n3 = n2 ∧ ZScn w w1 w2 w3 A1 m c1 qs z A2 A3 n2 c2 c3 rs rs' := by
  obtain ⟨hz, hm, hmc, hcm, hl, hB⟩ := hd
  have e : n3 = n2 := by
    have h1 := congrArg List.length (hf2.trans hf3.symm)
    rw [fns_length, fns_length, ho2.len, ho3.len] at h1
    exact h1.symm
  subst e
  have hb13 := hb2.trans (hb3.mono hb2.size)
  refine ⟨rfl, ⟨fun W h => (hz.below hb13 (Nat.le_refl _)).below (h.mono hb13.size) (Nat.le_refl _), hm, hB.size, hb2.size, hb3.size, fun W h => ((ho2.fnds).below hb3 (Nat.le_refl _)).below h hb3.size, fun W h => (ho3.fnds).below h (Nat.le_refl _), hf2, hf2.trans hf3.symm, ho2.cap, ?_,
    fun W h => hB.trans ((hb13.trans (h.mono hb13.size)).mono hB.size)⟩⟩
  rw [← ho2.len, ← fns_length rs, hf2]
  refine scanZ_count _ _ (fun q hq => ?_)
  unfold zns at hq
  obtain ⟨q', hq', rfl⟩ := List.mem_map.1 hq
  exact hl q' hq'
end Go.Proofs.Ytcocboigjfjnfaa
