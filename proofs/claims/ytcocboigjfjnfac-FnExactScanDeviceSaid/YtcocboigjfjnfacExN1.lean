/-
  The sizes of what a scan of a device hands back.
-/
import Derived.Test.YtcocboigjfjnfacExN0
import Derived.Test.YtcocboigjfjnfacImpN5
import Derived.Test.YtcocboigjfjnfacSpecN3
namespace Go.Proofs.Ytcocboigjfjnfac
open Go.RowKit
set_option linter.unusedVariables false
set_option maxRecDepth 100000

theorem smallFn_scanD (d : Dev) : SmallFn (scanD d) := by
  unfold scanD
  split
  · next hv =>
    have h4 : d.length = 4 := (devV_iff.1 hv).2
    unfold devF
    have h1 : ∀ g ∈ scansZ d d.length, SmallFn g ∧ g.length ≤ 20 := by
      intro g hg
      obtain ⟨i, hi⟩ := List.getElem?_of_mem hg
      obtain ⟨_, rfl⟩ := scansZ_at _ hi
      have h2 := devV_short hv i
      exact ⟨smallFn_scanW _ _ h2, by have := scan_count (i : Int) (d.getD i ([], 0, false)).1 0; omega⟩
    refine ⟨?_, fun f hf => ?_⟩
    · rw [orderF_length]
      have h2 := sum_leN (fun g hg => (h1 g hg).2)
      have h3 : (scansZ d d.length).length = 4 := by unfold scansZ; rw [List.length_map, List.length_range, h4]
      omega
    · have h := (orderF_perm _).mem_iff.1 hf
      obtain ⟨g, hg, hfg⟩ := List.mem_flatten.1 h
      exact (h1 g hg).1.2 f hfg
  · exact smallFn_nil
end Go.Proofs.Ytcocboigjfjnfac
