/-
  Crashes of devices: plain mathematics.
-/
import Derived.Test.YtddedafjcgohpaaSpecZ7
import Derived.Test.YtddedafjcgohpaaQz
namespace Go.Proofs.Ytddedafjcgohpaa
open Go.RowKit
set_option linter.unusedVariables false
set_option maxRecDepth 100000

theorem allW_take {ws : List Int} (n : Nat) (h : allW ws = true) : allW (ws.take n) = true := by
  unfold allW at h ⊢
  rw [List.all_eq_true] at h ⊢
  exact fun x hx => h x (List.mem_of_mem_take hx)
theorem crashZ_len {q : List Int × Int × Bool} {n : Int} (h : zoneOk q = true) (hn : 0 ≤ n) : ((crashZ q n).1.length : Int) = keepN q n := by
  have hr := keep_rng h hn
  unfold crashZ
  rw [List.length_take]
  omega
theorem crashZ_ok {q : List Int × Int × Bool} {n : Int} (h : zoneOk q = true) (hn : 0 ≤ n) : zoneOk (crashZ q n) = true := by
  have hr := keep_rng h hn
  have hl := crashZ_len h hn
  have h1 := h
  unfold zoneOk at h1
  simp only [Bool.and_eq_true, decide_eq_true_eq] at h1
  unfold zoneOk
  simp only [Bool.and_eq_true, decide_eq_true_eq]
  refine ⟨⟨allW_take _ h1.1.1, ?_⟩, ?_⟩
  · unfold crashZ; rw [List.length_take]; omega
  · exact inB_true (show (0 : Int) ≤ keepN q n by omega) (by rw [hl]; exact Int.le_refl _)
/-- a zone all of whose words last stays -/
theorem crashZ_last {q : List Int × Int × Bool} {n : Int} (h : q.2.1 = q.1.length) (hn : 0 ≤ n) : crashZ q n = q := by
  have e : keepN q n = q.1.length := by unfold keepN; omega
  unfold crashZ
  rw [e, Int.toNat_natCast, List.take_of_length_le (Nat.le_refl _), ← h]
theorem crashZ_again {q : List Int × Int × Bool} {n n' : Int} (h : zoneOk q = true) (hn : 0 ≤ n) (hn' : 0 ≤ n') : crashZ (crashZ q n) n' = crashZ q n :=
  crashZ_last (by show keepN q n = _; exact (crashZ_len h hn).symm) hn'
theorem zoneAll {ds : Dev} (h : devV ds = true) {k : Nat} {q : List Int × Int × Bool} (hq : ds[k]? = some q) : zoneOk q = true := (devV_iff.1 h).1 q (List.mem_of_getElem? hq)
theorem getD_mem {ks : List Int} {k : Nat} (h : ∀ n ∈ ks, 0 ≤ n) (hk : k < ks.length) : 0 ≤ ks.getD k 0 := h _ (by simp [List.getD, hk])
theorem crashD_eq {ds : Dev} {ks : List Int} (h : crashOk ds ks = true) : crashD ds ks = List.zipWith crashZ ds ks := by unfold crashD; rw [if_pos h]
theorem crashD_get {ds : Dev} {ks : List Int} (h : crashOk ds ks = true) {k : Nat} (hk : k < 4) : ∃ q, ds[k]? = some q ∧ zoneOk q = true ∧ 0 ≤ ks.getD k 0 ∧ (crashD ds ks)[k]? = some (crashZ q (ks.getD k 0)) := by
  obtain ⟨hv, h4, hn⟩ := crashOk_iff.1 h
  have hl : k < ds.length := by rw [(devV_iff.1 hv).2]; exact hk
  have hq : ds[k]? = some ds[k] := List.getElem?_eq_getElem hl
  exact ⟨_, hq, zoneAll hv hq, getD_mem hn (by omega), by rw [crashD_eq h]; exact crash_get hq (by omega)⟩
theorem crashD_len {ds : Dev} {ks : List Int} (h : crashOk ds ks = true) : (crashD ds ks).length = 4 := by
  obtain ⟨hv, h4, hn⟩ := crashOk_iff.1 h
  rw [crashD_eq h]
  exact crash_len (devV_iff.1 hv).2 h4
theorem crashD_valid {ds : Dev} {ks : List Int} (h : crashOk ds ks = true) : devV (crashD ds ks) = true := by
  refine devV_iff.2 ⟨fun z hz => ?_, crashD_len h⟩
  obtain ⟨k, hk⟩ := List.getElem?_of_mem hz
  have hk4 : k < 4 := by rw [← crashD_len h]; exact (List.getElem?_eq_some_iff.1 hk).1
  obtain ⟨q, _, hok, hn, hc⟩ := crashD_get h hk4
  rw [hk] at hc
  injection hc with hc
  subst hc
  exact crashZ_ok hok hn
/-- what was kept lasts -/
theorem crashD_again {ds : Dev} {ks ks' : List Int} (h : crashOk ds ks = true) (h' : crashOk (crashD ds ks) ks' = true) : crashD (crashD ds ks) ks' = crashD ds ks := by
  apply List.ext_getElem?
  intro k
  by_cases hk : k < 4
  · obtain ⟨q, _, hok, hn, hc⟩ := crashD_get h hk
    obtain ⟨q', hq', _, hn', hc'⟩ := crashD_get h' hk
    rw [hc] at hq'
    injection hq' with hq'
    subst hq'
    rw [hc', hc, crashZ_again hok hn hn']
  · rw [List.getElem?_eq_none (by rw [crashD_len h']; omega), List.getElem?_eq_none (by rw [crashD_len h]; omega)]
theorem syncZ_ok {q : List Int × Int × Bool} (h : zoneOk q = true) : zoneOk (syncZ q) = true := by
  unfold zoneOk at h
  simp only [Bool.and_eq_true, decide_eq_true_eq] at h
  unfold zoneOk syncZ
  simp only [Bool.and_eq_true, decide_eq_true_eq]
  exact ⟨⟨h.1.1, h.1.2⟩, inB_true (by omega) (Int.le_refl _)⟩
theorem syncD_valid {ds : Dev} (h : devV ds = true) : devV (syncD ds) = true := by
  obtain ⟨h1, h2⟩ := devV_iff.1 h
  refine devV_iff.2 ⟨fun z hz => ?_, by unfold syncD; rw [List.length_map]; exact h2⟩
  unfold syncD at hz
  obtain ⟨q, hq, rfl⟩ := List.mem_map.1 hz
  exact syncZ_ok (h1 q hq)
/-- after a sync nothing is lost -/
theorem crash_sync {ds : Dev} {ks : List Int} (h : crashOk (syncD ds) ks = true) : crashD (syncD ds) ks = syncD ds := by
  apply List.ext_getElem?
  intro k
  by_cases hk : k < 4
  · obtain ⟨q, hq, hok, hn, hc⟩ := crashD_get h hk
    rw [hc, hq]
    unfold syncD at hq
    rw [List.getElem?_map] at hq
    rcases e : ds[k]? with _ | r
    · rw [e] at hq; cases hq
    · rw [e] at hq
      simp at hq
      rw [crashZ_last (by rw [← hq]; rfl) hn]
  · rw [List.getElem?_eq_none (by rw [crashD_len h]; omega), List.getElem?_eq_none (by have := (crashOk_iff.1 h).1; rw [(devV_iff.1 this).2]; omega)]
/-- everything kept is a sync -/
theorem crash_all {ds : Dev} {ks : List Int} (h : crashOk ds ks = true) (h64 : ∀ k, k < 4 → 64 ≤ ks.getD k 0) : crashD ds ks = syncD ds := by
  apply List.ext_getElem?
  intro k
  by_cases hk : k < 4
  · obtain ⟨q, hq, hok, hn, hc⟩ := crashD_get h hk
    have hr := keep_rng hok hn
    have h6 := h64 k hk
    rw [hc]
    unfold syncD
    rw [List.getElem?_map, hq]
    have e : keepN q (ks.getD k 0) = q.1.length := by unfold keepN; omega
    show some (crashZ q (ks.getD k 0)) = some (syncZ q)
    unfold crashZ syncZ
    rw [e, Int.toNat_natCast, List.take_of_length_le (Nat.le_refl _)]
  · rw [List.getElem?_eq_none (by rw [crashD_len h]; omega), List.getElem?_eq_none (by unfold syncD; rw [List.length_map, (devV_iff.1 (crashOk_iff.1 h).1).2]; omega)]
end Go.Proofs.Ytddedafjcgohpaa
