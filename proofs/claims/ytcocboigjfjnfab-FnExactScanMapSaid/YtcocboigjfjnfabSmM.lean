/-
  Plain mathematics of ScanMap: 'smF ms l fs' is the map behind the frames fs, from a map and a number on, or nothing.
-/
import Derived.Test.YtcocboigjfjnfabFnd
import Derived.Test.YtcocboigjfjnfabNewM
namespace Go.Proofs.Ytcocboigjfjnfab
open Go.RowKit
set_option linter.unusedVariables false
set_option maxRecDepth 100000

def okFn (ms : List Wh) (l : Int) (f : Fn) : Bool := apOk ms f.2.2.1 f.2.2.2.1 f.2.2.2.2 f.1 f.2.1 && decide (l < f.2.2.2.1)
def apFn (ms : List Wh) (f : Fn) : List Wh := apM ms f.2.2.1 f.2.2.2.1 f.2.2.2.2 f.1 f.2.1
def smF : List Wh → Int → List Fn → Option (List Wh)
  | ms, _, [] => some ms
  | ms, l, f :: fs => if okFn ms l f then smF (apFn ms f) f.2.2.2.1 fs else none
def smap (fs : List Fn) : Option (List Wh) := smF new12 0 fs
theorem okFn_iff {ms : List Wh} {l : Int} {f : Fn} : okFn ms l f = true ↔ apOk ms f.2.2.1 f.2.2.2.1 f.2.2.2.2 f.1 f.2.1 = true ∧ l < f.2.2.2.1 := by unfold okFn; rw [Bool.and_eq_true, decide_eq_true_iff]
theorem apFn_valid {ms : List Wh} {l : Int} {f : Fn} (h : okFn ms l f = true) : mpV (apFn ms f) = true := apM_valid (okFn_iff.1 h).1
theorem apFn_len {ms : List Wh} {l : Int} {f : Fn} (h : okFn ms l f = true) : (apFn ms f).length = 12 := apM_len (okFn_iff.1 h).1
/-- a frame that is applied has a number above 0 -/
theorem ap_seq {ms : List Wh} {kd sq z a : Int} {xs : List Int} (h : apOk ms kd sq xs z a = true) : 0 < sq := by
  unfold apOk at h
  rw [Bool.and_eq_true, Bool.and_eq_true] at h
  have := (validF_iff.1 h.2.1).2.1.1
  omega
theorem smF_yes {ms : List Wh} {l : Int} {f : Fn} {fs : List Fn} (h : okFn ms l f = true) : smF ms l (f :: fs) = smF (apFn ms f) f.2.2.2.1 fs := by rw [smF, if_pos h]
theorem smF_no {ms : List Wh} {l : Int} {f : Fn} {fs : List Fn} (h : ¬ okFn ms l f = true) : smF ms l (f :: fs) = none := by rw [smF, if_neg h]
/-- the first frames can be applied too -/
theorem smF_take (fs : List Fn) : ∀ (k : Nat) (ms : List Wh) (l : Int) (rs : List Wh), smF ms l fs = some rs → mpV ms = true → ∃ xs, smF ms l (fs.take k) = some xs ∧ mpV xs = true := by
  induction fs with
  | nil => intro k ms l rs _ hv; exact ⟨ms, by simp [smF], hv⟩
  | cons f fs ih =>
    intro k ms l rs h hv
    rcases k with _ | k
    · exact ⟨ms, by simp [smF], hv⟩
    · by_cases hok : okFn ms l f = true
      · rw [smF_yes hok] at h
        obtain ⟨xs, h1, h2⟩ := ih k _ _ rs h (apFn_valid hok)
        exact ⟨xs, by rw [List.take_succ_cons, smF_yes hok]; exact h1, h2⟩
      · rw [smF_no hok] at h; cases h
theorem smap_take {fs : List Fn} {rs : List Wh} (h : smap fs = some rs) (k : Nat) : ∃ xs, smap (fs.take k) = some xs ∧ mpV xs = true := smF_take fs k new12 0 rs h new12_valid
theorem smap_valid {fs : List Fn} {rs : List Wh} (h : smap fs = some rs) : mpV rs = true := by
  obtain ⟨xs, h1, h2⟩ := smap_take h fs.length
  rw [List.take_length, h] at h1
  injection h1 with h1
  rw [h1]; exact h2
theorem smap_len {fs : List Fn} {rs : List Wh} (h : smap fs = some rs) : rs.length = 12 := (mpV_iff.1 (smap_valid h)).2
/-- one frame more -/
theorem smF_snoc (fs : List Fn) (f : Fn) : ∀ (ms : List Wh) (l : Int), smF ms l (fs ++ [f]) = match smF ms l fs with
    | some xs => if okFn xs ((fs.getLast?.map fun g => g.2.2.2.1).getD l) f then some (apFn xs f) else none
    | none => none := by
  induction fs with
  | nil =>
    intro ms l
    show smF ms l [f] = _
    by_cases h : okFn ms l f = true
    · rw [smF_yes h]; simp [smF, h]
    · rw [smF_no h]; simp [smF, h]
  | cons g fs ih =>
    intro ms l
    by_cases h : okFn ms l g = true
    · rw [List.cons_append, smF_yes h, smF_yes h, ih]
      rcases fs with _ | ⟨g2, fs⟩
      · rfl
      · simp [List.getLast?_cons]
    · rw [List.cons_append, smF_no h, smF_no h]
theorem smap_last {fs : List Fn} {f : Fn} {rs : List Wh} (h : smap (fs ++ [f]) = some rs) : ∃ ms, smap fs = some ms ∧ apOk ms f.2.2.1 f.2.2.2.1 f.2.2.2.2 f.1 f.2.1 = true ∧ apFn ms f = rs := by
  unfold smap at h ⊢
  rw [smF_snoc] at h
  rcases hs : smF new12 0 fs with _ | ms
  · rw [hs] at h; cases h
  · rw [hs] at h
    simp only at h
    split at h
    · rename_i hok
      injection h with h
      exact ⟨ms, rfl, (okFn_iff.1 hok).1, h⟩
    · cases h
/-- the same frame twice -/
theorem smap_twice (fs : List Fn) (f : Fn) (h : fs.getLast? = some f) : smap (fs ++ [f]) = none := by
  unfold smap
  rw [smF_snoc, h]
  rcases smF new12 0 fs with _ | ms
  · rfl
  · simp only [Option.map_some, Option.getD_some]
    rw [if_neg]
    intro h2
    have := (okFn_iff.1 h2).2
    omega
theorem tier_new : (tierM new12 0).length = 12 := by decide
/-- what ScanMap hands back -/
def SmPost (w : World) (r : Option (List Wh)) (e : Ending) (w' : World) : Prop :=
  ∃ A2 m2 c2, e = .returned (.tuple #[.slice A2 m2 c2, .bool r.isSome]) ∧ MpR w' w.heap.size A2 m2 c2 (r.getD []) ∧ Below w.heap.size w w'
end Go.Proofs.Ytcocboigjfjnfab
