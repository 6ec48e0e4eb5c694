/-
  Texts in one: FrameM, ScnM, FrameU, SpecN1, HeapM, Mrg, ImpN1, SpecZ3, SpecZ4, DrawZ2, ImpN2. Plain.
-/
import Derived.Test.YtcocboigjfjnfacFrameS
import Derived.Test.YtcocboigjfjnfacG1
import Derived.Test.YtcocboigjfjnfacFnd
import Derived.Test.YtcocboigjfjnfacSpecZ1
import Derived.Test.YtcocboigjfjnfacG2
import Derived.Test.YtcocboigjfjnfacSpecZ2
/- FrameM -/
namespace Go.Proofs.Ytcocboigjfjnfac
open Go.RowKit
set_option linter.unusedVariables false
set_option maxRecDepth 100000

theorem goodF_parts {xs : List Int} {n : Nat} {p : Int} (h : goodF xs n p) : ∃ a m : Nat, p = a ∧ xs.getD (a + 2) 0 = (m : Int) ∧ a + 4 + m ≤ n ∧
    validF (xs.getD a 0) (xs.getD (a + 1) 0) (cutW xs (a + 3) m) = true ∧ xs.getD (a + 3 + m) 0 = sumFrom 7 (cutW xs a (3 + m)) := by
  obtain ⟨⟨e0, e1, e2, e3⟩, hv, hs⟩ := h
  obtain ⟨a, rfl⟩ := Int.eq_ofNat_of_zero_le e0
  simp only [Int.toNat_natCast, bodyAt] at e2 e3 hv hs
  obtain ⟨m, hm⟩ := Int.eq_ofNat_of_zero_le e2
  rw [hm] at hv hs e3
  simp only [Int.toNat_natCast] at hv hs
  exact ⟨a, m, rfl, hm, by omega, hv, hs⟩

theorem cutW_snoc (xs : List Int) (a m : Nat) (h : a + m < xs.length) : cutW xs a (m + 1) = cutW xs a m ++ [xs.getD (a + m) 0] := by
  unfold cutW
  rw [List.take_succ_eq_append_getElem (by rw [List.length_drop]; omega)]
  simp [List.getD, h]

theorem cutW_app (pre xs post : List Int) (p a m L : Nat) (hp : pre.length = p) (hL : a + m ≤ L) (hl : L ≤ xs.length) : cutW (pre ++ xs.take L ++ post) (p + a) m = cutW xs a m := by
  unfold cutW
  rw [List.append_assoc, ← List.drop_drop, ← hp, List.drop_left, List.drop_append_of_le_length (by rw [List.length_take]; omega), List.take_append_of_le_length (by rw [List.length_drop, List.length_take]; omega),
    List.drop_take, List.take_take]
  congr 1
  omega

theorem getD_app (pre xs post : List Int) (p j L : Nat) (hp : pre.length = p) (hL : j < L) (hl : L ≤ xs.length) : (pre ++ xs.take L ++ post).getD (p + j) 0 = xs.getD j 0 := by
  rw [List.append_assoc, List.getD, List.getElem?_append_right (by omega), hp, Nat.add_sub_cancel_left, List.getElem?_append_left (by rw [List.length_take]; omega), List.getElem?_take_of_lt hL]
  rfl

/-- the frame at a place, written again, is its words -/
theorem put_at {xs : List Int} {a m : Nat} (hl : a + 4 + m ≤ xs.length) (hm : xs.getD (a + 2) 0 = (m : Int)) (hv : validF (xs.getD a 0) (xs.getD (a + 1) 0) (cutW xs (a + 3) m) = true)
    (hs : xs.getD (a + 3 + m) 0 = sumFrom 7 (cutW xs a (3 + m))) : putF (xs.getD a 0) (xs.getD (a + 1) 0) (cutW xs (a + 3) m) = cutW xs a (4 + m) := by
  rw [putF, if_pos hv, ← cut_head hl hm, show 4 + m = 3 + m + 1 by omega, cutW_snoc _ _ _ (by omega), ← hs, show a + (3 + m) = a + 3 + m by omega]

theorem set_getD_ne (xs : List Int) (k j : Nat) (x : Int) (h : k ≠ j) : (xs.set k x).getD j 0 = xs.getD j 0 := by simp [List.getD, h]
theorem set_getD_eq (xs : List Int) (k : Nat) (x : Int) (h : k < xs.length) : (xs.set k x).getD k 0 = x := by simp [List.getD, h]

/-- a changed word of a frame, not its number of words, is noticed -/
theorem change_bad {xs : List Int} {a m k : Nat} (hl : a + 4 + m ≤ xs.length) (hm : xs.getD (a + 2) 0 = (m : Int)) (hv : validF (xs.getD a 0) (xs.getD (a + 1) 0) (cutW xs (a + 3) m) = true)
    (hs : xs.getD (a + 3 + m) 0 = sumFrom 7 (cutW xs a (3 + m))) (h1 : a ≤ k) (h2 : k < a + 4 + m) (h3 : k ≠ a + 2) : ¬ goodF (xs.set k (xs.getD k 0 + 1)) xs.length (a : Int) := by
  intro hg
  obtain ⟨a', m', ha, hm', hl', hv', hs'⟩ := goodF_parts hg
  obtain rfl : a = a' := by omega
  rw [set_getD_ne _ _ _ _ h3, hm] at hm'
  obtain rfl : m = m' := by omega
  by_cases hk : k = a + 3 + m
  · subst hk
    rw [set_getD_eq _ _ _ (by omega), hs] at hs'
    have : cutW (xs.set (a + 3 + m) (sumFrom 7 (cutW xs a (3 + m)) + 1)) a (3 + m) = cutW xs a (3 + m) := by
      unfold cutW
      rw [List.drop_set, if_neg (by omega), List.take_set_of_le (by omega)]
    rw [this] at hs'
    omega
  · rw [set_getD_ne _ _ _ _ hk, hs] at hs'
    have e : cutW (xs.set k (xs.getD k 0 + 1)) a (3 + m) = (cutW xs a (3 + m)).set (k - a) ((cutW xs a (3 + m)).getD (k - a) 0 + 1) := by
      rw [cutW_getD _ _ _ _ (by omega), show a + (k - a) = k by omega]
      unfold cutW
      rw [List.drop_set, if_neg (by omega), List.take_set]
    rw [e] at hs'
    have ha := allW_head hv
    rw [← cut_head hl hm] at ha
    have hr := sumFrom_rng _ 7 (by omega) (by omega) ha
    exact sum_change (cutW xs a (3 + m)) (k - a) (by rw [cutW_length _ _ _ (by omega)]; omega) hr.1 hs'.symm

/-- words cut ahead of a frame's last one have no frame there -/
theorem short_bad {xs : List Int} {a m : Nat} (hm : xs.getD (a + 2) 0 = (m : Int)) : ¬ goodF (xs.take (a + 3 + m)) (a + 3 + m) (a : Int) := by
  intro hg
  obtain ⟨⟨e0, e1, e2, e3⟩, _⟩ := hg
  simp only [Int.toNat_natCast] at e2 e3
  rw [getD_take' _ _ _ (by omega), hm] at e3
  omega
end Go.Proofs.Ytcocboigjfjnfac

/- ScnM -/
namespace Go.Proofs.Ytcocboigjfjnfac
open Go.RowKit
set_option linter.unusedVariables false
set_option maxRecDepth 100000

/-- the words of the body of the frame at a -/
def lenAt (xs : List Int) (a : Nat) : Nat := (xs.getD (a + 2) 0).toNat
/-- the frame at a, in zone z -/
def fnAt (z : Int) (xs : List Int) (a : Nat) : Fn := (z, (a : Int), xs.getD a 0, xs.getD (a + 1) 0, cutW xs (a + 3) (lenAt xs a))
open Classical in
noncomputable def scanF (z : Int) (xs : List Int) : Nat → Nat → List Fn × Nat
  | 0, a => ([], a)
  | k + 1, a => if goodF xs xs.length (a : Int) then (fnAt z xs a :: (scanF z xs k (a + 4 + lenAt xs a)).1, (scanF z xs k (a + 4 + lenAt xs a)).2) else ([], a)
noncomputable def scanW (z : Int) (xs : List Int) (a : Nat) : List Fn × Nat := scanF z xs (xs.length - a) a

theorem good_len {xs : List Int} {a : Nat} (h : goodF xs xs.length (a : Int)) : a + 4 + lenAt xs a ≤ xs.length ∧ xs.getD (a + 2) 0 = (lenAt xs a : Int) ∧
    validF (xs.getD a 0) (xs.getD (a + 1) 0) (cutW xs (a + 3) (lenAt xs a)) = true ∧ xs.getD (a + 3 + lenAt xs a) 0 = sumFrom 7 (cutW xs a (3 + lenAt xs a)) := by
  obtain ⟨a', m, ha, hm, hl, hv, hs⟩ := goodF_parts h
  obtain rfl : a = a' := by omega
  have e : lenAt xs a = m := by unfold lenAt; rw [hm]; rfl
  rw [e]
  exact ⟨hl, hm, hv, hs⟩
theorem good_of {xs : List Int} {a m : Nat} (hl : a + 4 + m ≤ xs.length) (hm : xs.getD (a + 2) 0 = (m : Int)) (hv : validF (xs.getD a 0) (xs.getD (a + 1) 0) (cutW xs (a + 3) m) = true)
    (hs : xs.getD (a + 3 + m) 0 = sumFrom 7 (cutW xs a (3 + m))) : goodF xs xs.length (a : Int) := by
  refine ⟨⟨by omega, by omega, ?_, ?_⟩, ?_, ?_⟩
  · rw [Int.toNat_natCast, hm]; omega
  · rw [Int.toNat_natCast, hm]; omega
  · rw [Int.toNat_natCast, bodyAt, Int.toNat_natCast, hm]; exact hv
  · rw [Int.toNat_natCast, hm]; exact hs
theorem good_ext (n : Nat) {xs : List Int} {a : Nat} (h : ¬ goodF xs xs.length (a : Int)) (hn : xs.length = n) : ¬ goodF xs n (a : Int) := by rw [← hn]; exact h

/-- the fuel does not matter once it is enough -/
theorem scanF_fuel (z : Int) (xs : List Int) : ∀ (k k' a : Nat), xs.length - a ≤ k → xs.length - a ≤ k' → scanF z xs k a = scanF z xs k' a := by
  intro k
  induction k with
  | zero =>
    intro k' a h h'
    rcases k' with _ | k'
    · rfl
    · have : ¬ goodF xs xs.length (a : Int) := fun hg => by have := (good_len hg).1; omega
      rw [scanF, scanF, if_neg this]
  | succ k ih =>
    intro k' a h h'
    by_cases hg : goodF xs xs.length (a : Int)
    · have hl := (good_len hg).1
      rcases k' with _ | k'
      · omega
      · rw [scanF, scanF, if_pos hg, if_pos hg, ih k' (a + 4 + lenAt xs a) (by omega) (by omega)]
    · rcases k' with _ | k'
      · rw [scanF, scanF, if_neg hg]
      · rw [scanF, scanF, if_neg hg, if_neg hg]
theorem scanW_yes (z : Int) {xs : List Int} {a : Nat} (hg : goodF xs xs.length (a : Int)) :
    scanW z xs a = (fnAt z xs a :: (scanW z xs (a + 4 + lenAt xs a)).1, (scanW z xs (a + 4 + lenAt xs a)).2) := by
  have hl := (good_len hg).1
  obtain ⟨k, hk⟩ : ∃ k, xs.length - a = k + 1 := ⟨xs.length - a - 1, by omega⟩
  unfold scanW
  rw [hk, scanF, if_pos hg, scanF_fuel z xs k (xs.length - (a + 4 + lenAt xs a)) _ (by omega) (by omega)]
theorem scanW_no (z : Int) {xs : List Int} {a : Nat} (hg : ¬ goodF xs xs.length (a : Int)) : scanW z xs a = ([], a) := by
  unfold scanW
  rcases xs.length - a with _ | k
  · rfl
  · rw [scanF, if_neg hg]
theorem scanW_past (z : Int) {xs : List Int} {a : Nat} (h : xs.length ≤ a) : scanW z xs a = ([], a) := scanW_no z (fun hg => by have := (good_len hg).1; omega)

/-- a way to show a fact of a scan: where no frame begins, and ahead of a frame -/
theorem scan_ind {xs : List Int} {P : Nat → Prop} (hno : ∀ a : Nat, ¬ goodF xs xs.length (a : Int) → P a) (hyes : ∀ a : Nat, goodF xs xs.length (a : Int) → P (a + 4 + lenAt xs a) → P a) : ∀ a : Nat, P a := by
  have : ∀ k a : Nat, xs.length - a ≤ k → P a := by
    intro k
    induction k with
    | zero => intro a h; exact hno a (fun hg => by have := (good_len hg).1; omega)
    | succ k ih =>
      intro a h
      by_cases hg : goodF xs xs.length (a : Int)
      · exact hyes a hg (ih _ (by have := (good_len hg).1; omega))
      · exact hno a hg
  exact fun a => this _ a (Nat.le_refl _)

theorem scan_ge (z : Int) (xs : List Int) : ∀ a, a ≤ (scanW z xs a).2 :=
  scan_ind (fun a h => by rw [scanW_no z h]; exact Nat.le_refl _) (fun a h ih => by rw [scanW_yes z h]; simp only at ih ⊢; omega)
theorem scan_le (z : Int) (xs : List Int) : ∀ a, a ≤ xs.length → (scanW z xs a).2 ≤ xs.length :=
  scan_ind (fun a h ha => by rw [scanW_no z h]; exact ha) (fun a h ih ha => by rw [scanW_yes z h]; exact ih (good_len h).1)
theorem scan_end (z : Int) (xs : List Int) : ∀ a, ¬ goodF xs xs.length ((scanW z xs a).2 : Int) :=
  scan_ind (fun a h => by rw [scanW_no z h]; exact h) (fun a h ih => by rw [scanW_yes z h]; exact ih)
theorem scan_count (z : Int) (xs : List Int) : ∀ a, (scanW z xs a).1.length * 5 ≤ xs.length - a :=
  scan_ind (fun a h => by rw [scanW_no z h]; simp) (fun a h ih => by
    have hl := good_len h
    have h1 := (validF_iff.1 hl.2.2.1).2.2.1.1
    rw [cutW_length _ _ _ (by omega)] at h1
    rw [scanW_yes z h]
    simp only [List.length_cons] at ih ⊢
    omega)
/-- each frame that is found is a frame of its place -/
theorem scan_mem (z : Int) (xs : List Int) : ∀ a, ∀ f ∈ (scanW z xs a).1, ∃ b : Nat, goodF xs xs.length (b : Int) ∧ f = fnAt z xs b :=
  scan_ind (fun a h => by rw [scanW_no z h]; simp) (fun a h ih => by
    rw [scanW_yes z h]
    intro f hf
    simp only [List.mem_cons] at hf
    rcases hf with rfl | hf
    · exact ⟨a, h, rfl⟩
    · exact ih f hf)

/-- the words of frames, one behind the other -/
def putsF : List Fn → List Int
  | [] => []
  | f :: fs => putF f.2.2.1 f.2.2.2.1 f.2.2.2.2 ++ putsF fs
/-- the frames that were found lie one behind the other from a on, each where the words ahead of it end -/
theorem scan_puts (z : Int) (xs : List Int) : ∀ a, a ≤ xs.length → xs.take a ++ putsF (scanW z xs a).1 = xs.take (scanW z xs a).2 :=
  scan_ind (fun a h _ => by rw [scanW_no z h]; simp [putsF]) (fun a h ih ha => by
    obtain ⟨hl, hm, hv, hs⟩ := good_len h
    rw [scanW_yes z h]
    simp only [putsF, fnAt]
    rw [put_at hl hm hv hs, ← List.append_assoc, ← ih hl]
    congr 1
    unfold cutW
    rw [show a + 4 + lenAt xs a = a + (4 + lenAt xs a) by omega]
    exact List.take_add.symm)
/-- the same frame by frame: frame k begins where the words of those ahead of it end -/
theorem scan_word (z : Int) (xs : List Int) : ∀ a, a ≤ xs.length → ∀ (k : Nat) (f : Fn), (scanW z xs a).1[k]? = some f → f.1 = z ∧ f.2.1 = ((a + (putsF ((scanW z xs a).1.take k)).length : Nat) : Int) :=
  scan_ind (fun a h _ k f hk => by rw [scanW_no z h] at hk; simp at hk) (fun a h ih ha k f hk => by
    obtain ⟨hl, hm, hv, hs⟩ := good_len h
    rw [scanW_yes z h] at hk ⊢
    rcases k with _ | k
    · simp at hk
      subst hk
      simp [fnAt, putsF]
    · simp only [List.getElem?_cons_succ] at hk
      obtain ⟨h1, h2⟩ := ih hl k f hk
      refine ⟨h1, h2.trans ?_⟩
      simp only [List.take_succ_cons, putsF, fnAt]
      rw [put_at hl hm hv hs, List.length_append, cutW_length _ _ _ (by omega)]
      congr 1
      omega)

/-! ### Words that are cut -/
theorem good_take {xs : List Int} {a k : Nat} (hk : k ≤ xs.length) : goodF (xs.take k) (xs.take k).length (a : Int) ↔ goodF xs xs.length (a : Int) ∧ a + 4 + lenAt xs a ≤ k := by
  have hlen : (xs.take k).length = k := by rw [List.length_take]; omega
  have gd : ∀ j, j < k → (xs.take k).getD j 0 = xs.getD j 0 := fun j hj => by rw [getD_take' _ _ _ hj]
  have ct : ∀ j m, j + m ≤ k → cutW (xs.take k) j m = cutW xs j m := by
    intro j m hj
    unfold cutW
    rw [List.drop_take, List.take_take, Nat.min_eq_left (by omega)]
  constructor
  · intro h
    obtain ⟨hl, hm, hv, hs⟩ := good_len h
    rw [hlen] at hl
    generalize lenAt (xs.take k) a = m at hl hm hv hs
    rw [gd _ (by omega)] at hm
    rw [gd _ (by omega), gd _ (by omega), ct _ _ (by omega)] at hv
    rw [gd _ (by omega), ct _ _ (by omega)] at hs
    have e : lenAt xs a = m := by unfold lenAt; rw [hm]; rfl
    exact ⟨good_of (by omega) hm hv hs, by rw [e]; exact hl⟩
  · rintro ⟨h, hl2⟩
    obtain ⟨hl, hm, hv, hs⟩ := good_len h
    generalize lenAt xs a = m at hl hm hv hs hl2
    refine good_of (m := m) (by omega) ?_ ?_ ?_
    · rw [gd _ (by omega)]; exact hm
    · rw [gd _ (by omega), gd _ (by omega), ct _ _ (by omega)]; exact hv
    · rw [gd _ (by omega), ct _ _ (by omega)]; exact hs
theorem fnAt_take (z : Int) {xs : List Int} {a k : Nat} (hk : k ≤ xs.length) (hl : a + 4 + lenAt xs a ≤ k) : lenAt (xs.take k) a = lenAt xs a ∧ fnAt z (xs.take k) a = fnAt z xs a := by
  have gd : ∀ j, j < k → (xs.take k).getD j 0 = xs.getD j 0 := fun j hj => by rw [getD_take' _ _ _ hj]
  have e : lenAt (xs.take k) a = lenAt xs a := by unfold lenAt; rw [gd _ (by omega)]
  refine ⟨e, ?_⟩
  unfold fnAt
  rw [e, gd _ (by omega), gd _ (by omega)]
  unfold cutW
  rw [List.drop_take, List.take_take, Nat.min_eq_left (by omega)]
theorem scan_take (z : Int) {xs : List Int} {k : Nat} (hk : k ≤ xs.length) : ∀ a, a ≤ k → ((scanW z (xs.take k) a).2 ≤ k ∧ (∃ n, (scanW z (xs.take k) a).1 = (scanW z xs a).1.take n) ∧
    ((scanW z xs a).2 ≤ k → (scanW z (xs.take k) a).1 = (scanW z xs a).1)) := by
  refine scan_ind (xs := xs) (fun a h ha => ?_) (fun a h ih ha => ?_)
  · have h' : ¬ goodF (xs.take k) (xs.take k).length (a : Int) := fun hg => h ((good_take hk).1 hg).1
    rw [scanW_no z h', scanW_no z h]
    exact ⟨ha, ⟨0, by simp⟩, fun _ => rfl⟩
  · by_cases hl : a + 4 + lenAt xs a ≤ k
    · have h' := (good_take hk).2 ⟨h, hl⟩
      obtain ⟨e1, e2⟩ := fnAt_take z hk hl
      rw [scanW_yes z h', scanW_yes z h, e1, e2]
      obtain ⟨i1, ⟨n, i2⟩, i3⟩ := ih hl
      refine ⟨i1, ⟨n + 1, by simp [i2]⟩, fun hle => by simp only at hle ⊢; rw [i3 hle]⟩
    · have h' : ¬ goodF (xs.take k) (xs.take k).length (a : Int) := fun hg => hl ((good_take hk).1 hg).2
      rw [scanW_no z h', scanW_yes z h]
      refine ⟨ha, ⟨0, by simp⟩, fun hle => ?_⟩
      have := scan_ge z xs (a + 4 + lenAt xs a)
      simp only at hle
      omega

/-! ### Frames ordered by their numbers -/
def seqOf (f : Fn) : Int := f.2.2.2.1
/-- behind all that do not have a greater number, from the end on -/
def placeF (fs : List Fn) (x : Fn) : Nat → Nat
  | 0 => 0
  | k + 1 => if seqOf x < seqOf (fs.getD k (0, 0, 0, 0, [])) then placeF fs x k else k + 1
def insF (fs : List Fn) (x : Fn) : List Fn := fs.take (placeF fs x fs.length) ++ x :: fs.drop (placeF fs x fs.length)
def insAll (fs gs : List Fn) : List Fn := gs.foldl insF fs
def orderF (zs : List (List Fn)) : List Fn := zs.foldl insAll []
/-- numbers do not descend -/
def ascF (fs : List Fn) : Prop := fs.Pairwise fun f g => seqOf f ≤ seqOf g
theorem placeF_le (fs : List Fn) (x : Fn) (k : Nat) : placeF fs x k ≤ k := by
  induction k with
  | zero => exact Nat.le_refl _
  | succ k ih => unfold placeF; split <;> omega
theorem insF_length (fs : List Fn) (x : Fn) : (insF fs x).length = fs.length + 1 := by
  have := placeF_le fs x fs.length
  simp [insF]
  omega
theorem insF_mem (fs : List Fn) (x f : Fn) : f ∈ insF fs x ↔ f = x ∨ f ∈ fs := by
  unfold insF
  have e : f ∈ fs ↔ f ∈ fs.take (placeF fs x fs.length) ∨ f ∈ fs.drop (placeF fs x fs.length) := by rw [← List.mem_append, List.take_append_drop]
  rw [List.mem_append, List.mem_cons, e]
  exact or_left_comm
theorem placeF_spec {fs : List Fn} {x : Fn} (h : ascF fs) : ∀ k, k ≤ fs.length → (∀ (j : Nat) (f : Fn), j < placeF fs x k → fs[j]? = some f → seqOf f ≤ seqOf x) ∧
    ∀ (j : Nat) (f : Fn), placeF fs x k ≤ j → j < k → fs[j]? = some f → seqOf x < seqOf f := by
  intro k
  induction k with
  | zero => intro _; exact ⟨fun j f hj => absurd hj (by simp [placeF]), fun j f _ hj => absurd hj (by omega)⟩
  | succ k ih =>
    intro hk
    obtain ⟨i1, i2⟩ := ih (by omega)
    have hg : fs[k]? = some (fs.getD k (0, 0, 0, 0, [])) := by simp [List.getD, show k < fs.length by omega]
    unfold placeF
    by_cases hx : seqOf x < seqOf (fs.getD k (0, 0, 0, 0, []))
    · rw [if_pos hx]
      refine ⟨i1, fun j f h1 h2 h3 => ?_⟩
      rcases Nat.lt_or_ge j k with h4 | h4
      · exact i2 j f h1 h4 h3
      · obtain rfl : j = k := by omega
        rw [hg] at h3
        injection h3 with h3
        rw [← h3]
        exact hx
    · rw [if_neg hx]
      refine ⟨fun j f h1 h3 => ?_, fun j f h1 h2 _ => absurd h1 (by omega)⟩
      rcases Nat.lt_or_ge j k with h4 | h4
      · have hp := List.pairwise_iff_getElem.1 h j k (by omega) (by omega) h4
        rw [List.getElem?_eq_getElem (show j < fs.length by omega)] at h3
        rw [List.getElem?_eq_getElem (show k < fs.length by omega)] at hg
        injection h3 with h3
        injection hg with hg
        rw [h3, hg] at hp
        omega
      · obtain rfl : j = k := by omega
        rw [hg] at h3
        injection h3 with h3
        rw [← h3]
        omega
theorem insF_asc {fs : List Fn} {x : Fn} (h : ascF fs) : ascF (insF fs x) := by
  obtain ⟨h1, h2⟩ := placeF_spec (x := x) h fs.length (Nat.le_refl _)
  have hl := placeF_le fs x fs.length
  unfold ascF insF
  have ht : ∀ f ∈ fs.take (placeF fs x fs.length), seqOf f ≤ seqOf x := by
    intro f hf
    obtain ⟨j, hj⟩ := List.getElem?_of_mem hf
    have hlt : j < placeF fs x fs.length := by
      have := (List.getElem?_eq_some_iff.1 hj).1
      rw [List.length_take] at this
      omega
    rw [List.getElem?_take_of_lt hlt] at hj
    exact h1 j f hlt hj
  have hd : ∀ f ∈ fs.drop (placeF fs x fs.length), seqOf x ≤ seqOf f := by
    intro f hf
    obtain ⟨j, hj⟩ := List.getElem?_of_mem hf
    rw [List.getElem?_drop] at hj
    have := (List.getElem?_eq_some_iff.1 hj).1
    exact Int.le_of_lt (h2 _ f (by omega) this hj)
  refine List.pairwise_append.2 ⟨List.Pairwise.sublist (List.take_sublist _ _) h, List.pairwise_cons.2 ⟨hd, List.Pairwise.sublist (List.drop_sublist _ _) h⟩, fun f hf g hg => ?_⟩
  simp only [List.mem_cons] at hg
  rcases hg with rfl | hg
  · exact ht f hf
  · exact Int.le_trans (ht f hf) (hd g hg)
theorem insAll_asc (gs : List Fn) : ∀ fs, ascF fs → ascF (insAll fs gs) := by
  induction gs with
  | nil => intro fs h; exact h
  | cons g gs ih => intro fs h; exact ih _ (insF_asc h)
theorem foldAll_asc (zs : List (List Fn)) : ∀ fs, ascF fs → ascF (zs.foldl insAll fs) := by
  induction zs with
  | nil => intro fs h; exact h
  | cons g gs ih => intro fs h; exact ih _ (insAll_asc g _ h)
theorem orderF_asc (zs : List (List Fn)) : ascF (orderF zs) := foldAll_asc zs [] List.Pairwise.nil
theorem insAll_length (gs : List Fn) : ∀ fs, (insAll fs gs).length = fs.length + gs.length := by
  induction gs with
  | nil => intro fs; rfl
  | cons g gs ih => intro fs; show (insAll (insF fs g) gs).length = _; rw [ih, insF_length]; simp; omega
theorem insAll_mem (gs : List Fn) (f : Fn) : ∀ fs, f ∈ insAll fs gs ↔ f ∈ gs ∨ f ∈ fs := by
  induction gs with
  | nil => intro fs; simp [insAll]
  | cons g gs ih =>
    intro fs
    show f ∈ insAll (insF fs g) gs ↔ _
    rw [ih, insF_mem, List.mem_cons, or_left_comm, or_assoc]
theorem insAll_append (fs gs hs : List Fn) : insAll fs (gs ++ hs) = insAll (insAll fs gs) hs := by unfold insAll; rw [List.foldl_append]
theorem insAll_step (fs gs : List Fn) (g : Fn) : insAll fs (gs ++ [g]) = insF (insAll fs gs) g := by rw [insAll_append]; rfl
theorem orderF_step (zs : List (List Fn)) (gs : List Fn) : orderF (zs ++ [gs]) = insAll (orderF zs) gs := by unfold orderF; rw [List.foldl_append]; rfl
def sumL : List (List Fn) → Nat
  | [] => 0
  | g :: gs => g.length + sumL gs
theorem foldAll_length (zs : List (List Fn)) : ∀ fs, (zs.foldl insAll fs).length = fs.length + sumL zs := by
  induction zs with
  | nil => intro fs; rfl
  | cons g gs ih => intro fs; rw [List.foldl_cons, ih, insAll_length, sumL]; omega
theorem orderF_length (zs : List (List Fn)) : (orderF zs).length = sumL zs := by unfold orderF; rw [foldAll_length]; simp
theorem foldAll_mem (zs : List (List Fn)) (f : Fn) : ∀ fs, f ∈ zs.foldl insAll fs ↔ (∃ g ∈ zs, f ∈ g) ∨ f ∈ fs := by
  induction zs with
  | nil => intro fs; simp
  | cons g gs ih =>
    intro fs
    rw [List.foldl_cons, ih, insAll_mem, ← or_assoc]
    simp only [List.mem_cons, exists_eq_or_imp, or_comm]
theorem orderF_mem (zs : List (List Fn)) (f : Fn) : f ∈ orderF zs ↔ ∃ g ∈ zs, f ∈ g := by unfold orderF; rw [foldAll_mem]; simp
end Go.Proofs.Ytcocboigjfjnfac

/- FrameU -/
namespace Go.Proofs.Ytcocboigjfjnfac
open Go.RowKit
set_option linter.unusedVariables false
set_option maxRecDepth 100000

theorem specGet_no (A : Option Addr) (n c : Nat) (p : Int) (xs : List Int) (w : World) (hi : Ints w w.heap.size A n xs) (hn : n ≤ c) (hc : c ≤ 9223372036854775807) (hn2 : n ≤ 17592186044416)
    (hp : p ≤ 9223372036854775807) (hno : ¬ goodF xs n p) :
    Calls Try.prog 87 #[.slice A n c, .int .i64 p] w fun e w' => e = .returned noFrame ∧ Below w.heap.size w w' := by
  by_cases h1 : p < 0 ∨ (n : Int) - 5 < p ∨ inB (xs.getD (p.toNat + 2) 0) 1 18 = false
  · exact specGet_early A n c p xs w hi hn hc hn2 hp h1
  · obtain ⟨a, rfl⟩ := Int.eq_ofNat_of_zero_le (show 0 ≤ p by omega)
    have h2 : inB (xs.getD (a + 2) 0) 1 18 = true := by
      rcases hb : inB (xs.getD (a + 2) 0) 1 18 with _ | _
      · exact absurd (.inr (.inr (by simpa using hb))) h1
      · rfl
    have h3 := inB_iff.1 h2
    obtain ⟨m, hm⟩ := Int.eq_ofNat_of_zero_le (show 0 ≤ xs.getD (a + 2) 0 by omega)
    rw [hm] at h2
    by_cases h4 : n < a + 4 + m
    · exact specGet_long A n c a m xs w hi hn hc hn2 (by omega) hm h2 h4
    · refine (specGet_deep A n c a m xs w hi hn hc hn2 hm h2 (by omega) _ _ _ rfl rfl rfl).mono ?_
      intro e w' h
      unfold DeepPost at h
      rw [if_neg (fun h' => hno ((good_parts hm (by omega)).2 h'))] at h
      exact h

theorem specGet_yes (A : Option Addr) (n c a m : Nat) (p : Int) (xs : List Int) (w : World) (hp : p = a) (hi : Ints w w.heap.size A n xs) (hn : n ≤ c) (hc : c ≤ 9223372036854775807) (hn2 : n ≤ 17592186044416)
    (hm : xs.getD (a + 2) 0 = (m : Int)) (hl : a + 4 + m ≤ n) (x0 x1 x3 : Int) (hx0 : xs.getD a 0 = x0) (hx1 : xs.getD (a + 1) 0 = x1) (hx3 : xs.getD (a + 3 + m) 0 = x3)
    (hv : validF x0 x1 (cutW xs (a + 3) m) = true) (hs : x3 = sumFrom 7 (cutW xs a (3 + m))) :
    Calls Try.prog 87 #[.slice A n c, .int .i64 p] w fun e w' => ∃ A2 c2, e = .returned (.tuple #[.agg #[.int .i64 x0, .int .i64 x1, .slice A2 m c2], .int .i64 ((a : Int) + 4 + m), .bool true]) ∧
      Own w' w.heap.size A2 m c2 (cutW xs (a + 3) m) ∧ Below w.heap.size w w' := by
  subst hp
  have h18 := (validF_iff.1 hv).2.2.1
  rw [cutW_length _ _ _ (by rw [hi.1]; omega)] at h18
  refine (specGet_deep A n c a m xs w hi hn hc hn2 hm (inB_true h18.1 h18.2) hl x0 x1 x3 hx0 hx1 hx3).mono ?_
  intro e w' h
  unfold DeepPost at h
  rw [if_pos ⟨hv, hs⟩] at h
  exact h
end Go.Proofs.Ytcocboigjfjnfac

/- SpecN1 -/
namespace Go.Proofs.Ytcocboigjfjnfac
open Go.RowKit
set_option linter.unusedVariables false
set_option maxRecDepth 100000

theorem below_undrewF {B : Nat} {a w : World} {i : Nat} (h : Below B (a.drewN i) w) : Below B a w := ⟨h.os, h.tape, h.output, h.size, h.block⟩
/-- behind 'append(out, x)', the frame in a new block -/
theorem below_app_f {B base n c : Nat} {a w w' : World} {A : Option Addr} {qs : List Fq} {o : Obj} (h : Below B a w) (hB : B ≤ w.heap.size) (hown : OwnF w base A n c qs) (hb : B ≤ base)
    (hg : (w.alloc o).grownBy w' (Value.slice A n c).ownBlock) : Below B a w' :=
  (h.alloc hB o).grown hg (by simp; omega) (fun k hk => by have := (hown.block k hk).1; omega)
theorem new_sepF {w : World} {base n c : Nat} {A : Option Addr} {qs : List Fq} (h : OwnF w base A n c qs) {q : Fq} (hq : ∀ g, q.sl.ownBlock = some g → w.heap.size ≤ g) :
    ∀ (k : Nat) (r : Fq), qs[k]? = some r → ∀ g, r.sl.ownBlock = some g → q.sl.ownBlock ≠ some g := by
  intro k r hk g hg e
  have h1 := (h.wblock hk g hg).2
  have h2 := hq g e
  omega

/-- what an append of a frame that FrameGet has given asks, with the frame in two new blocks -/
theorem NewF.got {w wr w1 : World} {A2 A3 : Option Addr} {j c2 c3 l : Nat} {rs : List Fq} {z a x0 x1 : Int} {body : List Int} (HO : OwnF wr w.heap.size A2 j c2 rs) (hs : w.heap.size ≤ wr.heap.size) (ho3 : Own w1 wr.heap.size A3 l c3 body)
    (hb3 : Below wr.heap.size wr w1) (hl : body.length = l) (o : Obj) (g : Nat) (hg : g = w1.heap.size + 1) :
    NewF ((w1.alloc o).alloc (.cells #[.int .i64 z, .int .i64 a, .int .i64 x0, .int .i64 x1, .slice A3 l c3] 35)) w.heap.size j A2 c2 rs (some ⟨g, 0, none⟩) 1 [⟨z, a, x0, x1, body, A3, c3⟩] := by
  subst hl hg
  have e : w1.heap.size + 1 = (w1.alloc o).heap.size := by simp
  rw [e]
  refine NewF.one (((HO.below hb3).alloc o).alloc _) (fnd_cells (w1.alloc o) ⟨z, a, x0, x1, body, A3, c3⟩) (((ho3.mono hs).alloc o).alloc _) (fun k r hk g hg e2 => ?_)
  have h1 := (HO.wblock hk g hg).2
  have h2 := (ho3.block g e2).1
  omega

/-- what is asked of a device's zone: its words can be read -/
theorem specScanL (A : Option Addr) (n c B k : Nat) (q : Zq) (qs : List Zq) (w : World) (hr : Zns w B A n qs) (hB : B ≤ w.heap.size) (hn : n ≤ 1000000000000) (hq : qs[k]? = some q) (hl : q.words.length ≤ 1000000) :
    Calls Try.prog 57 #[.slice A n c, .int .i64 k] w fun e w' => ∃ A2 c2 m rs, e = .returned (.tuple #[.slice A2 m c2, .int .i64 ((scanW k q.words 0).2 : Int)]) ∧ OwnF w' w.heap.size A2 m c2 rs ∧
      fns rs = (scanW k q.words 0).1 ∧ Below w.heap.size w w' := by
  have hkn : k < n := by rw [← hr.1]; exact (List.getElem?_eq_some_iff.1 hq).1
  have HR := hide hr
  have HBB := hide hB
  have HQ := hide hq
  clear hr hq
  have k0 : (0 : Int) ≤ (k : Int) := by omega
  have k1 : (k : Int) < (n : Int) := by omega
  go_enter Try.func57, Try.ntmps57
  go_wp2
  go_loopw [6, 7] (fun o i wr => ∃ (a j c2 : Nat) (A2 : Option Addr) (rs : List Fq), a ≤ q.words.length ∧ j ≤ a ∧ i = .int .i64 a ∧ o = .slice A2 j c2 ∧ Hid (OwnF wr w.heap.size A2 j c2 rs) ∧
      Hid (fns rs ++ (scanW k q.words a).1 = (scanW k q.words 0).1) ∧ Hid ((scanW k q.words a).2 = (scanW k q.words 0).2) ∧ Hid (Below w.heap.size w wr)) (fun _ i _ => q.words.length - (intOf i).toNat)
  case atStart => exact ⟨0, 0, 0, _, [], Nat.zero_le _, Nat.le_refl _, rfl, rfl, OwnF.lit0 w _ (Nat.le_refl _), by show fns [] ++ _ = _; simp [fns], rfl, below_new w _⟩
  case round =>
    obtain ⟨a, j, c2, A2, rs, ha, hja, rfl, rfl, HO, HF, HE, HB⟩ := hrel
    have hs := HB.out.size
    have hR := HR.out.below HB.out HBB.out
    obtain ⟨ad, p, rfl, hp, hb, hc0, hc1, hc2⟩ := hR.at_ HQ.out
    obtain ⟨hi, hle, hcm⟩ := hR.words HQ.out
    have HI := hide (hi.more (show B ≤ wr.heap.size by omega))
    clear hR hi
    obtain ⟨xs, sy, fu, qa, qc⟩ := q
    simp only [Zq.sl] at hc0 hle hl ha HI HF HE
    obtain ⟨m, hm⟩ : ∃ m, xs.length = m := ⟨_, rfl⟩
    rw [hm] at hc0 hle hl ha HI
    have HM := hide hm
    clear hm
    have hqm : qc ≤ 9223372036854775807 := by unfold maxLen at hcm; omega
    by_cases hlt : a < m
    · have a1 : (a : Int) < (m : Int) := by omega
      by_cases hG : goodF xs xs.length (a : Int)
      · have HY := hide (scanW_yes (k : Int) hG)
        obtain ⟨gl, gm, gv, gs⟩ := good_len hG
        clear hG
        rw [HM.out] at gl
        have HFN : Hid (fnAt (k : Int) xs a = ((k : Int), (a : Int), xs.getD a 0, xs.getD (a + 1) 0, cutW xs (a + 3) (lenAt xs a))) := rfl
        have hbl := cutW_length xs (a + 3) (lenAt xs a) (by rw [HM.out]; omega)
        generalize hL : lenAt xs a = l at *
        generalize hX0 : xs.getD a 0 = x0 at *
        generalize hX1 : xs.getD (a + 1) 0 = x1 at *
        generalize hX3 : xs.getD (a + 3 + l) 0 = x3 at *
        have HC := hide (specGet_yes qa m qc a l (a : Int) xs wr rfl HI.out hle hqm (by omega) gm gl x0 x1 x3 hX0 hX1 hX3 gv gs)
        clear hX0 hX1 hX3 gm gv gs hL
        generalize cutW xs (a + 3) l = body at *
        have HBL := hide hbl
        clear hbl
        go_wp2_with fail
        refine HC.out.mono ?_
        rintro e w1 ⟨A3, c3, rfl, ho3, hb3⟩
        have HO3 := hide ho3
        have HB3 := hide hb3
        clear ho3 hb3
        have HNW := hide fun o => NewF.got (z := (k : Int)) (a := (a : Int)) (x0 := x0) (x1 := x1) HO.out hs HO3.out HB3.out HBL.out o (w1.heap.size + 1) rfl
        have hj9 : j + 1 ≤ 100000000000 := by omega
        have hw1 : w.heap.size ≤ w1.heap.size := Nat.le_trans hs HB3.out.size
        have hbz : ∀ o o' : Obj, w.heap.size ≤ ((w1.alloc o).alloc o').heap.size := fun o o' => by simp; omega
        go_wp2_with (at_builtin; refine wpList_append_fnds rfl (.tmp 35) (.tmp 40) rfl w.heap.size j c2 1 1 A2 (some ⟨w1.heap.size + 1, 0, none⟩) rs [⟨(k : Int), (a : Int), x0, x1, body, A3, c3⟩] rfl rfl (HNW.out _) hj9 (hbz _ _) ?_; intro A4 c4 w4 ho4 hg4 hat4; clear hat4)
        have hB4 := below_app_f ((((HB.out.trans (HB3.out.mono hs)).alloc hw1 _))) (by simp; omega) ((HO.out.below HB3.out).alloc _) (Nat.le_refl _) hg4
        have HB4 := hide hB4
        have HO4 := hide ho4
        clear ho4 hg4 hB4
        go_roundw
        case rel => exact ⟨a + 4 + l, j + 1, c4, A4, _, by rw [HM.out]; exact gl, by omega, by go_num, rfl, HO4.out, by show fns (rs ++ [_]) ++ _ = _; rw [fns_append, ← HF.out, HY.out, HFN.out]; simp [fns, Fq.fn], by show _ = _; rw [← HE.out, HY.out], HB4.out⟩
        case measure => have := HM.out; simp [intOf]; omega
      · have HC := specGet_no qa m qc (a : Int) xs wr HI.out hle hqm (by omega) (by omega) (by rw [← HM.out]; exact hG)
        unfold noFrame at HC
        replace HC := hide HC
        have HN := hide (scanW_no (k : Int) hG)
        clear hG
        go_wp2_with fail
        refine HC.out.mono ?_
        rintro e w1 ⟨rfl, hb3⟩
        have HB3 := hide hb3
        clear hb3
        go_wp2
        try simp only [Exit.inBlock, Exit.then]
        refine bodyPost_ret (results_tmp2 rfl _ _ _) rfl ?_
        have h1 := HF.out
        have h2 := HE.out
        rw [HN.out] at h1 h2
        simp only [List.append_nil] at h1 h2
        exact ⟨A2, c2, j, by rw [← h2]; rfl, rs, ((HO.out.below HB3.out).alloc _), h1, (HB.out.trans (HB3.out.mono hs)).alloc (Nat.le_trans hs HB3.out.size) _⟩
    · have HN := hide (scanW_past (k : Int) (xs := xs) (a := a) (by rw [HM.out]; omega))
      have a1 : (m : Int) ≤ (a : Int) := by omega
      go_wp2
      try simp only [Exit.inBlock, Exit.then]
      refine bodyPost_ret (results_tmp2 rfl _ _ _) rfl ?_
      have h1 := HF.out
      have h2 := HE.out
      rw [HN.out] at h1 h2
      simp only [List.append_nil] at h1 h2
      exact ⟨A2, c2, j, by rw [← h2]; rfl, rs, HO.out, h1, HB.out⟩

/-- the words of a zone of a valid device -/
theorem devV_words {qs : List Zq} {k : Nat} {q : Zq} (hv : devV (zns qs) = true) (hq : qs[k]? = some q) : q.words.length ≤ 64 := by
  unfold devV at hv
  rw [Bool.and_eq_true] at hv
  have h := List.all_eq_true.1 hv.1 q.zn (by unfold zns; exact List.mem_map.2 ⟨q, List.mem_of_getElem? hq, rfl⟩)
  unfold zoneOk Zq.zn at h
  simp at h
  omega
theorem devV_is4 {qs : List Zq} {n : Nat} (hv : devV (zns qs) = true) (hl : qs.length = n) : n = 4 := by
  unfold devV at hv
  simp [zns] at hv
  omega
/-- what ScanZone answers: the frames, and the place behind them -/
noncomputable def scanZ (d : Dev) (z : Int) : List Fn × Nat := if devV d && inB z 0 3 then scanW z (d.getD z.toNat ([], 0, false)).1 0 else ([], 0)
theorem scanZ_no {d : Dev} {z : Int} (h : (devV d && inB z 0 3) = false) : scanZ d z = ([], 0) := by unfold scanZ; rw [h]; rfl
theorem scanZ_yes {qs : List Zq} {k : Nat} {q : Zq} (hd : devV (zns qs) = true) (hk : k < 4) (hq : qs[k]? = some q) : scanZ (zns qs) (k : Int) = scanW (k : Int) q.words 0 := by
  unfold scanZ
  rw [hd, inB_true (by omega) (by omega)]
  simp [zns, List.getD, hq, Zq.zn]
/-- what a scan of a zone hands back -/
def ScanPost (w : World) (want : List Fn × Nat) (e : Ending) (w' : World) : Prop :=
  ∃ A2 c2 m rs, e = .returned (.tuple #[.slice A2 m c2, .int .i64 (want.2 : Int)]) ∧ OwnF w' w.heap.size A2 m c2 rs ∧ fns rs = want.1 ∧ Below w.heap.size w w'

end Go.Proofs.Ytcocboigjfjnfac

/- HeapM -/
namespace Go.Proofs.Ytcocboigjfjnfac
open Go.RowKit
set_option linter.unusedVariables false
set_option maxRecDepth 100000

/-! ### The order: number, zone, word -/
def cmpI (x y : Int) : Int := if x < y then -1 else if y < x then 1 else 0
def cmpF (f g : Fn) : Int := if cmpI (seqOf f) (seqOf g) = 0 then (if cmpI f.1 g.1 = 0 then cmpI f.2.1 g.2.1 else cmpI f.1 g.1) else cmpI (seqOf f) (seqOf g)
def ltF (f g : Fn) : Prop := seqOf f < seqOf g ∨ (seqOf f = seqOf g ∧ (f.1 < g.1 ∨ (f.1 = g.1 ∧ f.2.1 < g.2.1)))
def leF (f g : Fn) : Prop := ¬ ltF g f
theorem cmpI_lt {x y : Int} : cmpI x y < 0 ↔ x < y := by
  unfold cmpI
  by_cases h : x < y
  · rw [if_pos h]; omega
  · rw [if_neg h]; by_cases h2 : y < x
    · rw [if_pos h2]; omega
    · rw [if_neg h2]; omega
theorem cmpI_eq {x y : Int} : cmpI x y = 0 ↔ x = y := by
  unfold cmpI
  by_cases h : x < y
  · rw [if_pos h]; omega
  · rw [if_neg h]; by_cases h2 : y < x
    · rw [if_pos h2]; omega
    · rw [if_neg h2]; omega
theorem cmpF_lt {f g : Fn} : cmpF f g < 0 ↔ ltF f g := by
  unfold cmpF ltF
  by_cases h1 : seqOf f = seqOf g
  · rw [if_pos (cmpI_eq.2 h1)]
    by_cases h2 : f.1 = g.1
    · rw [if_pos (cmpI_eq.2 h2), cmpI_lt]; omega
    · rw [if_neg (fun h => h2 (cmpI_eq.1 h)), cmpI_lt]; omega
  · rw [if_neg (fun h => h1 (cmpI_eq.1 h)), cmpI_lt]; omega
theorem ltF_irrefl (x : Fn) : ¬ ltF x x := by unfold ltF; omega
theorem ltF_trans {x y z : Fn} (h1 : ltF x y) (h2 : ltF y z) : ltF x z := by unfold ltF at *; omega
theorem ltF_asymm {x y : Fn} (h1 : ltF x y) : ¬ ltF y x := by unfold ltF at *; omega
theorem ltF_ntrans {x y z : Fn} (h1 : ¬ ltF x y) (h2 : ¬ ltF y z) : ¬ ltF x z := by unfold ltF at *; omega
theorem ltF_of {x y z : Fn} (h1 : ltF x y) (h2 : ¬ ltF z y) : ¬ ltF z x := by unfold ltF at *; omega
theorem leF_refl (x : Fn) : leF x x := ltF_irrefl x
theorem leF_trans {x y z : Fn} (h1 : leF x y) (h2 : leF y z) : leF x z := by unfold leF ltF at *; omega
theorem leF_key {x y : Fn} (h1 : leF x y) (h2 : leF y x) : seqOf x = seqOf y ∧ x.1 = y.1 ∧ x.2.1 = y.2.1 := by unfold leF ltF at *; omega
theorem leF_seq {x y : Fn} (h1 : leF x y) : seqOf x ≤ seqOf y := by unfold leF ltF at *; omega

/-! ### The heap: K tells the first frame of each list -/
def HpOk (K : Nat → Fn) (n : Nat) : Prop := ∀ c, 0 < c → c < n → ¬ ltF (K c) (K ((c - 1) / 2))
def HpUp (K : Nat → Fn) (n j : Nat) : Prop := (∀ c, 0 < c → c < n → c ≠ j → ¬ ltF (K c) (K ((c - 1) / 2))) ∧ ∀ c, 0 < c → c < n → (c - 1) / 2 = j → 0 < j → ¬ ltF (K c) (K ((j - 1) / 2))
def HpDn (K : Nat → Fn) (n i : Nat) : Prop := (∀ c, 0 < c → c < n → (c - 1) / 2 ≠ i → ¬ ltF (K c) (K ((c - 1) / 2))) ∧ ∀ c, 0 < c → c < n → (c - 1) / 2 = i → 0 < i → ¬ ltF (K c) (K ((i - 1) / 2))
def swK (K : Nat → Fn) (i j : Nat) : Nat → Fn := fun k => if k = i then K j else if k = j then K i else K k
theorem swK_i (K : Nat → Fn) (i j : Nat) : swK K i j i = K j := by unfold swK; rw [if_pos rfl]
theorem swK_j {K : Nat → Fn} {i j : Nat} (h : j ≠ i) : swK K i j j = K i := by unfold swK; rw [if_neg h, if_pos rfl]
theorem swK_k {K : Nat → Fn} {i j k : Nat} (h : k ≠ i) (h2 : k ≠ j) : swK K i j k = K k := by unfold swK; rw [if_neg h, if_neg h2]
theorem HpOk.root {K : Nat → Fn} {n : Nat} (h : HpOk K n) : ∀ c, c < n → ¬ ltF (K c) (K 0) := by
  have : ∀ m c, c ≤ m → c < n → ¬ ltF (K c) (K 0) := by
    intro m
    induction m with
    | zero => intro c hc hn; obtain rfl : c = 0 := by omega
              exact ltF_irrefl _
    | succ m ih =>
      intro c hc hn
      rcases Nat.eq_zero_or_pos c with rfl | h0
      · exact ltF_irrefl _
      · exact ltF_ntrans (h c h0 hn) (ih _ (by omega) (by omega))
  exact fun c hc => this c c (Nat.le_refl _) hc
theorem HpOk.last {K : Nat → Fn} {n : Nat} (h : HpOk K n) (K' : Nat → Fn) (hk : ∀ c, c < n → K' c = K c) : HpUp K' (n + 1) n := by
  refine ⟨fun c h0 hn hc => ?_, fun c h0 hn hc => by omega⟩
  rw [hk c (by omega), hk _ (by omega)]
  exact h c h0 (by omega)
theorem HpUp.done0 {K : Nat → Fn} {n : Nat} (h : HpUp K n 0) : HpOk K n := fun c h0 hn => h.1 c h0 hn (by omega)
theorem HpUp.done {K : Nat → Fn} {n j : Nat} (h : HpUp K n j) (hl : ¬ ltF (K j) (K ((j - 1) / 2))) : HpOk K n := fun c h0 hn => by
  by_cases hc : c = j
  · subst hc; exact hl
  · exact h.1 c h0 hn hc
theorem HpUp.step {K : Nat → Fn} {n j i : Nat} (h : HpUp K n j) (hj : 0 < j) (hjn : j < n) (hi : (j - 1) / 2 = i) (hl : ltF (K j) (K i)) : HpUp (swK K i j) n i := by
  have hij : j ≠ i := by omega
  refine ⟨fun c h0 hn hc => ?_, fun c h0 hn hp hi0 => ?_⟩
  · by_cases hcj : c = j
    · subst hcj
      rw [hi, swK_j hij, swK_i]
      exact ltF_asymm hl
    · rw [swK_k hc hcj]
      by_cases hpi : (c - 1) / 2 = i
      · rw [hpi, swK_i]
        have := h.1 c h0 hn hcj
        rw [hpi] at this
        exact ltF_of hl this
      · by_cases hpj : (c - 1) / 2 = j
        · rw [hpj, swK_j hij, ← hi]
          exact h.2 c h0 hn hpj hj
        · rw [swK_k hpi hpj]
          exact h.1 c h0 hn hcj
  · rw [swK_k (show (i - 1) / 2 ≠ i by omega) (show (i - 1) / 2 ≠ j by omega)]
    have hpar := h.1 i hi0 (by omega) (fun e => hij e.symm)
    by_cases hcj : c = j
    · subst hcj
      rw [swK_j hij]
      exact hpar
    · rw [swK_k (by omega) hcj]
      have := h.1 c h0 hn hcj
      rw [hp] at this
      exact ltF_ntrans this hpar

theorem HpOk.top {K : Nat → Fn} {n : Nat} (h : HpOk K (n + 1)) : HpDn (swK K 0 n) n 0 := by
  refine ⟨fun c h0 hn hc => ?_, fun c h0 hn hc hi => absurd hi (by omega)⟩
  rw [swK_k (by omega) (by omega), swK_k hc (by omega)]
  exact h c h0 (by omega)
theorem HpDn.leaf {K : Nat → Fn} {n i : Nat} (h : HpDn K n i) (hn : n ≤ 2 * i + 1) : HpOk K n := fun c h0 hc => h.1 c h0 hc (by omega)
/-- j is the child of i that is not greater than the other one -/
structure Child (K : Nat → Fn) (n i j : Nat) : Prop where
  par : (j - 1) / 2 = i
  pos : 0 < j
  lt : j < n
  min : ∀ c, 0 < c → c < n → (c - 1) / 2 = i → ¬ ltF (K c) (K j)
theorem child_one {K : Nat → Fn} {n i : Nat} (h : 2 * i + 1 < n) (h2 : ¬ 2 * i + 2 < n) : Child K n i (2 * i + 1) :=
  ⟨by omega, by omega, h, fun c h0 hc hp => by obtain rfl : c = 2 * i + 1 := by omega
                                               exact ltF_irrefl _⟩
theorem child_left {K : Nat → Fn} {n i : Nat} (h : 2 * i + 1 < n) (hl : ¬ ltF (K (2 * i + 2)) (K (2 * i + 1))) : Child K n i (2 * i + 1) :=
  ⟨by omega, by omega, h, fun c h0 hc hp => by
    rcases (show c = 2 * i + 1 ∨ c = 2 * i + 2 by omega) with rfl | rfl
    · exact ltF_irrefl _
    · exact hl⟩
theorem child_right {K : Nat → Fn} {n i : Nat} (h : 2 * i + 2 < n) (hl : ltF (K (2 * i + 2)) (K (2 * i + 1))) : Child K n i (2 * i + 2) :=
  ⟨by omega, by omega, h, fun c h0 hc hp => by
    rcases (show c = 2 * i + 1 ∨ c = 2 * i + 2 by omega) with rfl | rfl
    · exact ltF_asymm hl
    · exact ltF_irrefl _⟩
theorem HpDn.done {K : Nat → Fn} {n i j : Nat} (h : HpDn K n i) (hc : Child K n i j) (hl : ¬ ltF (K j) (K i)) : HpOk K n := fun c h0 hn => by
  by_cases hp : (c - 1) / 2 = i
  · rw [hp]; exact ltF_ntrans (hc.min c h0 hn hp) hl
  · exact h.1 c h0 hn hp
theorem HpDn.step {K : Nat → Fn} {n i j : Nat} (h : HpDn K n i) (hc : Child K n i j) (hl : ltF (K j) (K i)) : HpDn (swK K i j) n j := by
  have h1 := hc.par
  have h2 := hc.pos
  have h3 := hc.lt
  have hij : j ≠ i := by omega
  refine ⟨fun c h0 hn hp => ?_, fun c h0 hn hp hj => ?_⟩
  · by_cases hci : c = i
    · subst hci
      rw [swK_i, swK_k (show (c - 1) / 2 ≠ c by omega) hp]
      exact h.2 j h2 h3 h1 h0
    · by_cases hcj : c = j
      · subst hcj
        rw [swK_j hij, h1, swK_i]
        exact ltF_asymm hl
      · rw [swK_k hci hcj]
        by_cases hpi : (c - 1) / 2 = i
        · rw [hpi, swK_i]
          exact hc.min c h0 hn hpi
        · rw [swK_k hpi hp]
          exact h.1 c h0 hn hpi
  · rw [h1, swK_i, swK_k (by omega) (by omega)]
    have := h.1 c h0 hn (by omega)
    rw [hp] at this
    exact this

/-! ### Lists that are exchanged -/
section
variable {α : Type}
def swL (l : List α) (i j : Nat) : List α := match l[i]?, l[j]? with
  | some x, some y => (l.set i y).set j x
  | _, _ => l
theorem swL_eq {l : List α} {i j : Nat} {x y : α} (hx : l[i]? = some x) (hy : l[j]? = some y) : swL l i j = (l.set i y).set j x := by unfold swL; rw [hx, hy]
theorem swL_length (l : List α) (i j : Nat) : (swL l i j).length = l.length := by
  unfold swL
  rcases l[i]? with _ | x
  · rfl
  · rcases l[j]? with _ | y
    · rfl
    · simp
theorem swL_perm (l : List α) (i j : Nat) : (swL l i j).Perm l := by
  unfold swL
  rcases hx : l[i]? with _ | x
  · exact List.Perm.refl _
  · rcases hy : l[j]? with _ | y
    · exact List.Perm.refl _
    · obtain ⟨hi, rfl⟩ := List.getElem?_eq_some_iff.1 hx
      obtain ⟨hj, rfl⟩ := List.getElem?_eq_some_iff.1 hy
      exact List.set_set_perm hi hj
theorem swL_get (l : List α) {i j : Nat} (hi : i < l.length) (hj : j < l.length) (k : Nat) : (swL l i j)[k]? = if k = i then l[j]? else if k = j then l[i]? else l[k]? := by
  rw [swL_eq (List.getElem?_eq_getElem hi) (List.getElem?_eq_getElem hj)]
  by_cases hkj : k = j
  · subst hkj
    rw [List.getElem?_set_self (by simpa using hj)]
    by_cases hki : k = i
    · subst hki; rw [if_pos rfl]; exact (List.getElem?_eq_getElem hi).symm
    · rw [if_neg hki, if_pos rfl]; exact (List.getElem?_eq_getElem hi).symm
  · rw [List.getElem?_set_ne (Ne.symm hkj)]
    by_cases hki : k = i
    · subst hki
      rw [if_pos rfl, List.getElem?_set_self hi]
      exact (List.getElem?_eq_getElem hj).symm
    · rw [if_neg hki, if_neg hkj, List.getElem?_set_ne (Ne.symm hki)]
theorem swL_map {β : Type} (f : α → β) (l : List α) (i j : Nat) : (swL l i j).map f = swL (l.map f) i j := by
  unfold swL
  rw [List.getElem?_map, List.getElem?_map]
  rcases l[i]? with _ | x
  · rfl
  · rcases l[j]? with _ | y
    · rfl
    · simp [List.map_set]
end

/-! ### A merge of ordered lists -/
def f0 : Fn := (0, 0, 0, 0, [])
def hdF (gs : List Fn) : Fn := gs.headD f0
def keyL (ls : List (List Fn)) : Nat → Fn := fun k => hdF (ls.getD k [])
theorem keyL_sw {ls : List (List Fn)} {i j : Nat} (hi : i < ls.length) (hj : j < ls.length) : keyL (swL ls i j) = swK (keyL ls) i j := by
  funext k
  unfold keyL swK
  simp only [List.getD, swL_get ls hi hj k]
  by_cases h : k = i
  · rw [if_pos h, if_pos h]
  · rw [if_neg h, if_neg h]
    by_cases h2 : k = j
    · rw [if_pos h2, if_pos h2]
    · rw [if_neg h2, if_neg h2]
/-- what a merge knows: 'out' was taken, 'ls' are the lists that are left, 'all' is everything -/
structure Mrg (out : List Fn) (ls : List (List Fn)) (all : List Fn) : Prop where
  perm : (out ++ ls.flatten).Perm all
  full : ∀ g ∈ ls, g ≠ []
  asc : ∀ g ∈ ls, g.Pairwise leF
  srt : out.Pairwise leF
  low : ∀ x ∈ out, ∀ g ∈ ls, ∀ y ∈ g, leF x y
theorem Mrg.perms {out : List Fn} {ls ls' : List (List Fn)} {all : List Fn} (h : Mrg out ls all) (hp : ls'.Perm ls) : Mrg out ls' all :=
  ⟨(List.Perm.append_left out hp.flatten).trans h.perm, fun g hg => h.full g (hp.mem_iff.1 hg), fun g hg => h.asc g (hp.mem_iff.1 hg), h.srt, fun x hx g hg => h.low x hx g (hp.mem_iff.1 hg)⟩
theorem Mrg.add {ls : List (List Fn)} {all g : List Fn} (h : Mrg [] ls all) (hg : g ≠ []) (ha : g.Pairwise leF) : Mrg [] (ls ++ [g]) (all ++ g) := by
  refine ⟨?_, fun x hx => ?_, fun x hx => ?_, List.Pairwise.nil, fun x hx => by simp at hx⟩
  · have := h.perm
    simp only [List.nil_append, List.flatten_append, List.flatten_cons, List.flatten_nil, List.append_nil] at this ⊢
    exact this.append_right g
  · simp only [List.mem_append, List.mem_singleton] at hx
    rcases hx with hx | rfl
    · exact h.full x hx
    · exact hg
  · simp only [List.mem_append, List.mem_singleton] at hx
    rcases hx with hx | rfl
    · exact h.asc x hx
    · exact ha
theorem Mrg.empty {ls : List (List Fn)} {all : List Fn} (h : Mrg [] ls all) : Mrg [] ls (all ++ []) := by rw [List.append_nil]; exact h
theorem Mrg.none : Mrg [] [] [] := ⟨List.Perm.refl _, by simp, by simp, List.Pairwise.nil, by simp⟩
/-- the first frame of all is taken, what is left of its list stays -/
theorem Mrg.take {out : List Fn} {ls : List (List Fn)} {all t : List Fn} {x : Fn} (h : Mrg out ((x :: t) :: ls) all) (hm : ∀ g ∈ ls, ∀ y, g.head? = some y → leF x y) :
    Mrg (out ++ [x]) (if t = [] then ls else ls ++ [t]) all := by
  have hx := h.asc _ (List.mem_cons_self)
  have hxt := (List.pairwise_cons.1 hx).1
  have ht := (List.pairwise_cons.1 hx).2
  have hlow : ∀ g ∈ ls, ∀ y ∈ g, leF x y := by
    intro g hg y hy
    have hgne := h.full g (List.mem_cons_of_mem _ hg)
    obtain ⟨z, g', rfl⟩ := List.exists_cons_of_ne_nil hgne
    have h1 := hm _ hg z rfl
    rcases List.mem_cons.1 hy with rfl | hy
    · exact h1
    · exact leF_trans h1 ((List.pairwise_cons.1 (h.asc _ (List.mem_cons_of_mem _ hg))).1 y hy)
  have hout : (out ++ [x]).Pairwise leF := List.pairwise_append.2 ⟨h.srt, List.pairwise_singleton _ _, fun a ha b hb => by
    simp only [List.mem_singleton] at hb
    subst hb
    exact h.low a ha _ List.mem_cons_self _ List.mem_cons_self⟩
  by_cases hte : t = []
  · rw [if_pos hte]
    subst hte
    refine ⟨?_, fun g hg => h.full g (List.mem_cons_of_mem _ hg), fun g hg => h.asc g (List.mem_cons_of_mem _ hg), hout, fun a ha g hg y hy => ?_⟩
    · have := h.perm
      simpa using this
    · simp only [List.mem_append, List.mem_singleton] at ha
      rcases ha with ha | rfl
      · exact h.low a ha g (List.mem_cons_of_mem _ hg) y hy
      · exact hlow g hg y hy
  · rw [if_neg hte]
    have mem : ∀ g ∈ ls ++ [t], g ∈ ls ∨ g = t := fun g hg => by simpa using hg
    refine ⟨?_, fun g hg => ?_, fun g hg => ?_, hout, fun a ha g hg y hy => ?_⟩
    · have := h.perm
      refine List.Perm.trans ?_ this
      simp only [List.flatten_append, List.flatten_cons, List.flatten_nil, List.append_nil, List.append_assoc, List.cons_append, List.nil_append]
      exact List.Perm.append_left out (List.Perm.cons x List.perm_append_comm)
    · rcases mem g hg with hg | rfl
      · exact h.full g (List.mem_cons_of_mem _ hg)
      · exact hte
    · rcases mem g hg with hg | rfl
      · exact h.asc g (List.mem_cons_of_mem _ hg)
      · exact ht
    · simp only [List.mem_append, List.mem_singleton] at ha
      rcases ha with ha | rfl
      · rcases mem g hg with hg | rfl
        · exact h.low a ha g (List.mem_cons_of_mem _ hg) y hy
        · exact h.low a ha _ List.mem_cons_self y (List.mem_cons_of_mem _ hy)
      · rcases mem g hg with hg | rfl
        · exact hlow g hg y hy
        · exact hxt y hy
theorem Mrg.end_ {out all : List Fn} (h : Mrg out [] all) : out.Perm all ∧ out.Pairwise leF := ⟨by simpa using h.perm, h.srt⟩

/-! ### The same as the document's order -/
theorem placeF_perm (fs : List Fn) (x : Fn) : (insF fs x).Perm (x :: fs) := by
  unfold insF
  refine List.Perm.trans List.perm_middle ?_
  rw [List.take_append_drop]
theorem insAll_perm (gs : List Fn) : ∀ fs, (insAll fs gs).Perm (fs ++ gs) := by
  induction gs with
  | nil => intro fs; simp [insAll]
  | cons g gs ih =>
    intro fs
    show (insAll (insF fs g) gs).Perm _
    refine (ih _).trans (((placeF_perm fs g).append_right gs).trans ?_)
    exact List.perm_middle.symm
theorem foldAll_perm (zs : List (List Fn)) : ∀ fs, (zs.foldl insAll fs).Perm (fs ++ zs.flatten) := by
  induction zs with
  | nil => intro fs; simp
  | cons g gs ih =>
    intro fs
    rw [List.foldl_cons, List.flatten_cons, ← List.append_assoc]
    exact (ih _).trans ((insAll_perm g fs).append_right _)
theorem orderF_perm (zs : List (List Fn)) : (orderF zs).Perm zs.flatten := by unfold orderF; simpa using foldAll_perm zs []
/-- f lies ahead of x in its zone, or in an earlier zone -/
def ahF (f x : Fn) : Prop := f.1 < x.1 ∨ (f.1 = x.1 ∧ f.2.1 < x.2.1)
theorem insF_le {fs : List Fn} {x : Fn} (h : fs.Pairwise leF) (hx : ∀ f ∈ fs, ahF f x) : (insF fs x).Pairwise leF := by
  have hasc : ascF fs := h.imp fun h => leF_seq h
  obtain ⟨h1, h2⟩ := placeF_spec (x := x) hasc fs.length (Nat.le_refl _)
  have hl := placeF_le fs x fs.length
  unfold insF
  have ht : ∀ f ∈ fs.take (placeF fs x fs.length), leF f x := by
    intro f hf
    have ha := hx f (List.mem_of_mem_take hf)
    obtain ⟨j, hj⟩ := List.getElem?_of_mem hf
    have hlt : j < placeF fs x fs.length := by
      have := (List.getElem?_eq_some_iff.1 hj).1
      rw [List.length_take] at this
      omega
    rw [List.getElem?_take_of_lt hlt] at hj
    have := h1 j f hlt hj
    unfold leF ltF
    unfold ahF at ha
    omega
  have hd : ∀ f ∈ fs.drop (placeF fs x fs.length), leF x f := by
    intro f hf
    obtain ⟨j, hj⟩ := List.getElem?_of_mem hf
    rw [List.getElem?_drop] at hj
    have := (List.getElem?_eq_some_iff.1 hj).1
    have := h2 _ f (by omega) this hj
    unfold leF ltF
    omega
  refine List.pairwise_append.2 ⟨List.Pairwise.sublist (List.take_sublist _ _) h, List.pairwise_cons.2 ⟨hd, List.Pairwise.sublist (List.drop_sublist _ _) h⟩, fun f hf g hg => ?_⟩
  simp only [List.mem_cons] at hg
  rcases hg with rfl | hg
  · exact ht f hf
  · exact leF_trans (ht f hf) (hd g hg)
theorem insAll_le (gs : List Fn) : ∀ fs, fs.Pairwise leF → (∀ f ∈ fs, ∀ g ∈ gs, ahF f g) → gs.Pairwise ahF → (insAll fs gs).Pairwise leF := by
  induction gs with
  | nil => intro fs h _ _; exact h
  | cons g gs ih =>
    intro fs h hx hp
    refine ih _ (insF_le h (fun f hf => hx f hf g List.mem_cons_self)) (fun f hf k hk => ?_) (List.pairwise_cons.1 hp).2
    rcases (insF_mem fs g f).1 hf with rfl | hf
    · exact (List.pairwise_cons.1 hp).1 k hk
    · exact hx f hf k (List.mem_cons_of_mem _ hk)
theorem orderF_le (zs : List (List Fn)) (h1 : ∀ (i j : Nat) (a b : List Fn), i < j → zs[i]? = some a → zs[j]? = some b → ∀ f ∈ a, ∀ g ∈ b, f.1 < g.1) (h2 : ∀ g ∈ zs, g.Pairwise ahF) : (orderF zs).Pairwise leF := by
  have : ∀ (zs : List (List Fn)) (fs : List Fn), fs.Pairwise leF → (∀ f ∈ fs, ∀ a ∈ zs, ∀ g ∈ a, f.1 < g.1) → (zs.Pairwise fun a b => ∀ f ∈ a, ∀ g ∈ b, f.1 < g.1) → (∀ g ∈ zs, g.Pairwise ahF) → (zs.foldl insAll fs).Pairwise leF := by
    intro zs
    induction zs with
    | nil => intro fs h _ _ _; exact h
    | cons a zs ih =>
      intro fs h hf hp ha
      rw [List.foldl_cons]
      refine ih _ (insAll_le a fs h (fun f hf' g hg => .inl (hf f hf' a List.mem_cons_self g hg)) (ha a List.mem_cons_self)) (fun f hf' b hb g hg => ?_) (List.pairwise_cons.1 hp).2 (fun g hg => ha g (List.mem_cons_of_mem _ hg))
      rcases (insAll_mem a f fs).1 hf' with hfa | hff
      · exact (List.pairwise_cons.1 hp).1 b hb f hfa g hg
      · exact hf f hff b (List.mem_cons_of_mem _ hb) g hg
  refine this zs [] List.Pairwise.nil (by simp) ?_ h2
  rw [List.pairwise_iff_getElem]
  intro i j hi hj hij f hf g hg
  exact h1 i j _ _ hij (List.getElem?_eq_getElem hi) (List.getElem?_eq_getElem hj) f hf g hg
theorem orderF_eq {out : List Fn} {zs : List (List Fn)} (h : (orderF zs).Pairwise leF) (hk : ∀ f ∈ zs.flatten, ∀ g ∈ zs.flatten, f.1 = g.1 → f.2.1 = g.2.1 → f = g) (hp : out.Perm zs.flatten) (ho : out.Pairwise leF) : out = orderF zs := by
  refine List.Perm.eq_of_pairwise (le := leF) (fun a b ha hb h1 h2 => ?_) ho h (hp.trans (orderF_perm zs).symm)
  obtain ⟨_, e1, e2⟩ := leF_key h1 h2
  exact hk a (hp.mem_iff.1 ha) b ((orderF_perm zs).mem_iff.1 hb) e1 e2
end Go.Proofs.Ytcocboigjfjnfac

/- Mrg -/
namespace Go.Proofs.Ytcocboigjfjnfac
open Go.RowKit
set_option linter.unusedVariables false
set_option maxRecDepth 100000

/-- a list of the heap: where it lies, its frames -/
structure Hq where
  addr : Option Addr
  cap : Nat
  qs : List Fq
def Hq.sl (h : Hq) : Value := .slice h.addr h.qs.length h.cap
def Hq.fs (h : Hq) : List Fn := fns h.qs
def slH (hs : List Hq) : List Value := hs.map Hq.sl
def fnH (hs : List Hq) : List (List Fn) := hs.map Hq.fs
theorem slH_length (hs : List Hq) : (slH hs).length = hs.length := by unfold slH; rw [List.length_map]
theorem slH_get {hs : List Hq} {k : Nat} {h : Hq} (e : hs[k]? = some h) : (slH hs)[k]? = some h.sl := by unfold slH; rw [List.getElem?_map, e]; rfl
theorem slH_one (hs : List Hq) : ∀ u ∈ slH hs, u.oneCell' = true := by
  intro u hu
  obtain ⟨h, _, rfl⟩ := List.mem_map.1 hu
  rfl
theorem fnH_length (hs : List Hq) : (fnH hs).length = hs.length := by unfold fnH; rw [List.length_map]
theorem keyL_at {hs : List Hq} {k : Nat} {h : Hq} (e : hs[k]? = some h) : keyL (fnH hs) k = hdF h.fs := by
  unfold keyL fnH
  simp [List.getD, List.getElem?_map, e]

/-- only cells of mergers and rows of lists are turned; what lies below base is as it was -/
structure Trn (base : Nat) (w w' : World) : Prop where
  below : Below base w w'
  keep : ∀ k cs t, Blk w k t cs → t ≠ 53 → t ≠ 25 → Blk w' k t cs
section
variable {base : Nat} {a b w w' : World}
theorem Trn.refl (base : Nat) (w : World) : Trn base w w := ⟨Below.refl _ _, fun _ _ _ h _ _ => h⟩
theorem Trn.trans {c : World} (h : Trn base a b) (k : Trn base b c) : Trn base a c := ⟨h.below.trans k.below, fun i cs t e h1 h2 => k.keep i cs t (h.keep i cs t e h1 h2) h1 h2⟩
theorem Trn.of_below (h : Below w.heap.size w w') (hb : base ≤ w.heap.size) : Trn base w w' :=
  ⟨h.mono hb, fun k cs t e _ _ => e.below h e.lt⟩
theorem Trn.drewN (h : Trn base a w) (i : Nat) : Trn base a (w.drewN i) := ⟨below_drewN h.below i, h.keep⟩
theorem Trn.undrewN {i : Nat} (h : Trn base (a.drewN i) w) : Trn base a w := ⟨⟨h.below.os, h.below.tape, h.below.output, h.below.size, h.below.block⟩, h.keep⟩
theorem Trn.alloc (h : Trn base a w) (hb : base ≤ w.heap.size) (o : Obj) : Trn base a (w.alloc o) := h.trans (.of_below ((Below.refl _ w).alloc (Nat.le_refl _) o) hb)
theorem Trn.size (h : Trn base w w') : w.heap.size ≤ w'.heap.size := h.below.size
/-- one block of a merger or of a row of lists is turned -/
theorem Trn.of_grown {g : Nat} {cs : Array Value} {t : TypeId} (h : w.grownBy w' (some g)) (hg : base ≤ g) (hw : base ≤ w.heap.size) (hb : Blk w g t cs) (ht : t = 53 ∨ t = 25) : Trn base w w' :=
  ⟨below_of_grown' h hw (by intro q hq; injection hq with hq; omega), fun k cs' t' e h1 h2 => by
    have hl : k < w.heap.size := e.lt
    have hne : k ≠ g := by
      intro e2
      subst e2
      unfold Blk at hb e
      rw [hb] at e
      injection e with e
      injection e with e3 e4
      rcases ht with ht | ht
      · exact h1 (e4.symm.trans ht)
      · exact h2 (e4.symm.trans ht)
    exact e.grown h (by intro e2; injection e2 with e2; exact hne e2)⟩
theorem Trn.blk {k : Nat} {t : TypeId} {cs : Array Value} (h : Trn base w w') (hb : Blk w k t cs) (h1 : t ≠ 53) (h2 : t ≠ 25) : Blk w' k t cs := h.keep k cs t hb h1 h2
theorem Trn.row {B n s : Nat} {t : TypeId} {v : Value} {xs : List Value} (h : Trn base w w') (hr : w.ownsRow B t s v n xs) (h1 : t ≠ 53) (h2 : t ≠ 25) : w'.ownsRow B t s v n xs := by
  refine ⟨hr.1, ?_⟩
  rcases hr.2 with h0 | ⟨g, cap, cur, e1, e2, e3, e4⟩
  · exact .inl h0
  · exact .inr ⟨g, cap, cur, e1, e2, h.keep g cur t e3 h1 h2, e4⟩
theorem Trn.own {B n c : Nat} {A : Option Addr} {xs : List Int} (h : Trn base w w') (ho : Own w B A n c xs) : Own w' B A n c xs := ⟨ho.1, h.row ho.2 (by decide) (by decide)⟩
theorem Trn.ownF {B n c : Nat} {A : Option Addr} {qs : List Fq} (h : Trn base w w') (ho : OwnF w B A n c qs) : OwnF w' B A n c qs :=
  ⟨ho.len, h.row ho.row (by decide) (by decide), fun k q hk => h.own (ho.own k q hk), ho.sep⟩
end

/-- a list of the heap: its frames can be read, in a block of frames; it has some -/
structure LstOk (w : World) (base : Nat) (h : Hq) : Prop where
  full : h.qs ≠ []
  cap : h.qs.length ≤ h.cap ∧ h.cap ≤ maxLen
  mem : ∃ (ad : Addr) (cs : Array Value), h.addr = some ad ∧ ad.spot = none ∧ base ≤ ad.block ∧ Blk w ad.block 35 cs ∧ ∀ j u, (flatF h.qs)[j]? = some u → w.cell? (ad.add j) = some u

section
variable {base : Nat} {w w' : World} {h : Hq}
theorem LstOk.trn (hl : LstOk w base h) (ht : Trn base w w') : LstOk w' base h := by
  obtain ⟨ad, cs, e, e2, hb, hk, hc⟩ := hl.mem
  have hk' := ht.keep _ _ _ hk (by decide) (by decide)
  exact ⟨hl.full, hl.cap, ad, cs, e, e2, hb, hk', fun j u hu => (World.cell?_of_block (by rw [block_of_add]; unfold Blk at hk hk'; rw [hk, hk'])).trans (hc j u hu)⟩
theorem LstOk.lt (hl : LstOk w base h) : ∃ ad, h.addr = some ad ∧ ad.block < w.heap.size := by
  obtain ⟨ad, cs, e, e2, hb, hk, hc⟩ := hl.mem
  exact ⟨ad, e, hk.lt⟩
/-- its first frame -/
theorem LstOk.head (hl : LstOk w base h) : ∃ (p : Addr) (q : Fq) (t : List Fq), h.addr = some p ∧ h.qs = q :: t ∧ 0 < h.qs.length ∧ p.block < w.heap.size ∧ w.cell? p = some (.int .i64 q.zone) ∧
    w.cell? ⟨p.block, p.off + 1, none⟩ = some (.int .i64 q.word) ∧ w.cell? ⟨p.block, p.off + 2, none⟩ = some (.int .i64 q.kind) ∧ w.cell? ⟨p.block, p.off + 3, none⟩ = some (.int .i64 q.seq) ∧ w.cell? ⟨p.block, p.off + 4, none⟩ = some q.sl := by
  obtain ⟨ad, cs, e, e2, hb, hk, hc⟩ := hl.mem
  obtain ⟨q, t, hq⟩ := List.exists_cons_of_ne_nil hl.full
  have hcs : ∀ j u, (q.cells)[j]? = some u → w.cell? (ad.add j) = some u := by
    intro j u hu
    refine hc j u ?_
    rw [hq]
    rcases j with _ | _ | _ | _ | _ | j
    · exact hu
    · exact hu
    · exact hu
    · exact hu
    · exact hu
    · simp [Fq.cells] at hu
  have next : ∀ {i : Nat} {v : Value}, i ≠ 0 → w.cell? (ad.add i) = some v → w.cell? ⟨ad.block, ad.off + i, none⟩ = some v := by
    intro i v hi h
    simpa [Addr.add, hi, e2] using h
  exact ⟨ad, q, t, e, hq, by rw [hq]; exact Nat.succ_pos _, hk.lt, by have := hcs 0 _ rfl; simpa [Addr.add] using this, next (by decide) (hcs 1 _ rfl), next (by decide) (hcs 2 _ rfl), next (by decide) (hcs 3 _ rfl), next (by decide) (hcs 4 _ rfl)⟩
/-- what is left of it, once the first frame is taken -/
theorem LstOk.tail {q q2 : Fq} {t : List Fq} (hl : LstOk w base h) (hq : h.qs = q :: q2 :: t) (ad : Addr) (e : h.addr = some ad) : LstOk w base ⟨some (ad.add 5), h.cap - 1, q2 :: t⟩ := by
  obtain ⟨ad', cs, e', e2, hb, hk, hc⟩ := hl.mem
  rw [e] at e'
  injection e' with e'
  subst e'
  have hcap := hl.cap
  rw [hq] at hcap
  simp only [List.length_cons] at hcap
  refine ⟨by simp, ⟨by simp only [List.length_cons]; omega, by have := hcap.2; show h.cap - 1 ≤ maxLen; omega⟩, ad.add 5, cs, rfl, by simp [Addr.add], by rw [block_of_add]; exact hb, by rw [block_of_add]; exact hk, fun j u hu => ?_⟩
  rw [add_of_add]
  refine hc (5 + j) u ?_
  rw [hq, show 5 + j = j + 1 + 1 + 1 + 1 + 1 by omega]
  simpa [flatF] using hu
end

/-- the heap in memory: its cell in block b, its row, its lists -/
structure Mg (w : World) (base b : Nat) (A : Option Addr) (n c : Nat) (hs : List Hq) : Prop where
  cell : Blk w b 53 #[.slice A n c]
  row : w.ownsRow base 25 1 (.slice A n c) n (slH hs)
  len : hs.length = n
  bb : base ≤ b
  lst : ∀ h ∈ hs, LstOk w base h
  small : n ≤ 1000
section
variable {base b n c : Nat} {w w' : World} {A : Option Addr} {hs : List Hq}
theorem Mg.below (h : Mg w base b A n c hs) (hb : Below w.heap.size w w') (hw : base ≤ w.heap.size) : Mg w' base b A n c hs :=
  ⟨h.cell.below hb h.cell.lt, h.row.kept (grown_of_below hb none) (by
    rcases hv : (Value.slice A n c).ownBlock with _ | g
    · exact .inl rfl
    · exact .inr (by simp)), h.len, h.bb, fun x hx => (h.lst x hx).trn (.of_below hb hw), h.small⟩
theorem Mg.drewN (h : Mg w base b A n c hs) (i : Nat) : Mg (w.drewN i) base b A n c hs := ⟨h.cell, h.row, h.len, h.bb, fun x hx => (h.lst x hx).trn ((Trn.refl _ _).drewN i), h.small⟩
theorem Mg.bw (h : Mg w base b A n c hs) : base ≤ w.heap.size := Nat.le_trans h.bb (Nat.le_of_lt h.cell.lt)
/-- list k of the row -/
theorem Mg.at_ (h : Mg w base b A n c hs) {k : Nat} {x : Hq} (hk : hs[k]? = some x) : ∃ g, A = some ⟨g, 0, none⟩ ∧ base ≤ g ∧ g < w.heap.size ∧ g ≠ b ∧ w.cell? ⟨g, k, none⟩ = some x.sl ∧ w.frozen? ⟨g, k, none⟩ = false ∧ ∃ cur, Blk w g 25 cur := by
  have hl : k < n := by rw [← h.len]; exact (List.getElem?_eq_some_iff.1 hk).1
  rcases h.row.2 with ⟨hv, h0⟩ | ⟨g, cap, cur, hv, hb, hh, hc, hm, hs', ht⟩
  · omega
  · injection hv with h1 h2 h3
    subst h1
    have hbl : Blk w g 25 cur := hh
    refine ⟨g, rfl, hb, hbl.lt, fun e => ?_, ?_, hbl.frozen k, cur, hbl⟩
    · subst e
      have hc := h.cell
      unfold Blk at hc
      rw [hc] at hh
      injection hh with hh
      injection hh with _ e4
      exact absurd e4 (by decide)
    · have hc := h.row.cells rfl k x.sl (slH_get hk)
      rwa [add_plain'] at hc
theorem Mg.nilA (h : Mg w base b A n c hs) : n ≤ c ∧ c ≤ maxLen := by
  rcases h.row.2 with ⟨hv, h0⟩ | ⟨g, cap, cur, hv, hb, hh, hc, hm, hs, ht⟩
  · injection hv with _ h1 h2; subst h1; subst h2; exact ⟨Nat.le_refl _, Nat.zero_le _⟩
  · injection hv with _ _ h2; subst h2; exact ⟨hc, hm⟩
end
end Go.Proofs.Ytcocboigjfjnfac

/- ImpN1 -/
namespace Go.Proofs.Ytcocboigjfjnfac
open Go.RowKit
set_option linter.unusedVariables false
set_option maxRecDepth 100000

theorem implScanL (A : Option Addr) (n c : Nat) (z : Int) (xs : List Int) (w : World) (hi : Ints w w.heap.size A n xs) (hle : n ≤ c) (hcm : c ≤ 9223372036854775807) (hl : n ≤ 1000000) :
    Calls Try.prog 24 #[.slice A n c, .int .i64 z] w (ScanPost w (scanW z xs 0)) := by
  have HI := hide hi
  have HM := hide hi.1
  clear hi
  go_enter Try.func24, Try.ntmps24
  go_wp2
  go_loopw [6, 7] (fun o i wr => ∃ (a j c2 : Nat) (A2 : Option Addr) (rs : List Fq), a ≤ n ∧ j ≤ a ∧ i = .int .i64 a ∧ o = .slice A2 j c2 ∧ Hid (OwnF wr w.heap.size A2 j c2 rs) ∧
      Hid (fns rs ++ (scanW z xs a).1 = (scanW z xs 0).1) ∧ Hid ((scanW z xs a).2 = (scanW z xs 0).2) ∧ Hid (Below w.heap.size w wr)) (fun _ i _ => n - (intOf i).toNat)
  case atStart => exact ⟨0, 0, 0, _, [], Nat.zero_le _, Nat.le_refl _, rfl, rfl, OwnF.nil_ w _, by show fns [] ++ _ = _; simp [fns], rfl, Below.refl _ _⟩
  case round =>
    obtain ⟨a, j, c2, A2, rs, ha, hja, rfl, rfl, HO, HF, HE, HB⟩ := hrel
    have hs := HB.out.size
    have HIR := hide ((HI.out.below HB.out (Nat.le_refl _)).more hs)
    by_cases hG : goodF xs xs.length (a : Int)
    · have HY := hide (scanW_yes z hG)
      obtain ⟨gl, gm, gv, gs⟩ := good_len hG
      have hb5 := (validF_iff.1 gv).2.2.1.1
      clear hG
      rw [HM.out] at gl
      have HFN : Hid (fnAt z xs a = (z, (a : Int), xs.getD a 0, xs.getD (a + 1) 0, cutW xs (a + 3) (lenAt xs a))) := rfl
      have hbl := cutW_length xs (a + 3) (lenAt xs a) (by rw [HM.out]; omega)
      generalize hL : lenAt xs a = l at *
      generalize hX0 : xs.getD a 0 = x0 at *
      generalize hX1 : xs.getD (a + 1) 0 = x1 at *
      generalize hX3 : xs.getD (a + 3 + l) 0 = x3 at *
      have HC := hide (implGet_yes0 A n c a l (a : Int) xs wr rfl HIR.out hle hcm (by omega) gm gl x0 x1 x3 hX0 hX1 hX3 gv gs)
      clear hX0 hX1 hX3 gm gv gs hL hb5
      generalize cutW xs (a + 3) l = body at *
      have HBL := hide hbl
      clear hbl
      go_wp2_with fail
      refine HC.out.mono ?_
      rintro e w1 ⟨A3, c3, rfl, ho3, hb3⟩
      have HO3 := hide ho3
      have HB3 := hide hb3
      clear ho3 hb3
      have HNW := hide fun o => NewF.got (z := z) (a := (a : Int)) (x0 := x0) (x1 := x1) HO.out hs HO3.out HB3.out HBL.out o (w1.heap.size + 1) rfl
      have hj9 : j + 1 ≤ 100000000000 := by omega
      have hw1 : w.heap.size ≤ w1.heap.size := Nat.le_trans hs HB3.out.size
      have hbz : ∀ o o' : Obj, w.heap.size ≤ ((w1.alloc o).alloc o').heap.size := fun o o' => by simp; omega
      go_wp2_with (at_builtin; refine wpList_append_fnds rfl (.tmp 22) (.tmp 27) rfl w.heap.size j c2 1 1 A2 (some ⟨w1.heap.size + 1, 0, none⟩) rs [⟨z, (a : Int), x0, x1, body, A3, c3⟩] rfl rfl (HNW.out _) hj9 (hbz _ _) ?_; intro A4 c4 w4 ho4 hg4 hat4; clear hat4)
      have hB4 := below_app_f ((((HB.out.trans (HB3.out.mono hs)).alloc hw1 _))) (by simp; omega) ((HO.out.below HB3.out).alloc _) (Nat.le_refl _) hg4
      have HB4 := hide hB4
      have HO4 := hide ho4
      clear ho4 hg4 hB4
      go_roundw
      case rel => exact ⟨a + 4 + l, j + 1, c4, A4, _, gl, by omega, by go_num, rfl, HO4.out, by show fns (rs ++ [_]) ++ _ = _; rw [fns_append, ← HF.out, HY.out, HFN.out]; simp [fns, Fq.fn], by show _ = _; rw [← HE.out, HY.out], HB4.out⟩
      case measure => have := HM.out; simp [intOf]; omega
    · have HC := implGet_no0 A n c (a : Int) xs wr HIR.out hle hcm (by omega) (by omega) (by rw [← HM.out]; exact hG)
      unfold noFrame at HC
      replace HC := hide HC
      have HN := hide (scanW_no z hG)
      clear hG
      go_wp2_with fail
      refine HC.out.mono ?_
      rintro e w1 ⟨rfl, hb3⟩
      have HB3 := hide hb3
      clear hb3
      go_wp2
      try simp only [Exit.inBlock, Exit.then]
      refine bodyPost_ret (results_tmp2 rfl _ _ _) rfl ?_
      have h1 := HF.out
      have h2 := HE.out
      rw [HN.out] at h1 h2
      simp only [List.append_nil] at h1 h2
      exact ⟨A2, c2, j, rs, by rw [← h2]; rfl, ((HO.out.below HB3.out).alloc _), h1, (HB.out.trans (HB3.out.mono hs)).alloc (Nat.le_trans hs HB3.out.size) _⟩

end Go.Proofs.Ytcocboigjfjnfac

/- SpecZ3 -/
namespace Go.Proofs.Ytcocboigjfjnfac
open Go.RowKit
set_option linter.unusedVariables false
set_option maxRecDepth 100000

def syncZ (z : List Int × Int × Bool) : List Int × Int × Bool := (z.1, (z.1.length : Int), z.2.2)
def syncD (ds : Dev) : Dev := ds.map syncZ

theorem set_step {α : Type} {s d : List α} {k : Nat} {y : α} (hl : s.length = d.length) (hy : s[k]? = some y) : (s.take k ++ d.drop k).set k y = s.take (k + 1) ++ d.drop (k + 1) := by
  have hk : k < s.length := (List.getElem?_eq_some_iff.1 hy).1
  apply List.ext_getElem?
  intro i
  rw [List.getElem?_set]
  have h1 : (s.take k).length = k := by rw [List.length_take]; omega
  have h2 : (s.take (k + 1)).length = k + 1 := by rw [List.length_take]; omega
  rcases Nat.lt_trichotomy i k with h | h | h
  · rw [if_neg (by omega), List.getElem?_append_left (by omega), List.getElem?_append_left (by omega), List.getElem?_take_of_lt h, List.getElem?_take_of_lt (by omega)]
  · subst h
    rw [if_pos rfl, if_pos (by rw [List.length_append, h1, List.length_drop]; omega), List.getElem?_append_left (by omega), List.getElem?_take_of_lt (by omega), hy]
  · rw [if_neg (by omega), List.getElem?_append_right (by omega), List.getElem?_append_right (by omega), h1, h2, List.getElem?_drop, List.getElem?_drop]
    congr 1
    omega

theorem zns_set (qs : List Zq) (k : Nat) (q : Zq) : zns (qs.set k q) = (zns qs).set k q.zn := by unfold zns; rw [List.map_set]

theorem OwnZ.at_ {w : World} {base g n c k : Nat} {qs : List Zq} {q : Zq} (h : OwnZ w base (some ⟨g, 0, none⟩) n c qs) (hk : qs[k]? = some q) :
    w.cell? ⟨g, k * 3, none⟩ = some q.sl ∧ w.cell? ⟨g, k * 3 + 1, none⟩ = some (.int .i64 q.synced) ∧ w.cell? ⟨g, k * 3 + 2, none⟩ = some (.bool q.full) := by
  obtain ⟨ad, p, e, hp, _, h0, h1, h2⟩ := h.zns.at_ hk
  injection e with e
  subst e
  rw [add_plain'] at hp
  subst hp
  exact ⟨h0, h1, h2⟩

set_option maxHeartbeats 3200000 in
theorem specSyncZ (A : Option Addr) (n c B : Nat) (qs : List Zq) (w : World) (hr : Zns w B A n qs) (hB : B ≤ w.heap.size) (hn : n ≤ 100000000000) (hl : ∀ q ∈ qs, q.words.length ≤ 1000000000000) :
    Calls Try.prog 48 #[.slice A n c] w fun e w' => ∃ A2 c2 qs2, e = .returned (.slice A2 n c2) ∧ OwnZ w' w.heap.size A2 n c2 qs2 ∧ zns qs2 = syncD (zns qs) ∧ Below w.heap.size w w' := by
  have HC := hide (specCopy A n c B qs w hr hB hn hl)
  have hds : (zns qs).length = n := by unfold zns; rw [List.length_map]; exact hr.1
  generalize zns qs = ds at HC hds ⊢
  clear hr hl
  have HDS := hide hds
  clear hds
  go_enter Try.func48, Try.ntmps48
  go_wp2_with fail
  refine HC.out.mono ?_
  rintro e w1 ⟨A2, c2, qs2, rfl, ho1, hz1, hb1⟩
  have HO1 := hide ho1
  have HZ1 := hide hz1
  have HB1 := hide hb1
  clear ho1 hz1 hb1
  go_wp2
  go_loopw [4] (fun i wr => ∃ (k : Nat) (rs : List Zq), k ≤ n ∧ i = .int .i64 k ∧ Hid (OwnZ wr w.heap.size A2 n c2 rs) ∧ Hid (zns rs = (syncD ds).take k ++ ds.drop k) ∧ Hid (Below w.heap.size w wr)) (fun i _ => n - (intOf i).toNat)
  case atStart => exact ⟨0, qs2, Nat.zero_le _, rfl, HO1.out, by show _ = _; rw [HZ1.out]; simp, HB1.out⟩
  case round =>
    obtain ⟨k, rs, hk, rfl, HO, HZ, HB⟩ := hrel
    by_cases hlt : k < n
    · obtain ⟨g, rfl, hg0, hg1⟩ := HO.out.shape (by omega)
      obtain ⟨q, hq⟩ : ∃ q, rs[k]? = some q := ⟨_, List.getElem?_eq_getElem (by rw [HO.out.len]; exact hlt)⟩
      obtain ⟨hc0, hc1, hc2⟩ := HO.out.at_ hq
      have hfz := HO.out.free (j := k * 3 + 1)
      have hml := (HO.out.own k q hq).cap
      have hqz : (zns rs)[k]? = some q.zn := by unfold zns; rw [List.getElem?_map, hq]; rfl
      have hput := HO.out.put_in hq ⟨q.words, (q.words.length : Int), q.full, q.addr, q.cap⟩ 1 (.int .i64 q.words.length) (by omega) rfl rfl rfl rfl
      have hset : zns (rs.set k ⟨q.words, (q.words.length : Int), q.full, q.addr, q.cap⟩) = (syncD ds).take (k + 1) ++ ds.drop (k + 1) := by
        have hl := HDS.out
        have hd : ds[k]? = some q.zn := by
          rw [HZ.out, List.getElem?_append_right (by rw [List.length_take]; omega), List.getElem?_drop] at hqz
          rw [← hqz]
          congr 1
          rw [List.length_take]
          unfold syncD
          rw [List.length_map]
          omega
        rw [zns_set, HZ.out]
        refine set_step (by unfold syncD; rw [List.length_map]) ?_
        unfold syncD
        rw [List.getElem?_map, hd]
        rfl
      have HP := hide hput
      have HS := hide hset
      clear hput hset hqz hq
      obtain ⟨ws, sy, fu, qa, qc⟩ := q
      simp only [Zq.sl] at hc0 hc1 hc2 hml HP HS
      generalize ws.length = m at hc0 hml HP HS
      have hmx : m ≤ 9223372036854775807 := by unfold maxLen at hml; omega
      have k0 : (0 : Int) ≤ (k : Int) := by omega
      have k1 : (k : Int) < (n : Int) := by omega
      clear hml hc2
      go_wp2
      go_roundw
      case rel => exact ⟨k + 1, _, by omega, by go_num, HP.out.1, HS.out, HB.out.grown HP.out.2 HB.out.size (fun b hb => by injection hb with hb; omega)⟩
      case measure => simp [intOf]; omega
    · obtain rfl : k = n := by omega
      go_wp2
      go_ret
      have h := HZ.out
      have hl := HDS.out
      rw [List.take_of_length_le (by unfold syncD; rw [List.length_map]; omega), List.drop_of_length_le (by omega), List.append_nil] at h
      exact ⟨_, _, _, rfl, HO.out, h, HB.out⟩
end Go.Proofs.Ytcocboigjfjnfac

/- SpecZ4 -/
namespace Go.Proofs.Ytcocboigjfjnfac
open Go.RowKit
set_option linter.unusedVariables false
set_option maxRecDepth 100000

/-- a device and whether it could be done -/
def DevPost (w : World) (v : Bool) (ds : Dev) (e : Ending) (w' : World) : Prop :=
  ∃ A2 m c2 qs2, e = .returned (.tuple #[.slice A2 m c2, .bool v]) ∧ OwnZ w' w.heap.size A2 m c2 qs2 ∧ zns qs2 = ds ∧ Below w.heap.size w w'
/-- a device and a number -/
def DevPostI (w : World) (v : Int) (ds : Dev) (e : Ending) (w' : World) : Prop :=
  ∃ A2 m c2 qs2, e = .returned (.tuple #[.slice A2 m c2, .int .i64 v]) ∧ OwnZ w' w.heap.size A2 m c2 qs2 ∧ zns qs2 = ds ∧ Below w.heap.size w w'

theorem devV_iff {ds : Dev} : devV ds = true ↔ (∀ z ∈ ds, zoneOk z = true) ∧ ds.length = 4 := by simp [devV]
theorem devV_len {qs : List Zq} (h : devV (zns qs) = true) : ∀ q ∈ qs, q.words.length ≤ 64 := by
  intro q hq
  have h1 := (devV_iff.1 h).1 q.zn (List.mem_map_of_mem hq)
  simp only [zoneOk, Zq.zn, Bool.and_eq_true] at h1
  exact of_decide_eq_true h1.1.2
theorem devV_four {qs : List Zq} (h : devV (zns qs) = true) : qs.length = 4 := by
  have := (devV_iff.1 h).2
  simpa [zns] using this


theorem OwnZ.after {w w3 : World} {base g n c k : Nat} {qs : List Zq} {q : Zq} (h : OwnZ w base (some ⟨g, 0, none⟩) n c qs) (hk : qs[k]? = some q) (hg : w.grownBy w3 q.sl.ownBlock) :
    w3.cell? ⟨g, k * 3, none⟩ = some q.sl ∧ w3.frozen? ⟨g, k * 3, none⟩ = false := by
  have hob : (Value.slice (some (⟨g, 0, none⟩ : Addr)) n c).ownBlock = some g := rfl
  have hr := h.row.kept hg (by
    rcases hb : q.sl.ownBlock with _ | b
    · exact .inr (by rw [hob]; simp)
    · exact .inr (by rw [hob]; intro e; injection e with e; subst e; exact h.far hk hob hb))
  refine ⟨?_, hr.frozenAt (k * 3)⟩
  have h0 : (flat qs)[k * 3]? = some q.sl := by rw [show k * 3 = k * 3 + 0 from rfl, flat_get hk 0 (by omega)]; rfl
  have := hr.cells rfl (k * 3) q.sl h0
  rwa [add_plain'] at this

/-- behind 'd[k].Words = append(d[k].Words, ..)' -/
theorem OwnZ.wrote {w w3 : World} {base g n c k m c3 : Nat} {qs : List Zq} {q : Zq} {A3 : Option Addr} {ws3 : List Int} (h : OwnZ w base (some ⟨g, 0, none⟩) n c qs) (hk : qs[k]? = some q) (hg : w.grownBy w3 q.sl.ownBlock)
    (ho : Own w3 base A3 m c3 ws3) (hat : (Value.slice A3 m c3).ownBlock = q.sl.ownBlock ∨ (Value.slice A3 m c3).ownBlock = some w.heap.size) :
    OwnZ (w3.setCell ⟨g, k * 3, none⟩ (.slice A3 m c3)) base (some ⟨g, 0, none⟩) n c (qs.set k ⟨ws3, q.synced, q.full, A3, c3⟩) ∧ w3.grownBy (w3.setCell ⟨g, k * 3, none⟩ (.slice A3 m c3)) (some g) := by
  have hm := ho.1
  subst hm
  refine h.put hk hg (fun b hb => ⟨fun e => ?_, fun i r hi hik e => ?_⟩) ⟨ws3, q.synced, q.full, A3, c3⟩ 0 (.slice A3 ws3.length c3) (by omega) rfl ho (fun i r hi hik b hb => ?_)
  · subst e
    exact h.far hk rfl hb
  · exact h.sep k i q r hk hi (fun e => hik e.symm) b hb e
  · show (Value.slice A3 ws3.length c3).ownBlock ≠ some b
    rcases hat with e | e
    · rw [e]; exact h.sep i k r q hi hk hik b hb
    · rw [e]
      have := (h.wblock hi b hb).2
      intro e2
      injection e2 with e2
      omega

/-- what DeviceAppend tells -/
def appendD (ds : Dev) (z : Int) (ws : List Int) : Dev :=
  if devV ds && inB z 0 3 && allW ws then
    match ds[z.toNat]? with
    | some q => if !q.2.2 && decide (q.1.length + ws.length ≤ 64) then ds.set z.toNat (q.1 ++ ws, q.2.1, q.2.2) else ds
    | none => ds
  else []
def appendN (ds : Dev) (z : Int) (ws : List Int) : Int :=
  if devV ds && inB z 0 3 && allW ws then
    match ds[z.toNat]? with
    | some q => if !q.2.2 && decide (q.1.length + ws.length ≤ 64) then 0 else 1
    | none => 1
  else 2

theorem appendD_no {ds : Dev} {z : Int} {ws : List Int} (h : (devV ds && inB z 0 3 && allW ws) = false) : appendD ds z ws = [] := by unfold appendD; rw [h]; rfl
theorem appendN_no {ds : Dev} {z : Int} {ws : List Int} (h : (devV ds && inB z 0 3 && allW ws) = false) : appendN ds z ws = 2 := by unfold appendN; rw [h]; rfl
theorem zns_get {qs : List Zq} {k : Nat} {q : Zq} (h : qs[k]? = some q) : (zns qs)[k]? = some q.zn := by unfold zns; rw [List.getElem?_map, h]; rfl
theorem zns_get_inv {qs : List Zq} {k : Nat} {z : List Int × Int × Bool} (h : (zns qs)[k]? = some z) : ∃ q, qs[k]? = some q ∧ q.zn = z := by
  unfold zns at h
  rw [List.getElem?_map] at h
  rcases h2 : qs[k]? with _ | q
  · rw [h2] at h; cases h
  · rw [h2] at h; exact ⟨q, rfl, by injection h⟩
theorem appendD_yes {ds : Dev} {k : Nat} {ws : List Int} {q : List Int × Int × Bool} (h : (devV ds && inB k 0 3 && allW ws) = true) (hq : ds[k]? = some q) :
    appendD ds k ws = if !q.2.2 && decide (q.1.length + ws.length ≤ 64) then ds.set k (q.1 ++ ws, q.2.1, q.2.2) else ds := by
  unfold appendD; rw [if_pos h]; simp only [Int.toNat_natCast, hq]
theorem appendN_yes {ds : Dev} {k : Nat} {ws : List Int} {q : List Int × Int × Bool} (h : (devV ds && inB k 0 3 && allW ws) = true) (hq : ds[k]? = some q) :
    appendN ds k ws = if !q.2.2 && decide (q.1.length + ws.length ≤ 64) then 0 else 1 := by
  unfold appendN; rw [if_pos h]; simp only [Int.toNat_natCast, hq]

set_option maxHeartbeats 1600000 in
/-- no such zone, an invalid device, or a word out of range -/
theorem specAppend_no (A X : Option Addr) (n c C m d : Nat) (z : Int) (v : Bool) (ws : List Int) (w : World)
    (hz : Calls Try.prog 70 #[.slice A n c, .int .i64 z] w fun e w' => e = .returned (.bool v) ∧ ∃ q, w' = w.drewN q) (hx : Ints w C X m ws) (hm : m ≤ maxLen) (hno : (v && allW ws) = false) :
    Calls Try.prog 47 #[.slice A n c, .int .i64 z, .slice X m d] w (DevPostI w 2 []) := by
  have HZ := hide hz
  have HW := hide fun (W : World) (h : Ints W C X m ws) => words_any X m d C ws W h hm
  have HX := hide hx
  clear hz hx
  generalize allW ws = u at HW hno
  go_enter Try.func47, Try.ntmps47
  rcases v with _ | _
  · clear hno
    go_wp2_with fail
    refine HZ.out.mono ?_
    rintro e w1 ⟨rfl, i, rfl⟩
    go_wp2
    go_ret2
    exact ⟨_, _, _, [], rfl, OwnZ.lit0 (w.drewN i) w.heap.size (Nat.le_refl _), rfl, (below_drewN (Below.refl _ _) i).alloc (Nat.le_refl _) _⟩
  · obtain rfl : u = false := by simpa using hno
    clear hno
    go_wp2_with fail
    refine HZ.out.mono ?_
    rintro e w1 ⟨rfl, i, rfl⟩
    go_wp2_with fail
    refine (HW.out _ (HX.out.drewN i)).mono ?_
    rintro e w1 ⟨rfl, rfl⟩
    go_wp2
    go_ret2
    exact ⟨_, _, _, [], rfl, OwnZ.lit0 (w.drewN i) w.heap.size (Nat.le_refl _), rfl, (below_drewN (Below.refl _ _) i).alloc (Nat.le_refl _) _⟩

/-- what is known of the copied device, ahead of the append -/
structure Mine (w w2 : World) (g k c2 : Nat) (qs2 : List Zq) (q2 : Zq) : Prop where
  own : OwnZ w2 w.heap.size (some ⟨g, 0, none⟩) 4 c2 qs2
  at_ : qs2[k]? = some q2
  below : Below w.heap.size w w2

set_option maxHeartbeats 6400000 in
/-- there is such a zone -/
theorem specAppend_yes (A X : Option Addr) (n c B C k m d : Nat) (q : Zq) (qs : List Zq) (ws : List Int) (w : World) (hr : Zns w B A n qs) (hB : B ≤ w.heap.size) (hx : Ints w C X m ws) (hC : C ≤ w.heap.size) (hm : m ≤ 1000000000000)
    (hz : Calls Try.prog 70 #[.slice A n c, .int .i64 k] w fun e w' => e = .returned (.bool true) ∧ ∃ q, w' = w.drewN q) (hw : allW ws = true) (hk4 : k < 4) (h4 : n = 4) (hq : qs[k]? = some q) (hl : ∀ q ∈ qs, q.words.length ≤ 64) :
    Calls Try.prog 47 #[.slice A n c, .int .i64 k, .slice X m d] w (DevPostI w (if !q.full && decide (q.words.length + m ≤ 64) then 0 else 1)
      (if !q.full && decide (q.words.length + m ≤ 64) then (zns qs).set k (q.words ++ ws, q.synced, q.full) else zns qs)) := by
  subst h4
  have HZ := hide hz
  have hmx : m ≤ maxLen := by unfold maxLen; omega
  have HW := hide fun (W : World) (h : Ints W C X m ws) => hw ▸ words_any X m d C ws W h hmx
  have HX := hide hx
  have hql := hl q (List.mem_of_getElem? hq)
  have HC := hide fun (W : World) (h : Zns W B A 4 qs) (hBW : B ≤ W.heap.size) => specCopy A 4 c B qs W h hBW (by omega) (fun r hr' => by have := hl r hr'; omega)
  have HR := hide fun (W : World) (h : Zns W B A 4 qs) => specRoom A 4 c B k m q qs W h hq (by omega) hm (by omega)
  have HZN := hide hr
  have HQ := hide (zns_get hq)
  clear hw hr hx hq hz hl
  obtain ⟨room, hroom⟩ : ∃ room, (!q.full && decide (q.words.length + m ≤ 64)) = room := ⟨_, rfl⟩
  rw [hroom] at HR ⊢
  clear hroom
  obtain ⟨N, hN⟩ : ∃ N : Int, (if room = true then 0 else 1) = N := ⟨_, rfl⟩
  obtain ⟨D, hD⟩ : ∃ D, (if room = true then (zns qs).set k (q.words ++ ws, q.synced, q.full) else zns qs) = D := ⟨_, rfl⟩
  rw [hN, hD]
  have HND := hide (And.intro hN hD)
  clear hN hD
  go_enter Try.func47, Try.ntmps47
  go_wp2_with fail
  refine HZ.out.mono ?_
  rintro e w1 ⟨rfl, i, rfl⟩
  go_wp2_with fail
  refine (HW.out _ (HX.out.drewN i)).mono ?_
  rintro e w1 ⟨rfl, rfl⟩
  go_wp2_with fail
  refine (HC.out _ (HZN.out.drewN i) hB).mono ?_
  rintro e w2 ⟨A2, c2, qs2, rfl, ho, hz, hb⟩
  have hb2 : Below w.heap.size w w2 := (below_drewN (Below.refl _ _) i).trans hb
  have hs2 := hb2.size
  have HO := hide (ho : OwnZ w2 w.heap.size A2 4 c2 qs2)
  have HZ2 := hide hz
  have HB2 := hide hb2
  have HX2 := hide (HX.out.below hb2 hC)
  clear ho hz hb hb2
  go_wp2_with fail
  refine (HR.out _ (HZN.out.below HB2.out hB)).mono ?_
  rintro e w3 ⟨rfl, j, rfl⟩
  have hj2 : w.heap.size ≤ (w2.drewN j).heap.size := hs2
  rcases room with _ | _
  · obtain rfl : 1 = N := HND.out.1
    go_wp2
    go_ret2
    exact ⟨_, _, _, _, rfl, HO.out.drewN j, HZ2.out.trans HND.out.2, below_drewN HB2.out j⟩
  · obtain rfl : 0 = N := HND.out.1
    have HD := hide (show (zns qs).set k (q.words ++ ws, q.synced, q.full) = D from HND.out.2)
    clear HND
    obtain ⟨q2, hq2, he2⟩ := zns_get_inv (HZ2.out ▸ HQ.out : (zns qs2)[k]? = some q.zn)
    have HOJ := hide (HO.out.drewN j)
    obtain ⟨g, rfl, hg0, hg1⟩ := HO.out.shape (by omega)
    obtain ⟨hc0, hc1, hc2⟩ := HOJ.out.at_ hq2
    have HWO := hide (HOJ.out.own k q2 hq2)
    have HAF := hide fun (w3 : World) (hg : (w2.drewN j).grownBy w3 q2.sl.ownBlock) => HOJ.out.after hq2 hg
    have HWR := hide fun (w3 : World) (m3 c3 : Nat) (A3 : Option Addr) (ws3 : List Int) (hg : (w2.drewN j).grownBy w3 q2.sl.ownBlock) (ho : Own w3 w.heap.size A3 m3 c3 ws3) (hat : (Value.slice A3 m3 c3).ownBlock = q2.sl.ownBlock ∨ (Value.slice A3 m3 c3).ownBlock = some (w2.drewN j).heap.size) => HOJ.out.wrote hq2 hg ho hat
    have HBK := hide (HOJ.out.wblock hq2)
    have hset : ∀ (A3 : Option Addr) (c3 : Nat), zns (qs2.set k ⟨q2.words ++ ws, q2.synced, q2.full, A3, c3⟩) = (zns qs).set k (q.words ++ ws, q.synced, q.full) := by
      intro A3 c3
      rw [zns_set, HZ2.out]
      unfold Zq.zn at he2 ⊢
      injection he2 with h1 h2
      injection h2 with h2 h3
      rw [h1, h2, h3]
    have HS := hide hset
    have h64 : q2.words.length ≤ 64 := by
      have : q2.words = q.words := by unfold Zq.zn at he2; injection he2
      rw [this]; exact hql
    have HGG := hide (And.intro hg0 hg1)
    clear hset he2 hq2 hql HQ HR HC HW HZ HZN HO hg0 hg1
    obtain ⟨ws2, sy2, fu2, qa, qc⟩ := q2
    simp only [Zq.sl] at hc0 hc1 hc2 HWO HAF HWR HBK HS h64
    generalize ws2.length = l at hc0 HWO HAF HWR HBK h64
    have hlm : l + m ≤ 17592186044416 := by omega
    have k0 : (0 : Int) ≤ (k : Int) := by omega
    have k1 : (k : Int) < ((4 : Nat) : Int) := by omega
    clear hc1 hc2
    go_wp2_with (at_builtin; refine wpList_append_ints rfl (.tmp 34) (.tmp 35) rfl w.heap.size l qc C m d qa X ws2 ws rfl HWO.out rfl (HX2.out.drewN j) hlm hj2 ?_; intro A4 c4 w4 ho4 hg4 hat4; have hcf := HAF.out _ hg4; have hc4 := hcf.1; have hf4 := hcf.2; have HWR4 := hide (HWR.out _ _ _ _ _ hg4 ho4 hat4); have HB4 := hide (below_of_grown' hg4 (B := w.heap.size) hj2 (fun b hb => (HBK.out b hb).1)); clear hat4 hcf hg4 ho4)
    go_ret2
    exact ⟨_, _, _, _, rfl, HWR4.out.1, (HS.out _ _).trans HD.out, ((below_drewN HB2.out j).trans HB4.out).grown HWR4.out.2 (Nat.le_trans HB2.out.size HB4.out.size) (fun b hb => by injection hb with hb; subst hb; exact HGG.out.1)⟩

theorem specAppend (A X : Option Addr) (n c B C m d : Nat) (z : Int) (qs : List Zq) (ws : List Int) (w : World) (hr : Zns w B A n qs) (hB : B ≤ w.heap.size) (hn : n ≤ 100000000000) (hx : Ints w C X m ws) (hC : C ≤ w.heap.size) (hm : m ≤ 1000000000000) :
    Calls Try.prog 47 #[.slice A n c, .int .i64 z, .slice X m d] w (DevPostI w (appendN (zns qs) z ws) (appendD (zns qs) z ws)) := by
  have hz := specZone A n c B z qs w hr (by omega)
  by_cases hok : (devV (zns qs) && inB z 0 3 && allW ws) = true
  · have h2 := hok
    simp only [Bool.and_eq_true] at h2
    obtain ⟨⟨hv, hz3⟩, hw⟩ := h2
    obtain ⟨hz0, hz1⟩ := inB_iff.1 hz3
    obtain ⟨k, rfl⟩ : ∃ k : Nat, z = (k : Int) := ⟨z.toNat, by omega⟩
    have hk4 : k < 4 := by omega
    have h4 : n = 4 := by rw [← hr.1]; exact devV_four hv
    obtain ⟨q, hq⟩ : ∃ q, qs[k]? = some q := ⟨_, List.getElem?_eq_getElem (by rw [hr.1, h4]; exact hk4)⟩
    rw [hv, hz3] at hz
    rw [appendD_yes hok (zns_get hq), appendN_yes hok (zns_get hq)]
    have := specAppend_yes A X n c B C k m d q qs ws w hr hB hx hC hm hz hw hk4 h4 hq (devV_len hv)
    simpa only [Zq.zn, hx.1] using this
  · have hno := Bool.eq_false_iff.2 hok
    rw [appendD_no hno, appendN_no hno]
    exact specAppend_no A X n c C m d z _ ws w hz hx (by unfold maxLen; omega) hno
end Go.Proofs.Ytcocboigjfjnfac

/- DrawZ2 -/
namespace Go.Proofs.Ytcocboigjfjnfac
open Go.RowKit
set_option linter.unusedVariables false
set_option maxRecDepth 100000

/-- what l91Device knows at each step -/
structure DZ (L : Nat) (w0 w : World) (R : Nat) (p : Int) (A : Option Addr) (c : Nat) (qs : List Zq) : Prop where
  rd : Rd w R p
  rlt : R < w0.heap.size
  own : OwnZ w w0.heap.size A 4 c qs
  len : ∀ q ∈ qs, q.words.length ≤ L
  grown : w0.grownBy w (some R)
theorem DZ.size {L : Nat} {w0 w : World} {R c : Nat} {p : Int} {A : Option Addr} {qs : List Zq} (h : DZ L w0 w R p A c qs) : w0.heap.size ≤ w.heap.size := h.grown.size
theorem DZ.pick {L : Nat} {w0 w w' : World} {R c : Nat} {p p' : Int} {A : Option Addr} {qs : List Zq} (h : DZ L w0 w R p A c qs) (hr : Rd w' R p') (hg : w.grownBy w' (some R)) : DZ L w0 w' R p' A c qs :=
  { rd := hr, rlt := h.rlt, len := h.len, grown := grown_trans' h.grown hg,
    own := h.own.kept hg (by
      intro q hq
      injection hq with hq
      subst hq
      exact ⟨fun e => by have := (h.own.block _ e).1; have := h.rlt; omega, fun k r hk e => by have := (h.own.wblock hk _ e).1; have := h.rlt; omega⟩) }
/-- behind a call that makes new memory alone -/
theorem DZ.below {L : Nat} {w0 w w' : World} {R c : Nat} {p : Int} {A : Option Addr} {qs : List Zq} (h : DZ L w0 w R p A c qs) (hb : Below w.heap.size w w') : DZ L w0 w' R p A c qs :=
  { rd := h.rd.below hb, rlt := h.rlt, own := h.own.below hb, len := h.len, grown := grown_own h.grown (grown_of_below hb none) (by simp) }
/-- .. and hands back another device -/
theorem DZ.swap {L : Nat} {w0 w w' : World} {R c c' : Nat} {p : Int} {A A' : Option Addr} {qs qs' : List Zq} (h : DZ L w0 w R p A c qs) (hb : Below w.heap.size w w') (ho : OwnZ w' w.heap.size A' 4 c' qs') (hl : ∀ q ∈ qs', q.words.length ≤ L) : DZ L w0 w' R p A' c' qs' :=
  { rd := h.rd.below hb, rlt := h.rlt, own := ho.mono h.size, len := hl, grown := grown_own h.grown (grown_of_below hb none) (by simp) }
/-- behind a store into the device's own blocks -/
theorem DZ.stored {L : Nat} {w0 w w' : World} {R g c : Nat} {p : Int} {A : Option Addr} {qs qs' : List Zq} (h : DZ L w0 w R p A c qs) (hg : w.grownBy w' (some g)) (hg0 : w0.heap.size ≤ g) (ho : OwnZ w' w0.heap.size A 4 c qs') (hl : ∀ q ∈ qs', q.words.length ≤ L) : DZ L w0 w' R p A c qs' :=
  { rd := h.rd.grown hg (fun b hb => by injection hb with hb; have := h.rlt; omega), rlt := h.rlt, own := ho, len := hl, grown := grown_own h.grown hg (fun b hb => by injection hb with hb; omega) }
theorem DZ.drewN {L : Nat} {w0 w : World} {R c : Nat} {p : Int} {A : Option Addr} {qs : List Zq} (h : DZ L w0 w R p A c qs) (k : Nat) : DZ L w0 (w.drewN k) R p A c qs :=
  { rd := h.rd.drewN k, rlt := h.rlt, own := h.own.drewN k, len := h.len, grown := grown_drewN h.grown k }
theorem DZ.more {L L' : Nat} {w0 w : World} {R c : Nat} {p : Int} {A : Option Addr} {qs : List Zq} (h : DZ L w0 w R p A c qs) (hl : L ≤ L') : DZ L' w0 w R p A c qs :=
  { rd := h.rd, rlt := h.rlt, own := h.own, len := fun q hq => Nat.le_trans (h.len q hq) hl, grown := h.grown }
/-- behind 'd[j].Words = append(d[j].Words, x)', the new word in a new block -/
theorem DZ.word {L : Nat} {w0 w w8 : World} {R g c j l : Nat} {p : Int} {qs : List Zq} {q : Zq} {o : Obj} {A8 : Option Addr} {c8 : Nat} {ws8 : List Int} (h : DZ L w0 w R p (some ⟨g, 0, none⟩) c qs) (hq : qs[j]? = some q) (hg : (w.alloc o).grownBy w8 q.sl.ownBlock)
    (ho : Own w8 w0.heap.size A8 l c8 ws8) (hat : (Value.slice A8 l c8).ownBlock = q.sl.ownBlock ∨ (Value.slice A8 l c8).ownBlock = some (w.alloc o).heap.size) (hl : l ≤ L) :
    w8.cell? ⟨g, j * 3, none⟩ = some q.sl ∧ w8.frozen? ⟨g, j * 3, none⟩ = false ∧ DZ L w0 (w8.setCell ⟨g, j * 3, none⟩ (.slice A8 l c8)) R p (some ⟨g, 0, none⟩) c (qs.set j ⟨ws8, q.synced, q.full, A8, c8⟩) := by
  have ha := (h.own.alloc o).after hq hg
  have hw := (h.own.alloc o).wrote hq hg ho hat
  have hlen := ho.1
  have hg0 : w0.heap.size ≤ g := (h.own.block g rfl).1
  have hrl := h.rlt
  have hqb := h.own.wblock hq
  have hG1 : w0.grownBy w8 (some R) := grown_own (grown_alloc h.grown o) hg (fun b hb => (hqb b hb).1)
  refine ⟨ha.1, ha.2, { rd := ?_, rlt := hrl, own := hw.1, len := ?_, grown := grown_own hG1 hw.2 (fun b hb => by injection hb with hb; omega) }⟩
  · exact ((h.rd.alloc o).grown hg (fun b hb => by have := (hqb b hb).1; omega)).grown hw.2 (fun b hb => by injection hb with hb; omega)
  · intro r hr
    rcases List.mem_or_eq_of_mem_set hr with hr | rfl
    · exact h.len r hr
    · show ws8.length ≤ L
      omega
theorem len_zns {qs : List Zq} {ds : Dev} (h : zns qs = ds) (hl : ∀ z ∈ ds, z.1.length ≤ 64) : ∀ q ∈ qs, q.words.length ≤ 64 := fun q hq => by
  have := hl q.zn (by rw [← h]; exact List.mem_map_of_mem hq)
  exact this
theorem len_zns' {qs : List Zq} (hl : ∀ q ∈ qs, q.words.length ≤ 64) : ∀ z ∈ zns qs, z.1.length ≤ 64 := fun z hz => by
  obtain ⟨q, hq, rfl⟩ := List.mem_map.1 hz
  exact hl q hq
theorem new_len {qs : List Zq} (h : zns qs = List.replicate 4 zone0) : ∀ q ∈ qs, q.words.length ≤ 64 := len_zns h (fun z hz => by rw [(List.mem_replicate.1 hz).2]; exact Nat.zero_le _)
/-- an appended device has four zones, or none -/
theorem append_len {ds : Dev} {z : Int} {ws : List Int} (h4 : ds.length = 4) (hl : ∀ q ∈ ds, q.1.length ≤ 64) : (appendD ds z ws).length = 4 ∧ (∀ q ∈ appendD ds z ws, q.1.length ≤ 64) ∨ appendD ds z ws = [] := by
  unfold appendD
  split
  · left
    split
    · next q hq =>
      split
      · next hr =>
        simp only [Bool.and_eq_true, decide_eq_true_eq] at hr
        refine ⟨by rw [List.length_set]; exact h4, fun r hr' => ?_⟩
        rcases List.mem_or_eq_of_mem_set hr' with h | rfl
        · exact hl r h
        · show (q.1 ++ ws).length ≤ 64; rw [List.length_append]; exact hr.2
      · exact ⟨h4, hl⟩
    · exact ⟨h4, hl⟩
  · exact .inr rfl
theorem zns_len {w : World} {base n c : Nat} {A : Option Addr} {qs : List Zq} (h : OwnZ w base A n c qs) : (zns qs).length = n := by unfold zns; rw [List.length_map]; exact h.len
theorem putF_len (k s : Int) (xs : List Int) : (putF k s xs).length ≤ xs.length + 4 := by
  unfold putF headF
  split <;> simp <;> omega
end Go.Proofs.Ytcocboigjfjnfac

/- ImpN2 -/
namespace Go.Proofs.Ytcocboigjfjnfac
open Go.RowKit
set_option linter.unusedVariables false
set_option maxRecDepth 100000

set_option maxHeartbeats 6400000 in
theorem implScanZ (A : Option Addr) (n c B : Nat) (z : Int) (qs : List Zq) (w : World) (hr : Zns w B A n qs) (hB : B ≤ w.heap.size) (hn : n ≤ 1000000000000) (hz0 : -9223372036854775808 ≤ z) (hz1 : z ≤ 9223372036854775807) :
    Calls Try.prog 11 #[.slice A n c, .int .i64 z] w (ScanPost w (scanZ (zns qs) z)) := by
  have HV := hide (implDV A n c B qs w hr hB hn)
  by_cases hz : 0 ≤ z ∧ z ≤ 3
  · obtain ⟨k, rfl⟩ := Int.eq_ofNat_of_zero_le hz.1
    have k1 : ¬ (k : Int) < 0 := by omega
    have k2 : ¬ (4 : Int) ≤ (k : Int) := by omega
    rcases hv : devV (zns qs) with _ | _
    · have HE := hide (scanZ_no (d := zns qs) (z := (k : Int)) (by rw [hv]; rfl))
      rw [hv] at HV
      clear hv hr
      go_enter Try.func11, Try.ntmps11
      go_wp2_with fail
      refine HV.out.mono ?_
      rintro e w1 ⟨rfl, hb1⟩
      have HB1 := hide hb1
      clear hb1
      go_wp2
      try simp only [Exit.inBlock, Exit.then]
      refine bodyPost_ret (results_tmp2 rfl _ _ _) rfl ?_
      exact ⟨none, 0, 0, [], by rw [HE.out]; rfl, OwnF.nil_ _ _, by rw [HE.out]; rfl, HB1.out⟩
    · obtain rfl : n = 4 := by
        have h2 := hr.1
        unfold devV at hv
        simp [zns] at hv
        omega
      obtain ⟨q, hq⟩ : ∃ q, qs[k]? = some q := ⟨_, List.getElem?_eq_getElem (by rw [hr.1]; omega)⟩
      have HE := hide (scanZ_yes hv (by omega) hq)
      rw [hv] at HV
      obtain ⟨hl64⟩ : Nonempty (q.words.length ≤ 64) := ⟨devV_words hv hq⟩
      have HQ := hide hq
      have HR := hide hr
      clear hv hr hq
      have k3 : (0 : Int) ≤ (k : Int) := by omega
      have k4 : (k : Int) < ((4 : Nat) : Int) := by omega
      go_enter Try.func11, Try.ntmps11
      go_wp2_with fail
      refine HV.out.mono ?_
      rintro e w1 ⟨rfl, hb1⟩
      have HB1 := hide hb1
      have hR := HR.out.below hb1 hB
      obtain ⟨ad, p, rfl, hp, hb, hc0, hc1, hc2⟩ := hR.at_ HQ.out
      obtain ⟨hi, hle, hcm⟩ := hR.words HQ.out
      unfold maxLen at hcm
      have HC := hide (implScanL q.addr q.words.length q.cap (k : Int) q.words w1 (hi.more (Nat.le_trans hB hb1.size)) hle (by omega) (by omega))
      clear hR hi hb1 hc1 hc2
      unfold Zq.sl at hc0
      go_wp2_with fail
      refine HC.out.mono ?_
      rintro e w2 ⟨A2, c2, m, rs, rfl, ho, hf, hb2⟩
      go_wp2
      try simp only [Exit.inBlock, Exit.then]
      refine bodyPost_ret (results_tmp2 rfl _ _ _) rfl ?_
      exact ⟨A2, c2, m, rs, by rw [HE.out]; rfl, ho.mono HB1.out.size, by rw [HE.out]; exact hf, HB1.out.trans (hb2.mono HB1.out.size)⟩
  · have HE := hide (scanZ_no (d := zns qs) (z := z) (by rw [show inB z 0 3 = false from by rcases h : inB z 0 3 with _ | _; rfl; exact absurd (inB_iff.1 h) hz]; simp))
    have hzz : z < 0 ∨ 4 ≤ z := by omega
    clear hr hz HV
    go_enter Try.func11, Try.ntmps11
    rcases hzz with h | h
    · go_wp2
      try simp only [Exit.inBlock, Exit.then]
      refine bodyPost_ret (results_tmp2 rfl _ _ _) rfl ?_
      exact ⟨none, 0, 0, [], by rw [HE.out]; rfl, OwnF.nil_ _ _, by rw [HE.out]; rfl, Below.refl _ _⟩
    · have h0 : ¬ z < 0 := by omega
      go_wp2
      try simp only [Exit.inBlock, Exit.then]
      refine bodyPost_ret (results_tmp2 rfl _ _ _) rfl ?_
      exact ⟨none, 0, 0, [], by rw [HE.out]; rfl, OwnF.nil_ _ _, by rw [HE.out]; rfl, Below.refl _ _⟩
end Go.Proofs.Ytcocboigjfjnfac
