/-
  Plain mathematics of scans: the frames of a zone's words from a place on; what they are when the words are cut; frames ordered by their numbers. 'scanW z xs a' are the frames and the place of the first word that begins none.
-/
import Derived.Test.YtcocboigjfjnfacFrameM
import Derived.Test.YtcocboigjfjnfacFnd
namespace Go.Proofs.Ytcocboigjfjnfac
open Go.RowKit
set_option linter.unusedVariables false
set_option maxRecDepth 100000

/-- the words of the body of the frame at a -/
def lenAt (xs : List Int) (a : Nat) : Nat := (xs.getD (a + 2) 0).toNat
/-- the frame at a, in zone z -/
def fnAt (z : Int) (xs : List Int) (a : Nat) : Fn := (z, (a : Int), xs.getD a 0, xs.getD (a + 1) 0, cutW xs (a + 3) (lenAt xs a))
open Classical in
noncomputable def scanF (z : Int) (xs : List Int) : Nat → Nat → List Fn × Nat
  | 0, a => ([], a)
  | k + 1, a => if goodF xs xs.length (a : Int) then (fnAt z xs a :: (scanF z xs k (a + 4 + lenAt xs a)).1, (scanF z xs k (a + 4 + lenAt xs a)).2) else ([], a)
noncomputable def scanW (z : Int) (xs : List Int) (a : Nat) : List Fn × Nat := scanF z xs (xs.length - a) a

theorem good_len {xs : List Int} {a : Nat} (h : goodF xs xs.length (a : Int)) : a + 4 + lenAt xs a ≤ xs.length ∧ xs.getD (a + 2) 0 = (lenAt xs a : Int) ∧
    validF (xs.getD a 0) (xs.getD (a + 1) 0) (cutW xs (a + 3) (lenAt xs a)) = true ∧ xs.getD (a + 3 + lenAt xs a) 0 = sumFrom 7 (cutW xs a (3 + lenAt xs a)) := by
  obtain ⟨a', m, ha, hm, hl, hv, hs⟩ := goodF_parts h
  obtain rfl : a = a' := by omega
  have e : lenAt xs a = m := by unfold lenAt; rw [hm]; rfl
  rw [e]
  exact ⟨hl, hm, hv, hs⟩
theorem good_of {xs : List Int} {a m : Nat} (hl : a + 4 + m ≤ xs.length) (hm : xs.getD (a + 2) 0 = (m : Int)) (hv : validF (xs.getD a 0) (xs.getD (a + 1) 0) (cutW xs (a + 3) m) = true)
    (hs : xs.getD (a + 3 + m) 0 = sumFrom 7 (cutW xs a (3 + m))) : goodF xs xs.length (a : Int) := by
  refine ⟨⟨by omega, by omega, ?_, ?_⟩, ?_, ?_⟩
  · rw [Int.toNat_natCast, hm]; omega
  · rw [Int.toNat_natCast, hm]; omega
  · rw [Int.toNat_natCast, bodyAt, Int.toNat_natCast, hm]; exact hv
  · rw [Int.toNat_natCast, hm]; exact hs
theorem good_ext (n : Nat) {xs : List Int} {a : Nat} (h : ¬ goodF xs xs.length (a : Int)) (hn : xs.length = n) : ¬ goodF xs n (a : Int) := by rw [← hn]; exact h

/-- the fuel does not matter once it is enough -/
theorem scanF_fuel (z : Int) (xs : List Int) : ∀ (k k' a : Nat), xs.length - a ≤ k → xs.length - a ≤ k' → scanF z xs k a = scanF z xs k' a := by
  intro k
  induction k with
  | zero =>
    intro k' a h h'
    rcases k' with _ | k'
    · rfl
    · have : ¬ goodF xs xs.length (a : Int) := fun hg => by have := (good_len hg).1; omega
      rw [scanF, scanF, if_neg this]
  | succ k ih =>
    intro k' a h h'
    by_cases hg : goodF xs xs.length (a : Int)
    · have hl := (good_len hg).1
      rcases k' with _ | k'
      · omega
      · rw [scanF, scanF, if_pos hg, if_pos hg, ih k' (a + 4 + lenAt xs a) (by omega) (by omega)]
    · rcases k' with _ | k'
      · rw [scanF, scanF, if_neg hg]
      · rw [scanF, scanF, if_neg hg, if_neg hg]
theorem scanW_yes (z : Int) {xs : List Int} {a : Nat} (hg : goodF xs xs.length (a : Int)) :
    scanW z xs a = (fnAt z xs a :: (scanW z xs (a + 4 + lenAt xs a)).1, (scanW z xs (a + 4 + lenAt xs a)).2) := by
  have hl := (good_len hg).1
  obtain ⟨k, hk⟩ : ∃ k, xs.length - a = k + 1 := ⟨xs.length - a - 1, by omega⟩
  unfold scanW
  rw [hk, scanF, if_pos hg, scanF_fuel z xs k (xs.length - (a + 4 + lenAt xs a)) _ (by omega) (by omega)]
theorem scanW_no (z : Int) {xs : List Int} {a : Nat} (hg : ¬ goodF xs xs.length (a : Int)) : scanW z xs a = ([], a) := by
  unfold scanW
  rcases xs.length - a with _ | k
  · rfl
  · rw [scanF, if_neg hg]
theorem scanW_past (z : Int) {xs : List Int} {a : Nat} (h : xs.length ≤ a) : scanW z xs a = ([], a) := scanW_no z (fun hg => by have := (good_len hg).1; omega)

/-- a way to show a fact of a scan: where no frame begins, and ahead of a frame -/
theorem scan_ind {xs : List Int} {P : Nat → Prop} (hno : ∀ a : Nat, ¬ goodF xs xs.length (a : Int) → P a) (hyes : ∀ a : Nat, goodF xs xs.length (a : Int) → P (a + 4 + lenAt xs a) → P a) : ∀ a : Nat, P a := by
  have : ∀ k a : Nat, xs.length - a ≤ k → P a := by
    intro k
    induction k with
    | zero => intro a h; exact hno a (fun hg => by have := (good_len hg).1; omega)
    | succ k ih =>
      intro a h
      by_cases hg : goodF xs xs.length (a : Int)
      · exact hyes a hg (ih _ (by have := (good_len hg).1; omega))
      · exact hno a hg
  exact fun a => this _ a (Nat.le_refl _)

theorem scan_ge (z : Int) (xs : List Int) : ∀ a, a ≤ (scanW z xs a).2 :=
  scan_ind (fun a h => by rw [scanW_no z h]; exact Nat.le_refl _) (fun a h ih => by rw [scanW_yes z h]; simp only at ih ⊢; omega)
theorem scan_le (z : Int) (xs : List Int) : ∀ a, a ≤ xs.length → (scanW z xs a).2 ≤ xs.length :=
  scan_ind (fun a h ha => by rw [scanW_no z h]; exact ha) (fun a h ih ha => by rw [scanW_yes z h]; exact ih (good_len h).1)
theorem scan_end (z : Int) (xs : List Int) : ∀ a, ¬ goodF xs xs.length ((scanW z xs a).2 : Int) :=
  scan_ind (fun a h => by rw [scanW_no z h]; exact h) (fun a h ih => by rw [scanW_yes z h]; exact ih)
theorem scan_count (z : Int) (xs : List Int) : ∀ a, (scanW z xs a).1.length * 5 ≤ xs.length - a :=
  scan_ind (fun a h => by rw [scanW_no z h]; simp) (fun a h ih => by
    have hl := good_len h
    have h1 := (validF_iff.1 hl.2.2.1).2.2.1.1
    rw [cutW_length _ _ _ (by omega)] at h1
    rw [scanW_yes z h]
    simp only [List.length_cons] at ih ⊢
    omega)
/-- each frame that is found is a frame of its place -/
theorem scan_mem (z : Int) (xs : List Int) : ∀ a, ∀ f ∈ (scanW z xs a).1, ∃ b : Nat, goodF xs xs.length (b : Int) ∧ f = fnAt z xs b :=
  scan_ind (fun a h => by rw [scanW_no z h]; simp) (fun a h ih => by
    rw [scanW_yes z h]
    intro f hf
    simp only [List.mem_cons] at hf
    rcases hf with rfl | hf
    · exact ⟨a, h, rfl⟩
    · exact ih f hf)

/-- the words of frames, one behind the other -/
def putsF : List Fn → List Int
  | [] => []
  | f :: fs => putF f.2.2.1 f.2.2.2.1 f.2.2.2.2 ++ putsF fs
/-- the frames that were found lie one behind the other from a on, each where the words ahead of it end -/
theorem scan_puts (z : Int) (xs : List Int) : ∀ a, a ≤ xs.length → xs.take a ++ putsF (scanW z xs a).1 = xs.take (scanW z xs a).2 :=
  scan_ind (fun a h _ => by rw [scanW_no z h]; simp [putsF]) (fun a h ih ha => by
    obtain ⟨hl, hm, hv, hs⟩ := good_len h
    rw [scanW_yes z h]
    simp only [putsF, fnAt]
    rw [put_at hl hm hv hs, ← List.append_assoc, ← ih hl]
    congr 1
    unfold cutW
    rw [show a + 4 + lenAt xs a = a + (4 + lenAt xs a) by omega]
    exact List.take_add.symm)
/-- the same frame by frame: frame k begins where the words of those ahead of it end -/
theorem scan_word (z : Int) (xs : List Int) : ∀ a, a ≤ xs.length → ∀ (k : Nat) (f : Fn), (scanW z xs a).1[k]? = some f → f.1 = z ∧ f.2.1 = ((a + (putsF ((scanW z xs a).1.take k)).length : Nat) : Int) :=
  scan_ind (fun a h _ k f hk => by rw [scanW_no z h] at hk; simp at hk) (fun a h ih ha k f hk => by
    obtain ⟨hl, hm, hv, hs⟩ := good_len h
    rw [scanW_yes z h] at hk ⊢
    rcases k with _ | k
    · simp at hk
      subst hk
      simp [fnAt, putsF]
    · simp only [List.getElem?_cons_succ] at hk
      obtain ⟨h1, h2⟩ := ih hl k f hk
      refine ⟨h1, h2.trans ?_⟩
      simp only [List.take_succ_cons, putsF, fnAt]
      rw [put_at hl hm hv hs, List.length_append, cutW_length _ _ _ (by omega)]
      congr 1
      omega)

/-! ### Words that are cut -/
theorem good_take {xs : List Int} {a k : Nat} (hk : k ≤ xs.length) : goodF (xs.take k) (xs.take k).length (a : Int) ↔ goodF xs xs.length (a : Int) ∧ a + 4 + lenAt xs a ≤ k := by
  have hlen : (xs.take k).length = k := by rw [List.length_take]; omega
  have gd : ∀ j, j < k → (xs.take k).getD j 0 = xs.getD j 0 := fun j hj => by rw [getD_take' _ _ _ hj]
  have ct : ∀ j m, j + m ≤ k → cutW (xs.take k) j m = cutW xs j m := by
    intro j m hj
    unfold cutW
    rw [List.drop_take, List.take_take, Nat.min_eq_left (by omega)]
  constructor
  · intro h
    obtain ⟨hl, hm, hv, hs⟩ := good_len h
    rw [hlen] at hl
    generalize lenAt (xs.take k) a = m at hl hm hv hs
    rw [gd _ (by omega)] at hm
    rw [gd _ (by omega), gd _ (by omega), ct _ _ (by omega)] at hv
    rw [gd _ (by omega), ct _ _ (by omega)] at hs
    have e : lenAt xs a = m := by unfold lenAt; rw [hm]; rfl
    exact ⟨good_of (by omega) hm hv hs, by rw [e]; exact hl⟩
  · rintro ⟨h, hl2⟩
    obtain ⟨hl, hm, hv, hs⟩ := good_len h
    generalize lenAt xs a = m at hl hm hv hs hl2
    refine good_of (m := m) (by omega) ?_ ?_ ?_
    · rw [gd _ (by omega)]; exact hm
    · rw [gd _ (by omega), gd _ (by omega), ct _ _ (by omega)]; exact hv
    · rw [gd _ (by omega), ct _ _ (by omega)]; exact hs
theorem fnAt_take (z : Int) {xs : List Int} {a k : Nat} (hk : k ≤ xs.length) (hl : a + 4 + lenAt xs a ≤ k) : lenAt (xs.take k) a = lenAt xs a ∧ fnAt z (xs.take k) a = fnAt z xs a := by
  have gd : ∀ j, j < k → (xs.take k).getD j 0 = xs.getD j 0 := fun j hj => by rw [getD_take' _ _ _ hj]
  have e : lenAt (xs.take k) a = lenAt xs a := by unfold lenAt; rw [gd _ (by omega)]
  refine ⟨e, ?_⟩
  unfold fnAt
  rw [e, gd _ (by omega), gd _ (by omega)]
  unfold cutW
  rw [List.drop_take, List.take_take, Nat.min_eq_left (by omega)]
theorem scan_take (z : Int) {xs : List Int} {k : Nat} (hk : k ≤ xs.length) : ∀ a, a ≤ k → ((scanW z (xs.take k) a).2 ≤ k ∧ (∃ n, (scanW z (xs.take k) a).1 = (scanW z xs a).1.take n) ∧
    ((scanW z xs a).2 ≤ k → (scanW z (xs.take k) a).1 = (scanW z xs a).1)) := by
  refine scan_ind (xs := xs) (fun a h ha => ?_) (fun a h ih ha => ?_)
  · have h' : ¬ goodF (xs.take k) (xs.take k).length (a : Int) := fun hg => h ((good_take hk).1 hg).1
    rw [scanW_no z h', scanW_no z h]
    exact ⟨ha, ⟨0, by simp⟩, fun _ => rfl⟩
  · by_cases hl : a + 4 + lenAt xs a ≤ k
    · have h' := (good_take hk).2 ⟨h, hl⟩
      obtain ⟨e1, e2⟩ := fnAt_take z hk hl
      rw [scanW_yes z h', scanW_yes z h, e1, e2]
      obtain ⟨i1, ⟨n, i2⟩, i3⟩ := ih hl
      refine ⟨i1, ⟨n + 1, by simp [i2]⟩, fun hle => by simp only at hle ⊢; rw [i3 hle]⟩
    · have h' : ¬ goodF (xs.take k) (xs.take k).length (a : Int) := fun hg => hl ((good_take hk).1 hg).2
      rw [scanW_no z h', scanW_yes z h]
      refine ⟨ha, ⟨0, by simp⟩, fun hle => ?_⟩
      have := scan_ge z xs (a + 4 + lenAt xs a)
      simp only at hle
      omega

/-! ### Frames ordered by their numbers -/
def seqOf (f : Fn) : Int := f.2.2.2.1
/-- behind all that do not have a greater number, from the end on -/
def placeF (fs : List Fn) (x : Fn) : Nat → Nat
  | 0 => 0
  | k + 1 => if seqOf x < seqOf (fs.getD k (0, 0, 0, 0, [])) then placeF fs x k else k + 1
def insF (fs : List Fn) (x : Fn) : List Fn := fs.take (placeF fs x fs.length) ++ x :: fs.drop (placeF fs x fs.length)
def insAll (fs gs : List Fn) : List Fn := gs.foldl insF fs
def orderF (zs : List (List Fn)) : List Fn := zs.foldl insAll []
/-- numbers do not descend -/
def ascF (fs : List Fn) : Prop := fs.Pairwise fun f g => seqOf f ≤ seqOf g
theorem placeF_le (fs : List Fn) (x : Fn) (k : Nat) : placeF fs x k ≤ k := by
  induction k with
  | zero => exact Nat.le_refl _
  | succ k ih => unfold placeF; split <;> omega
theorem insF_length (fs : List Fn) (x : Fn) : (insF fs x).length = fs.length + 1 := by
  have := placeF_le fs x fs.length
  simp [insF]
  omega
theorem insF_mem (fs : List Fn) (x f : Fn) : f ∈ insF fs x ↔ f = x ∨ f ∈ fs := by
  unfold insF
  have e : f ∈ fs ↔ f ∈ fs.take (placeF fs x fs.length) ∨ f ∈ fs.drop (placeF fs x fs.length) := by rw [← List.mem_append, List.take_append_drop]
  rw [List.mem_append, List.mem_cons, e]
  exact or_left_comm
theorem placeF_spec {fs : List Fn} {x : Fn} (h : ascF fs) : ∀ k, k ≤ fs.length → (∀ (j : Nat) (f : Fn), j < placeF fs x k → fs[j]? = some f → seqOf f ≤ seqOf x) ∧
    ∀ (j : Nat) (f : Fn), placeF fs x k ≤ j → j < k → fs[j]? = some f → seqOf x < seqOf f := by
  intro k
  induction k with
  | zero => intro _; exact ⟨fun j f hj => absurd hj (by simp [placeF]), fun j f _ hj => absurd hj (by omega)⟩
  | succ k ih =>
    intro hk
    obtain ⟨i1, i2⟩ := ih (by omega)
    have hg : fs[k]? = some (fs.getD k (0, 0, 0, 0, [])) := by simp [List.getD, show k < fs.length by omega]
    unfold placeF
    by_cases hx : seqOf x < seqOf (fs.getD k (0, 0, 0, 0, []))
    · rw [if_pos hx]
      refine ⟨i1, fun j f h1 h2 h3 => ?_⟩
      rcases Nat.lt_or_ge j k with h4 | h4
      · exact i2 j f h1 h4 h3
      · obtain rfl : j = k := by omega
        rw [hg] at h3
        injection h3 with h3
        rw [← h3]
        exact hx
    · rw [if_neg hx]
      refine ⟨fun j f h1 h3 => ?_, fun j f h1 h2 _ => absurd h1 (by omega)⟩
      rcases Nat.lt_or_ge j k with h4 | h4
      · have hp := List.pairwise_iff_getElem.1 h j k (by omega) (by omega) h4
        rw [List.getElem?_eq_getElem (show j < fs.length by omega)] at h3
        rw [List.getElem?_eq_getElem (show k < fs.length by omega)] at hg
        injection h3 with h3
        injection hg with hg
        rw [h3, hg] at hp
        omega
      · obtain rfl : j = k := by omega
        rw [hg] at h3
        injection h3 with h3
        rw [← h3]
        omega
theorem insF_asc {fs : List Fn} {x : Fn} (h : ascF fs) : ascF (insF fs x) := by
  obtain ⟨h1, h2⟩ := placeF_spec (x := x) h fs.length (Nat.le_refl _)
  have hl := placeF_le fs x fs.length
  unfold ascF insF
  have ht : ∀ f ∈ fs.take (placeF fs x fs.length), seqOf f ≤ seqOf x := by
    intro f hf
    obtain ⟨j, hj⟩ := List.getElem?_of_mem hf
    have hlt : j < placeF fs x fs.length := by
      have := (List.getElem?_eq_some_iff.1 hj).1
      rw [List.length_take] at this
      omega
    rw [List.getElem?_take_of_lt hlt] at hj
    exact h1 j f hlt hj
  have hd : ∀ f ∈ fs.drop (placeF fs x fs.length), seqOf x ≤ seqOf f := by
    intro f hf
    obtain ⟨j, hj⟩ := List.getElem?_of_mem hf
    rw [List.getElem?_drop] at hj
    have := (List.getElem?_eq_some_iff.1 hj).1
    exact Int.le_of_lt (h2 _ f (by omega) this hj)
  refine List.pairwise_append.2 ⟨List.Pairwise.sublist (List.take_sublist _ _) h, List.pairwise_cons.2 ⟨hd, List.Pairwise.sublist (List.drop_sublist _ _) h⟩, fun f hf g hg => ?_⟩
  simp only [List.mem_cons] at hg
  rcases hg with rfl | hg
  · exact ht f hf
  · exact Int.le_trans (ht f hf) (hd g hg)
theorem insAll_asc (gs : List Fn) : ∀ fs, ascF fs → ascF (insAll fs gs) := by
  induction gs with
  | nil => intro fs h; exact h
  | cons g gs ih => intro fs h; exact ih _ (insF_asc h)
theorem foldAll_asc (zs : List (List Fn)) : ∀ fs, ascF fs → ascF (zs.foldl insAll fs) := by
  induction zs with
  | nil => intro fs h; exact h
  | cons g gs ih => intro fs h; exact ih _ (insAll_asc g _ h)
theorem orderF_asc (zs : List (List Fn)) : ascF (orderF zs) := foldAll_asc zs [] List.Pairwise.nil
theorem insAll_length (gs : List Fn) : ∀ fs, (insAll fs gs).length = fs.length + gs.length := by
  induction gs with
  | nil => intro fs; rfl
  | cons g gs ih => intro fs; show (insAll (insF fs g) gs).length = _; rw [ih, insF_length]; simp; omega
theorem insAll_mem (gs : List Fn) (f : Fn) : ∀ fs, f ∈ insAll fs gs ↔ f ∈ gs ∨ f ∈ fs := by
  induction gs with
  | nil => intro fs; simp [insAll]
  | cons g gs ih =>
    intro fs
    show f ∈ insAll (insF fs g) gs ↔ _
    rw [ih, insF_mem, List.mem_cons, or_left_comm, or_assoc]
theorem insAll_append (fs gs hs : List Fn) : insAll fs (gs ++ hs) = insAll (insAll fs gs) hs := by unfold insAll; rw [List.foldl_append]
theorem insAll_step (fs gs : List Fn) (g : Fn) : insAll fs (gs ++ [g]) = insF (insAll fs gs) g := by rw [insAll_append]; rfl
theorem orderF_step (zs : List (List Fn)) (gs : List Fn) : orderF (zs ++ [gs]) = insAll (orderF zs) gs := by unfold orderF; rw [List.foldl_append]; rfl
def sumL : List (List Fn) → Nat
  | [] => 0
  | g :: gs => g.length + sumL gs
theorem foldAll_length (zs : List (List Fn)) : ∀ fs, (zs.foldl insAll fs).length = fs.length + sumL zs := by
  induction zs with
  | nil => intro fs; rfl
  | cons g gs ih => intro fs; rw [List.foldl_cons, ih, insAll_length, sumL]; omega
theorem orderF_length (zs : List (List Fn)) : (orderF zs).length = sumL zs := by unfold orderF; rw [foldAll_length]; simp
theorem foldAll_mem (zs : List (List Fn)) (f : Fn) : ∀ fs, f ∈ zs.foldl insAll fs ↔ (∃ g ∈ zs, f ∈ g) ∨ f ∈ fs := by
  induction zs with
  | nil => intro fs; simp
  | cons g gs ih =>
    intro fs
    rw [List.foldl_cons, ih, insAll_mem, ← or_assoc]
    simp only [List.mem_cons, exists_eq_or_imp, or_comm]
theorem orderF_mem (zs : List (List Fn)) (f : Fn) : f ∈ orderF zs ↔ ∃ g ∈ zs, f ∈ g := by unfold orderF; rw [foldAll_mem]; simp
end Go.Proofs.Ytcocboigjfjnfac
