/-
  Plain mathematics of maps of blocks: elements, validity, a frame that is applied, lists of blocks and of objects.
-/
import Derived.Test.YtiopbgenkalfaaaExtM
import Derived.Test.YtiopbgenkalfaaaSameP
import Derived.Test.YtiopbgenkalfaaaFrameV
namespace Go.Proofs.Ytiopbgenkalfaaa
open Go.RowKit
set_option linter.unusedVariables false
set_option maxRecDepth 100000

/-- an element: tier, zone, word, object, place -/
abbrev Wh := Int × Int × Int × Int × Int
def wh0 : Wh := (0, 0, 0, 0, 0)
def whV (x : Wh) : Bool :=
  if x.1 = 0 then decide (x = wh0) else if x.1 = 1 then (inB x.2.1 0 3 && (inB x.2.2.1 0 63 && (decide (x.2.2.2.1 = 0) && decide (x.2.2.2.2 = 0)))) else if x.1 = 2 then (inB x.2.1 0 3 && (inB x.2.2.1 0 63 && (inB x.2.2.2.1 1 999 && inB x.2.2.2.2 0 5))) else false
def mpV (ms : List Wh) : Bool := ms.all whV && decide (ms.length = 12)
theorem mpV_iff {ms : List Wh} : mpV ms = true ↔ (∀ x ∈ ms, whV x = true) ∧ ms.length = 12 := by
  unfold mpV
  rw [Bool.and_eq_true, List.all_eq_true, decide_eq_true_eq]

/-! ### as numbers in memory -/
def fl5 : List Wh → List Int
  | [] => []
  | e :: r => e.1 :: e.2.1 :: e.2.2.1 :: e.2.2.2.1 :: e.2.2.2.2 :: fl5 r
def unfl5 : List Int → List Wh
  | a :: b :: c :: d :: e :: r => (a, b, c, d, e) :: unfl5 r
  | _ => []
theorem fl5_length (es : List Wh) : (fl5 es).length = es.length * 5 := by
  induction es with
  | nil => rfl
  | cons e r ih => simp only [fl5, List.length_cons, ih]; omega
theorem fl5_append (es fs : List Wh) : fl5 (es ++ fs) = fl5 es ++ fl5 fs := by
  induction es with
  | nil => rfl
  | cons e r ih => simp only [fl5, List.cons_append, ih]
theorem fl5_getD {es : List Wh} {k : Nat} {e : Wh} (h : es[k]? = some e) : (fl5 es).getD (k * 5) 0 = e.1 ∧ (fl5 es).getD (k * 5 + 1) 0 = e.2.1 ∧ (fl5 es).getD (k * 5 + 2) 0 = e.2.2.1 ∧ (fl5 es).getD (k * 5 + 3) 0 = e.2.2.2.1 ∧ (fl5 es).getD (k * 5 + 4) 0 = e.2.2.2.2 := by
  induction es generalizing k with
  | nil => simp at h
  | cons f r ih =>
    rcases k with _ | k
    · simp at h
      subst h
      exact ⟨rfl, rfl, rfl, rfl, rfl⟩
    · simp at h
      have := ih h
      rw [show (k + 1) * 5 = k * 5 + 1 + 1 + 1 + 1 + 1 by omega]
      simpa [fl5] using this
theorem fl5_set {es : List Wh} {k : Nat} (h : k < es.length) (a b c d e : Int) : (((((fl5 es).set (k * 5) a).set (k * 5 + 1) b).set (k * 5 + 2) c).set (k * 5 + 3) d).set (k * 5 + 4) e = fl5 (es.set k (a, b, c, d, e)) := by
  induction es generalizing k with
  | nil => simp at h
  | cons f r ih =>
    rcases k with _ | k
    · rfl
    · simp at h
      have := ih h
      rw [show (k + 1) * 5 = k * 5 + 1 + 1 + 1 + 1 + 1 by omega]
      simpa [fl5] using this
theorem fl5_set0 {es : List Wh} {k : Nat} {x : Wh} (h : es[k]? = some x) (a : Int) : (fl5 es).set (k * 5) a = fl5 (es.set k (a, x.2)) := by
  induction es generalizing k with
  | nil => simp at h
  | cons f r ih =>
    rcases k with _ | k
    · simp at h
      subst h
      rfl
    · simp at h
      have := ih h
      rw [show (k + 1) * 5 = k * 5 + 1 + 1 + 1 + 1 + 1 by omega]
      simpa [fl5] using this
theorem fl5_set1 {es : List Wh} {k : Nat} {x : Wh} (h : es[k]? = some x) (a : Int) : (fl5 es).set (k * 5 + 1) a = fl5 (es.set k (x.1, a, x.2.2)) := by
  induction es generalizing k with
  | nil => simp at h
  | cons f r ih =>
    rcases k with _ | k
    · simp at h
      subst h
      rfl
    · simp at h
      have := ih h
      rw [show (k + 1) * 5 = k * 5 + 1 + 1 + 1 + 1 + 1 by omega]
      simpa [fl5] using this
theorem fl5_set3 {es : List Wh} {k : Nat} {x : Wh} (h : es[k]? = some x) (a : Int) : (fl5 es).set (k * 5 + 3) a = fl5 (es.set k (x.1, x.2.1, x.2.2.1, a, x.2.2.2.2)) := by
  induction es generalizing k with
  | nil => simp at h
  | cons f r ih =>
    rcases k with _ | k
    · simp at h
      subst h
      rfl
    · simp at h
      have := ih h
      rw [show (k + 1) * 5 = k * 5 + 1 + 1 + 1 + 1 + 1 by omega]
      simpa [fl5] using this
theorem fl5_take (es : List Wh) (k : Nat) : fl5 (es.take k) = (fl5 es).take (k * 5) := by
  induction es generalizing k with
  | nil => simp [fl5]
  | cons e r ih =>
    rcases k with _ | k
    · simp [fl5]
    · rw [show (k + 1) * 5 = k * 5 + 1 + 1 + 1 + 1 + 1 by omega]
      simp [fl5, ih]
theorem fl5_unfl (n : Nat) (xs : List Int) (h : xs.length = n * 5) : fl5 (unfl5 xs) = xs ∧ (unfl5 xs).length = n := by
  induction n generalizing xs with
  | zero =>
    obtain rfl := List.eq_nil_of_length_eq_zero (by omega : xs.length = 0)
    exact ⟨rfl, rfl⟩
  | succ n ih =>
    match xs, h with
    | a :: b :: c :: d :: e :: r, h =>
      have := ih r (by simp at h; omega)
      exact ⟨by simp [unfl5, fl5, this.1], by simp [unfl5, this.2]⟩
    | [], h => simp at h
    | [_], h => simp at h; omega
    | [_, _], h => simp at h; omega
    | [_, _, _], h => simp at h; omega
    | [_, _, _, _], h => simp at h; omega
theorem fl5_inj {es fs : List Wh} (h : fl5 es = fl5 fs) : es = fs := by
  induction es generalizing fs with
  | nil =>
    rcases fs with _ | ⟨f, r⟩
    · rfl
    · simp [fl5] at h
  | cons e r ih =>
    rcases fs with _ | ⟨f, s⟩
    · simp [fl5] at h
    · simp only [fl5, List.cons.injEq] at h
      obtain ⟨h1, h2, h3, h4, h5, h6⟩ := h
      rw [ih h6, show e = f from Prod.ext h1 (Prod.ext h2 (Prod.ext h3 (Prod.ext h4 h5)))]

/-! ### elements that are put, one after the other -/
def puts (f : Nat → Nat) (g : Nat → Wh) : Nat → List Wh → List Wh
  | 0, ms => ms
  | k + 1, ms => (puts f g k ms).set (f k) (g k)
theorem puts_succ (f : Nat → Nat) (g : Nat → Wh) (k : Nat) (ms : List Wh) : puts f g (k + 1) ms = (puts f g k ms).set (f k) (g k) := rfl
theorem puts_length (f : Nat → Nat) (g : Nat → Wh) : ∀ (k : Nat) (ms : List Wh), (puts f g k ms).length = ms.length
  | 0, _ => rfl
  | k + 1, ms => by rw [puts_succ, List.length_set, puts_length f g k ms]
theorem puts_not {f : Nat → Nat} {g : Nat → Wh} {b : Nat} : ∀ {k : Nat} {ms : List Wh}, (∀ j, j < k → f j ≠ b) → (puts f g k ms)[b]? = ms[b]?
  | 0, _, _ => rfl
  | k + 1, ms, h => by
    rw [puts_succ, List.getElem?_set_ne (h k (Nat.lt_succ_self k)), puts_not fun j hj => h j (Nat.lt_succ_of_lt hj)]
theorem puts_at {f : Nat → Nat} {g : Nat → Wh} {j : Nat} : ∀ {k : Nat} {ms : List Wh}, j < k → (∀ i j, i < j → j < k → f i ≠ f j) → f j < ms.length → (puts f g k ms)[f j]? = some (g j)
  | 0, _, h, _, _ => by omega
  | k + 1, ms, h, hi, hl => by
    rw [puts_succ]
    by_cases e : j = k
    · subst e
      rw [List.getElem?_set_self (by rw [puts_length]; exact hl)]
    · rw [List.getElem?_set_ne (fun e2 => hi j k (by omega) (Nat.lt_succ_self k) e2.symm)]
      exact puts_at (by omega) (fun i j hij hj => hi i j hij (by omega)) hl
theorem puts_valid {f : Nat → Nat} {g : Nat → Wh} : ∀ {k : Nat} {ms : List Wh}, (∀ j, j < k → whV (g j) = true) → (∀ x ∈ ms, whV x = true) → ∀ x ∈ puts f g k ms, whV x = true
  | 0, _, _, h, x, hx => h x hx
  | k + 1, ms, hg, h, x, hx => by
    rcases List.mem_or_eq_of_mem_set (show x ∈ (puts f g k ms).set (f k) (g k) from hx) with hx | rfl
    · exact puts_valid (fun j hj => hg j (Nat.lt_succ_of_lt hj)) h x hx
    · exact hg k (Nat.lt_succ_self k)
theorem puts_twice {f : Nat → Nat} {g : Nat → Wh} {k : Nat} {ms : List Wh} (hi : ∀ i j, i < j → j < k → f i ≠ f j) (hl : ∀ j, j < k → f j < ms.length) : puts f g k (puts f g k ms) = puts f g k ms := by
  apply List.ext_getElem?
  intro b
  by_cases h : ∃ j, j < k ∧ f j = b
  · obtain ⟨j, hj, rfl⟩ := h
    rw [puts_at hj hi (by rw [puts_length]; exact hl j hj), puts_at hj hi (hl j hj)]
  · rw [puts_not fun j hj e => h ⟨j, hj, e⟩]

/-! ### a frame that is applied -/
/-- block of record k -/
def blkAt (s : Nat) (xs : List Int) (k : Nat) : Nat := (xs.getD (k * s) 0).toNat
def hotE (z a : Int) (xs : List Int) (k : Nat) : Wh := if 0 < xs.getD (k * 2 + 1) 0 then (1, z, a + 4 + 2 * k, 0, 0) else wh0
def coldE (z a : Int) (xs : List Int) (k : Nat) : Wh := (2, z, a + 3 + 3 * k, xs.getD (k * 3 + 1) 0, xs.getD (k * 3 + 2) 0)
def apK (kd z a : Int) (xs : List Int) (k : Nat) (ms : List Wh) : List Wh := if kd = 1 then puts (blkAt 2 xs) (hotE z a xs) k ms else puts (blkAt 3 xs) (coldE z a xs) k ms
def recN (kd : Int) (xs : List Int) : Nat := if kd = 1 then xs.length / 2 else xs.length / 3
def bodyOk (kd : Int) (xs : List Int) : Bool := if kd = 1 then okG 2 9 fldP xs xs.length else okG 3 6 fldC xs xs.length
def apOk (ms : List Wh) (kd sq : Int) (xs : List Int) (z a : Int) : Bool := mpV ms && (validF kd sq xs && (inB z 0 3 && (inB a 0 (60 - xs.length) && bodyOk kd xs)))
def apM (ms : List Wh) (kd sq : Int) (xs : List Int) (z a : Int) : List Wh := if apOk ms kd sq xs z a then apK kd z a xs (recN kd xs) ms else []

structure ApI (ms : List Wh) (kd sq : Int) (xs : List Int) (z a : Int) : Prop where
  mp : mpV ms = true
  fr : validF kd sq xs = true
  z0 : 0 ≤ z ∧ z ≤ 3
  a0 : 0 ≤ a ∧ a ≤ 60 - xs.length
  bo : bodyOk kd xs = true
theorem apOk_iff {ms : List Wh} {kd sq : Int} {xs : List Int} {z a : Int} : apOk ms kd sq xs z a = true ↔ ApI ms kd sq xs z a := by
  unfold apOk
  simp only [Bool.and_eq_true, inB_iff]
  exact ⟨fun ⟨h1, h2, h3, h4, h5⟩ => ⟨h1, h2, h3, h4, h5⟩, fun h => ⟨h.mp, h.fr, h.z0, h.a0, h.bo⟩⟩

theorem step_in {s : Nat} {xs : List Int} {n : Nat} (h : ∀ j, j < n → stepR s xs j = true) : ∀ j, j < n → 0 ≤ xs.getD (j * s) 0 ∧ xs.getD (j * s) 0 ≤ 11 := by
  intro j
  induction j with
  | zero =>
    intro hj
    have := h 0 hj
    unfold stepR at this
    rw [Bool.and_eq_true, decide_eq_true_eq, decide_eq_true_eq] at this
    have h1 : prevR s xs 0 = -1 := rfl
    omega
  | succ j ih =>
    intro hj
    have h1 := ih (by omega)
    have := h (j + 1) hj
    unfold stepR at this
    rw [Bool.and_eq_true, decide_eq_true_eq, decide_eq_true_eq] at this
    have h2 : prevR s xs (j + 1) = xs.getD (j * s) 0 := rfl
    omega
theorem step_lt {s : Nat} {xs : List Int} {n : Nat} (h : ∀ j, j < n → stepR s xs j = true) : ∀ j i, i < j → j < n → xs.getD (i * s) 0 < xs.getD (j * s) 0 := by
  intro j
  induction j with
  | zero => intro i hi _; omega
  | succ j ih =>
    intro i hi hj
    have := h (j + 1) hj
    unfold stepR at this
    rw [Bool.and_eq_true, decide_eq_true_eq, decide_eq_true_eq] at this
    have h2 : prevR s xs (j + 1) = xs.getD (j * s) 0 := rfl
    by_cases e : i = j
    · subst e; omega
    · have := ih i (by omega) (by omega)
      omega
/-- what is known of the records of a valid body -/
structure RecsI (s : Nat) (mx : Int) (f : List Int → Nat → Bool) (xs : List Int) (n : Nat) : Prop where
  len : xs.length = n * s
  one : 1 ≤ n
  most : (n : Int) ≤ mx
  fld : ∀ j, j < n → f xs j = true
  blk : ∀ j, j < n → 0 ≤ xs.getD (j * s) 0 ∧ xs.getD (j * s) 0 ≤ 11
  inj : ∀ i j, i < j → j < n → blkAt s xs i ≠ blkAt s xs j
  low : ∀ j, j < n → blkAt s xs j < 12
theorem recs_of {s : Nat} {mx : Int} {f : List Int → Nat → Bool} {xs : List Int} (h : okG s mx f xs xs.length = true) : RecsI s mx f xs (xs.length / s) := by
  unfold okG at h
  rw [Bool.and_eq_true, decide_eq_true_eq, validR_iff] at h
  obtain ⟨h1, h2, h3, h4⟩ := h
  have hb := step_in h4
  refine ⟨?_, by omega, h2.2, h3, hb, fun i j hij hj => ?_, fun j hj => ?_⟩
  · have := Nat.div_add_mod xs.length s
    rw [h1, Nat.add_zero, Nat.mul_comm] at this
    exact this.symm
  · have h5 := step_lt h4 j i hij hj
    have h6 := hb i (by omega)
    have h7 := hb j hj
    unfold blkAt
    omega
  · have h7 := hb j hj
    unfold blkAt
    omega

theorem hotE_ok {z a : Int} {xs : List Int} {n : Nat} (hz : 0 ≤ z ∧ z ≤ 3) (ha : 0 ≤ a ∧ a ≤ 60 - xs.length) (hr : RecsI 2 9 fldP xs n) : ∀ j, j < n → whV (hotE z a xs j) = true := by
  intro j hj
  have hl := hr.len
  unfold hotE
  split
  · show (inB z 0 3 && (inB (a + 4 + 2 * j) 0 63 && (decide ((0 : Int) = 0) && decide ((0 : Int) = 0)))) = true
    rw [inB_iff.2 ⟨hz.1, hz.2⟩, inB_iff.2 ⟨by omega, by omega⟩]
    rfl
  · rfl
theorem fldC_iff {xs : List Int} {j : Nat} (h : fldC xs j = true) : (1 ≤ xs.getD (j * 3 + 1) 0 ∧ xs.getD (j * 3 + 1) 0 ≤ 999) ∧ 0 ≤ xs.getD (j * 3 + 2) 0 ∧ xs.getD (j * 3 + 2) 0 ≤ 5 := by
  unfold fldC at h
  simp only [Bool.and_eq_true, decide_eq_true_eq] at h
  exact h
theorem fldP_iff {xs : List Int} {j : Nat} (h : fldP xs j = true) : 0 ≤ xs.getD (j * 2 + 1) 0 ∧ xs.getD (j * 2 + 1) 0 ≤ 99 := by
  unfold fldP at h
  simp only [Bool.and_eq_true, decide_eq_true_eq] at h
  exact h
theorem coldE_ok {z a : Int} {xs : List Int} {n : Nat} (hz : 0 ≤ z ∧ z ≤ 3) (ha : 0 ≤ a ∧ a ≤ 60 - xs.length) (hr : RecsI 3 6 fldC xs n) : ∀ j, j < n → whV (coldE z a xs j) = true := by
  intro j hj
  have hl := hr.len
  obtain ⟨h1, h2⟩ := fldC_iff (hr.fld j hj)
  show (inB z 0 3 && (inB (a + 3 + 3 * j) 0 63 && (inB (xs.getD (j * 3 + 1) 0) 1 999 && inB (xs.getD (j * 3 + 2) 0) 0 5))) = true
  rw [inB_iff.2 ⟨hz.1, hz.2⟩, inB_iff.2 ⟨by omega, by omega⟩, inB_iff.2 h1, inB_iff.2 h2]
  rfl

/-- the blocks and the elements of a frame -/
def apF (kd : Int) (xs : List Int) : Nat → Nat := if kd = 1 then blkAt 2 xs else blkAt 3 xs
def apG (kd z a : Int) (xs : List Int) : Nat → Wh := if kd = 1 then hotE z a xs else coldE z a xs
theorem apK_eq (kd z a : Int) (xs : List Int) (k : Nat) (ms : List Wh) : apK kd z a xs k ms = puts (apF kd xs) (apG kd z a xs) k ms := by
  unfold apK apF apG
  split <;> rfl
structure ApR (kd z a : Int) (xs : List Int) : Prop where
  inj : ∀ i j, i < j → j < recN kd xs → apF kd xs i ≠ apF kd xs j
  low : ∀ j, j < recN kd xs → apF kd xs j < 12
  val : ∀ j, j < recN kd xs → whV (apG kd z a xs j) = true
  one : 1 ≤ recN kd xs
theorem ApI.recs {ms : List Wh} {kd sq : Int} {xs : List Int} {z a : Int} (h : ApI ms kd sq xs z a) : ApR kd z a xs := by
  have hb := h.bo
  unfold bodyOk at hb
  by_cases hk : kd = 1
  · rw [if_pos hk] at hb
    have hr := recs_of hb
    have e1 : apF kd xs = blkAt 2 xs := by unfold apF; rw [if_pos hk]
    have e2 : apG kd z a xs = hotE z a xs := by unfold apG; rw [if_pos hk]
    have e3 : recN kd xs = xs.length / 2 := by unfold recN; rw [if_pos hk]
    exact ⟨by rw [e1, e3]; exact hr.inj, by rw [e1, e3]; exact hr.low, by rw [e2, e3]; exact hotE_ok h.z0 h.a0 hr, by rw [e3]; exact hr.one⟩
  · rw [if_neg hk] at hb
    have hr := recs_of hb
    have e1 : apF kd xs = blkAt 3 xs := by unfold apF; rw [if_neg hk]
    have e2 : apG kd z a xs = coldE z a xs := by unfold apG; rw [if_neg hk]
    have e3 : recN kd xs = xs.length / 3 := by unfold recN; rw [if_neg hk]
    exact ⟨by rw [e1, e3]; exact hr.inj, by rw [e1, e3]; exact hr.low, by rw [e2, e3]; exact coldE_ok h.z0 h.a0 hr, by rw [e3]; exact hr.one⟩
theorem apM_eq {ms : List Wh} {kd sq : Int} {xs : List Int} {z a : Int} (h : apOk ms kd sq xs z a = true) : apM ms kd sq xs z a = puts (apF kd xs) (apG kd z a xs) (recN kd xs) ms := by
  unfold apM
  rw [if_pos h, apK_eq]
theorem apM_valid {ms : List Wh} {kd sq : Int} {xs : List Int} {z a : Int} (h : apOk ms kd sq xs z a = true) : mpV (apM ms kd sq xs z a) = true := by
  have hi := apOk_iff.1 h
  have hr := hi.recs
  have hm := mpV_iff.1 hi.mp
  rw [apM_eq h]
  exact mpV_iff.2 ⟨puts_valid hr.val hm.1, by rw [puts_length]; exact hm.2⟩
theorem apM_twice {ms : List Wh} {kd sq : Int} {xs : List Int} {z a : Int} (h : apOk ms kd sq xs z a = true) : apOk (apM ms kd sq xs z a) kd sq xs z a = true ∧ apM (apM ms kd sq xs z a) kd sq xs z a = apM ms kd sq xs z a := by
  have hi := apOk_iff.1 h
  have hr := hi.recs
  have hm := mpV_iff.1 hi.mp
  have h2 : apOk (apM ms kd sq xs z a) kd sq xs z a = true := apOk_iff.2 ⟨apM_valid h, hi.fr, hi.z0, hi.a0, hi.bo⟩
  refine ⟨h2, ?_⟩
  rw [apM_eq h2, apM_eq h]
  exact puts_twice hr.inj fun j hj => by rw [hm.2]; exact hr.low j hj
theorem apM_at {ms : List Wh} {kd sq : Int} {xs : List Int} {z a : Int} (h : apOk ms kd sq xs z a = true) {j : Nat} (hj : j < recN kd xs) : (apM ms kd sq xs z a)[apF kd xs j]? = some (apG kd z a xs j) := by
  have hi := apOk_iff.1 h
  have hr := hi.recs
  rw [apM_eq h]
  exact puts_at hj hr.inj (by rw [(mpV_iff.1 hi.mp).2]; exact hr.low j hj)
theorem apM_not {ms : List Wh} {kd sq : Int} {xs : List Int} {z a : Int} (h : apOk ms kd sq xs z a = true) {b : Nat} (hb : ∀ j, j < recN kd xs → apF kd xs j ≠ b) : (apM ms kd sq xs z a)[b]? = ms[b]? := by
  rw [apM_eq h]
  exact puts_not hb
theorem apM_len {ms : List Wh} {kd sq : Int} {xs : List Int} {z a : Int} (h : apOk ms kd sq xs z a = true) : (apM ms kd sq xs z a).length = 12 := (mpV_iff.1 (apM_valid h)).2

/-! ### lists of blocks and of objects -/
def inZ (ms : List Wh) (z : Int) (b : Int) : Bool := match ms[b.toNat]? with
  | some x => decide (x.1 ≠ 0) && decide (x.2.1 = z)
  | none => false
def inT (ms : List Wh) (t : Int) (b : Int) : Bool := match ms[b.toNat]? with
  | some x => decide (x.1 = t)
  | none => false
def inM (ms : List Wh) (z : Int) : List Int := if mpV ms then blkP (inZ ms z) 12 else []
def tierM (ms : List Wh) (t : Int) : List Int := if mpV ms then blkP (inT ms t) 12 else []
/-- the numbers from 1 on that p tells -/
def upP (p : Int → Bool) : Nat → List Int
  | 0 => []
  | i + 1 => if p ((i : Int) + 1) then upP p i ++ [(i : Int) + 1] else upP p i
def hasId (ms : List Wh) (d : Int) : Bool := ms.any fun x => decide (x.2.2.2.1 = d)
def idsM (ms : List Wh) : List Int := if mpV ms then upP (hasId ms) 999 else []
theorem upP_succ (p : Int → Bool) (i : Nat) : upP p (i + 1) = if p ((i : Int) + 1) then upP p i ++ [(i : Int) + 1] else upP p i := rfl
theorem blkP_three {p q r : Int → Bool} : ∀ n : Nat, (∀ i : Nat, i < n → (p i = true ∧ q i = false ∧ r i = false) ∨ (p i = false ∧ q i = true ∧ r i = false) ∨ (p i = false ∧ q i = false ∧ r i = true)) → (blkP p n).length + (blkP q n).length + (blkP r n).length = n
  | 0, _ => rfl
  | n + 1, h => by
    have ih := blkP_three n fun i hi => h i (by omega)
    rw [blkP_succ, blkP_succ, blkP_succ]
    rcases h n (by omega) with ⟨h1, h2, h3⟩ | ⟨h1, h2, h3⟩ | ⟨h1, h2, h3⟩ <;> rw [h1, h2, h3] <;> simp <;> omega
theorem whV_tier {x : Wh} (h : whV x = true) : x.1 = 0 ∨ x.1 = 1 ∨ x.1 = 2 := by
  unfold whV at h
  split at h
  · exact .inl ‹_›
  split at h
  · exact .inr (.inl ‹_›)
  split at h
  · exact .inr (.inr ‹_›)
  · cases h
theorem tier_all {ms : List Wh} (h : mpV ms = true) : (tierM ms 0).length + (tierM ms 1).length + (tierM ms 2).length = 12 := by
  obtain ⟨h1, h2⟩ := mpV_iff.1 h
  unfold tierM
  rw [if_pos h, if_pos h, if_pos h]
  refine blkP_three 12 fun i hi => ?_
  obtain ⟨x, hx⟩ : ∃ x, ms[i]? = some x := ⟨_, List.getElem?_eq_getElem (by rw [h2]; exact hi)⟩
  have ht := whV_tier (h1 x (List.mem_of_getElem? hx))
  have e : ∀ t, inT ms t (i : Int) = decide (x.1 = t) := fun t => by
    unfold inT
    rw [Int.toNat_natCast, hx]
  rw [e, e, e]
  rcases ht with h | h | h <;> rw [h] <;> decide
theorem hasB_snoc (xs : List Int) (y n : Int) : hasB (xs ++ [y]) n = (hasB xs n || decide (n = y)) := by
  unfold hasB
  rw [Bool.eq_iff_iff, Bool.or_eq_true, decide_eq_true_eq]
  simp
theorem upP_mem (p : Int → Bool) : ∀ (n : Nat) (d : Int), hasB (upP p n) d = (decide (1 ≤ d) && decide (d ≤ n) && p d)
  | 0, d => by
    show false = _
    by_cases h : 1 ≤ d
    · rw [decide_eq_false (p := d ≤ ((0 : Nat) : Int)) (by omega)]; simp
    · rw [decide_eq_false (p := 1 ≤ d) h]; rfl
  | n + 1, d => by
    have hs : hasB (upP p (n + 1)) d = (hasB (upP p n) d || (decide (d = (n : Int) + 1) && p ((n : Int) + 1))) := by
      rw [upP_succ]
      rcases hp : p ((n : Int) + 1) with _ | _
      · simp
      · rw [if_pos rfl, hasB_snoc, Bool.and_true]
    rw [hs, upP_mem p n]
    by_cases hd : d = (n : Int) + 1
    · subst hd
      rw [decide_eq_true (by omega : (1 : Int) ≤ (n : Int) + 1), decide_eq_true (by omega : (n : Int) + 1 ≤ ((n + 1 : Nat) : Int)), decide_eq_false (p := (n : Int) + 1 ≤ (n : Int)) (by omega)]
      simp
    · rw [decide_eq_false (p := d = (n : Int) + 1) hd, Bool.false_and, Bool.or_false]
      congr 2
      rw [decide_eq_decide]
      omega
theorem ids_has {ms : List Wh} (h : mpV ms = true) {x : Wh} (hx : x ∈ ms) (ht : x.1 = 2) : hasB (idsM ms) x.2.2.2.1 = true := by
  have hv := (mpV_iff.1 h).1 x hx
  unfold whV at hv
  rw [if_neg (by omega), if_neg (by omega), if_pos ht] at hv
  simp only [Bool.and_eq_true, inB_iff] at hv
  obtain ⟨_, _, h3, _⟩ := hv
  unfold idsM
  rw [if_pos h, upP_mem, decide_eq_true h3.1, decide_eq_true (by have := h3.2; omega)]
  unfold hasId
  rw [Bool.true_and, Bool.true_and, List.any_eq_true]
  exact ⟨x, hx, by simp⟩
/-- an object of a list is that of a cold element -/
theorem ids_some {ms : List Wh} (h : mpV ms = true) {d : Int} (hd : hasB (idsM ms) d = true) : (ms.any fun x => decide (x.1 = 2) && decide (x.2.2.2.1 = d)) = true := by
  unfold idsM at hd
  rw [if_pos h, upP_mem] at hd
  simp only [Bool.and_eq_true, decide_eq_true_eq] at hd
  obtain ⟨⟨h1, h2⟩, h3⟩ := hd
  unfold hasId at h3
  rw [List.any_eq_true] at h3 ⊢
  obtain ⟨x, hx, he⟩ := h3
  refine ⟨x, hx, ?_⟩
  rw [decide_eq_true_eq] at he
  rw [Bool.and_eq_true, decide_eq_true_eq, decide_eq_true_eq]
  refine ⟨?_, he⟩
  have hv := (mpV_iff.1 h).1 x hx
  unfold whV at hv
  by_cases t0 : x.1 = 0
  · rw [if_pos t0, decide_eq_true_eq] at hv
    rw [hv] at he
    have : (0 : Int) = d := he
    omega
  rw [if_neg t0] at hv
  by_cases t1 : x.1 = 1
  · rw [if_pos t1] at hv
    simp only [Bool.and_eq_true, decide_eq_true_eq] at hv
    omega
  rw [if_neg t1] at hv
  by_cases t2 : x.1 = 2
  · exact t2
  · rw [if_neg t2] at hv; cases hv
theorem upP_asc (p : Int → Bool) : ∀ n : Nat, (upP p n).Pairwise (· < ·) ∧ ∀ x ∈ upP p n, x ≤ n
  | 0 => ⟨List.Pairwise.nil, fun x hx => by cases hx⟩
  | n + 1 => by
    obtain ⟨h1, h2⟩ := upP_asc p n
    rw [upP_succ]
    split
    · refine ⟨List.pairwise_append.2 ⟨h1, List.pairwise_singleton _ _, fun x hx y hy => ?_⟩, fun x hx => ?_⟩
      · have := h2 x hx
        rw [List.mem_singleton.1 hy]
        omega
      · rcases List.mem_append.1 hx with hx | hx
        · have := h2 x hx; omega
        · rw [List.mem_singleton.1 hx]; omega
    · exact ⟨h1, fun x hx => by have := h2 x hx; omega⟩
theorem ids_asc (ms : List Wh) : (idsM ms).Pairwise (· < ·) := by
  unfold idsM
  split
  · exact (upP_asc _ _).1
  · exact List.Pairwise.nil

/-! ### a map without a block, and with a wrong one -/
theorem set_valid {ms : List Wh} (h : mpV ms = true) (k : Nat) : mpV (ms.set k wh0) = true := by
  obtain ⟨h1, h2⟩ := mpV_iff.1 h
  refine mpV_iff.2 ⟨fun x hx => ?_, by rw [List.length_set]; exact h2⟩
  rcases List.mem_or_eq_of_mem_set hx with hx | rfl
  · exact h1 x hx
  · rfl
theorem set_wrong {ms : List Wh} {k : Nat} (hk : k < ms.length) (r : Int × Int × Int × Int) : mpV (ms.set k (3, r)) = false := by
  rcases hv : mpV (ms.set k (3, r)) with _ | _
  · rfl
  · have h1 := (mpV_iff.1 hv).1 (3, r) (List.mem_of_getElem? (List.getElem?_set_self hk))
    have : whV (3, r) = false := rfl
    rw [this] at h1
    cases h1
end Go.Proofs.Ytiopbgenkalfaaa
