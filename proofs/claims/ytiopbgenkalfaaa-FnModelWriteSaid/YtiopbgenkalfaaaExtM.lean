/-
  Plain mathematics of extents: the blocks of extents, validity, the runs of a set of blocks; a valid list of extents is known by its blocks.
-/
import Derived.Test.YtiopbgenkalfaaaBase
import Derived.Test.YtiopbgenkalfaaaSum
namespace Go.Proofs.Ytiopbgenkalfaaa
open Go.RowKit
set_option linter.unusedVariables false
set_option maxRecDepth 100000

abbrev Exs := List (Int × Int)
/-- extents as numbers in memory -/
def fl : Exs → List Int
  | [] => []
  | e :: r => e.1 :: e.2 :: fl r
def unfl : List Int → Exs
  | x :: y :: r => (x, y) :: unfl r
  | _ => []
theorem fl_length (es : Exs) : (fl es).length = es.length * 2 := by
  induction es with
  | nil => rfl
  | cons e r ih => simp only [fl, List.length_cons, ih]; omega
theorem fl_append (es fs : Exs) : fl (es ++ fs) = fl es ++ fl fs := by
  induction es with
  | nil => rfl
  | cons e r ih => simp only [fl, List.cons_append, ih]
theorem fl_getD {es : Exs} {k : Nat} {e : Int × Int} (h : es[k]? = some e) : (fl es).getD (k * 2) 0 = e.1 ∧ (fl es).getD (k * 2 + 1) 0 = e.2 := by
  induction es generalizing k with
  | nil => simp at h
  | cons f r ih =>
    rcases k with _ | k
    · simp at h
      subst h
      exact ⟨rfl, rfl⟩
    · simp at h
      have := ih h
      rw [show (k + 1) * 2 = k * 2 + 1 + 1 by omega]
      simpa [fl] using this
theorem fl_set {es : Exs} {k : Nat} {e : Int × Int} (h : es[k]? = some e) (x y : Int) : (fl es).set (k * 2) x = fl (es.set k (x, e.2)) ∧ (fl es).set (k * 2 + 1) y = fl (es.set k (e.1, y)) := by
  induction es generalizing k with
  | nil => simp at h
  | cons f r ih =>
    rcases k with _ | k
    · simp at h
      subst h
      exact ⟨rfl, rfl⟩
    · simp at h
      have := ih h
      rw [show (k + 1) * 2 = k * 2 + 1 + 1 by omega]
      simpa [fl] using this
theorem fl_take (es : Exs) (k : Nat) : fl (es.take k) = (fl es).take (k * 2) := by
  induction es generalizing k with
  | nil => simp [fl]
  | cons e r ih =>
    rcases k with _ | k
    · simp [fl]
    · rw [show (k + 1) * 2 = k * 2 + 1 + 1 by omega]
      simp [fl, ih]
theorem fl_drop (es : Exs) (k : Nat) : fl (es.drop k) = (fl es).drop (k * 2) := by
  induction es generalizing k with
  | nil => simp [fl]
  | cons e r ih =>
    rcases k with _ | k
    · simp [fl]
    · rw [show (k + 1) * 2 = k * 2 + 1 + 1 by omega]
      simp [fl, ih]
theorem fl_unfl (n : Nat) (xs : List Int) (h : xs.length = n * 2) : fl (unfl xs) = xs ∧ (unfl xs).length = n := by
  induction n generalizing xs with
  | zero =>
    obtain rfl := List.eq_nil_of_length_eq_zero (by omega : xs.length = 0)
    exact ⟨rfl, rfl⟩
  | succ n ih =>
    match xs, h with
    | x :: y :: r, h =>
      have := ih r (by simp at h; omega)
      exact ⟨by simp [unfl, fl, this.1], by simp [unfl, this.2]⟩
    | [], h => simp at h
    | [x], h => simp at h; omega
theorem fl_inj {es fs : Exs} (h : fl es = fl fs) : es = fs := by
  induction es generalizing fs with
  | nil =>
    rcases fs with _ | ⟨f, r⟩
    · rfl
    · simp [fl] at h
  | cons e r ih =>
    rcases fs with _ | ⟨f, s⟩
    · simp [fl] at h
    · simp only [fl, List.cons.injEq] at h
      obtain ⟨h1, h2, h3⟩ := h
      rw [ih h3, show e = f from Prod.ext h1 h2]

/-! ### the blocks of extents -/
def inE (es : Exs) (b : Int) : Bool := es.any fun e => decide (e.1 ≤ b) && decide (b < e.1 + e.2)
def vE : Int → Exs → Bool
  | _, [] => true
  | nx, e :: r => inB e.1 nx 11 && inB e.2 1 (12 - e.1) && vE (e.1 + e.2 + 1) r
def exV (es : Exs) : Bool := vE 0 es
def nxt : Int → Exs → Int
  | nx, [] => nx
  | _, e :: r => nxt (e.1 + e.2 + 1) r
theorem inE_cons (e : Int × Int) (r : Exs) (b : Int) : inE (e :: r) b = ((decide (e.1 ≤ b) && decide (b < e.1 + e.2)) || inE r b) := by unfold inE; rw [List.any_cons]
theorem inE_append (es fs : Exs) (b : Int) : inE (es ++ fs) b = (inE es b || inE fs b) := by unfold inE; rw [List.any_append]
theorem vE_cons {nx : Int} {e : Int × Int} {r : Exs} : vE nx (e :: r) = true ↔ (nx ≤ e.1 ∧ e.1 ≤ 11) ∧ (1 ≤ e.2 ∧ e.2 ≤ 12 - e.1) ∧ vE (e.1 + e.2 + 1) r = true := by
  simp only [vE, Bool.and_eq_true, inB_iff, and_assoc]
theorem vE_append (es fs : Exs) : ∀ nx : Int, vE nx (es ++ fs) = (vE nx es && vE (nxt nx es) fs) := by
  induction es with
  | nil => intro nx; simp [vE, nxt]
  | cons e r ih => intro nx; simp only [List.cons_append, vE, nxt, ih, Bool.and_assoc]
theorem nxt_append (es fs : Exs) : ∀ nx : Int, nxt nx (es ++ fs) = nxt (nxt nx es) fs := by
  induction es with
  | nil => intro nx; rfl
  | cons e r ih => intro nx; simp only [List.cons_append, nxt, ih]
theorem vE_in {es : Exs} : ∀ {nx b : Int}, vE nx es = true → inE es b = true → nx ≤ b ∧ b ≤ 11 := by
  induction es with
  | nil => intro nx b _ h; cases h
  | cons e r ih =>
    intro nx b hv h
    obtain ⟨h1, h2, h3⟩ := vE_cons.1 hv
    rw [inE_cons, Bool.or_eq_true, Bool.and_eq_true, decide_eq_true_eq, decide_eq_true_eq] at h
    rcases h with h | h
    · omega
    · have := ih h3 h
      omega
theorem vE_less {es : Exs} {nx ny : Int} (h : vE nx es = true) (hle : ny ≤ nx) : vE ny es = true := by
  rcases es with _ | ⟨e, r⟩
  · rfl
  · obtain ⟨h1, h2, h3⟩ := vE_cons.1 h
    exact vE_cons.2 ⟨by omega, h2, h3⟩
theorem vE_not {es : Exs} {nx b : Int} (h : vE nx es = true) (hb : b < nx) : inE es b = false := by
  rcases he : inE es b with _ | _
  · rfl
  · have := vE_in h he
    omega

/-- a valid list of extents is known by its blocks -/
theorem ext_eq {xs : Exs} : ∀ {ys : Exs} {p q : Int}, vE p xs = true → vE q ys = true → (∀ b, inE xs b = inE ys b) → xs = ys := by
  induction xs with
  | nil =>
    intro ys p q _ hy h
    rcases ys with _ | ⟨e, r⟩
    · rfl
    · obtain ⟨h1, h2, h3⟩ := vE_cons.1 hy
      have := h e.1
      rw [inE_cons, decide_eq_true (by omega : e.1 ≤ e.1), decide_eq_true (by omega : e.1 < e.1 + e.2)] at this
      cases this
  | cons e r ih =>
    intro ys p q hx hy h
    obtain ⟨h1, h2, h3⟩ := vE_cons.1 hx
    rcases ys with _ | ⟨f, s⟩
    · have := h e.1
      rw [inE_cons, decide_eq_true (by omega : e.1 ≤ e.1), decide_eq_true (by omega : e.1 < e.1 + e.2)] at this
      cases this
    · obtain ⟨k1, k2, k3⟩ := vE_cons.1 hy
      have hx' : vE e.1 (e :: r) = true := vE_cons.2 ⟨by omega, h2, h3⟩
      have hy' : vE f.1 (f :: s) = true := vE_cons.2 ⟨by omega, k2, k3⟩
      have ie : inE (e :: r) e.1 = true := by rw [inE_cons, decide_eq_true (by omega : e.1 ≤ e.1), decide_eq_true (by omega : e.1 < e.1 + e.2)]; rfl
      have jf : inE (f :: s) f.1 = true := by rw [inE_cons, decide_eq_true (by omega : f.1 ≤ f.1), decide_eq_true (by omega : f.1 < f.1 + f.2)]; rfl
      have a1 := (vE_in hy' (by rw [← h]; exact ie)).1
      have a2 := (vE_in hx' (by rw [h]; exact jf)).1
      have e1 : e.1 = f.1 := by omega
      have e2 : e.2 = f.2 := by
        rcases Int.lt_trichotomy e.2 f.2 with hlt | heq | hgt
        · exfalso
          have b1 : inE (f :: s) (e.1 + e.2) = true := by rw [inE_cons, decide_eq_true (by omega : f.1 ≤ e.1 + e.2), decide_eq_true (by omega : e.1 + e.2 < f.1 + f.2)]; rfl
          rw [← h, inE_cons, decide_eq_false (p := e.1 + e.2 < e.1 + e.2) (by omega), Bool.and_false, Bool.false_or] at b1
          have := (vE_in h3 b1).1
          omega
        · exact heq
        · exfalso
          have b1 : inE (e :: r) (f.1 + f.2) = true := by rw [inE_cons, decide_eq_true (by omega : e.1 ≤ f.1 + f.2), decide_eq_true (by omega : f.1 + f.2 < e.1 + e.2)]; rfl
          rw [h, inE_cons, decide_eq_false (p := f.1 + f.2 < f.1 + f.2) (by omega), Bool.and_false, Bool.false_or] at b1
          have := (vE_in k3 b1).1
          omega
      obtain rfl : e = f := Prod.ext e1 e2
      rw [ih h3 k3 fun b => ?_]
      have hb := h b
      rw [inE_cons, inE_cons] at hb
      by_cases hbb : b < e.1 + e.2 + 1
      · rw [vE_not h3 hbb, vE_not k3 hbb]
      · rw [decide_eq_false (p := b < e.1 + e.2) (by omega), Bool.and_false, Bool.false_or, Bool.false_or] at hb
        exact hb

/-! ### the runs of a set of blocks -/
def bump : Exs → Exs
  | [] => []
  | [e] => [(e.1, e.2 + 1)]
  | e :: f :: r => e :: bump (f :: r)
theorem bump_snoc (es : Exs) (e : Int × Int) : bump (es ++ [e]) = es ++ [(e.1, e.2 + 1)] := by
  induction es with
  | nil => rfl
  | cons f r ih =>
    rcases r with _ | ⟨g, r⟩
    · rfl
    · simp only [List.cons_append, bump] at ih ⊢
      rw [ih]
theorem bump_length (es : Exs) : (bump es).length = es.length := by
  induction es with
  | nil => rfl
  | cons f r ih =>
    rcases r with _ | ⟨g, r⟩
    · rfl
    · simp only [bump, List.length_cons] at ih ⊢
      rw [ih]
/-- block i goes on with a run -/
def onP (p : Int → Bool) (i : Nat) : Bool := decide (0 < i) && p ((i : Int) - 1)
def runsP (p : Int → Bool) : Nat → Exs
  | 0 => []
  | i + 1 => if p i then (if onP p i then bump (runsP p i) else runsP p i ++ [((i : Int), 1)]) else runsP p i
theorem runsP_succ (p : Int → Bool) (i : Nat) : runsP p (i + 1) = if p i then (if onP p i then bump (runsP p i) else runsP p i ++ [((i : Int), 1)]) else runsP p i := rfl
/-- the extents of the blocks that p tells -/
def R (p : Int → Bool) : Exs := runsP p 12

structure Run (p : Int → Bool) (i : Nat) (es : Exs) : Prop where
  val : vE 0 es = true
  mem : ∀ b : Int, inE es b = (decide (0 ≤ b) && decide (b < i) && p b)
  off : onP p i = false → nxt 0 es ≤ i
  on : onP p i = true → ∃ (init : Exs) (e : Int × Int), es = init ++ [e] ∧ e.1 + e.2 = (i : Int)
theorem onP_succ (p : Int → Bool) (i : Nat) : onP p (i + 1) = p i := by
  unfold onP
  rw [decide_eq_true (by omega), Bool.true_and, show ((i + 1 : Nat) : Int) - 1 = (i : Int) by omega]
theorem inE_one (f n b : Int) : inE [(f, n)] b = (decide (f ≤ b) && decide (b < f + n)) := by unfold inE; simp
theorem run_all (p : Int → Bool) : ∀ i, i ≤ 12 → Run p i (runsP p i) := by
  intro i
  induction i with
  | zero =>
    intro _
    refine ⟨rfl, fun b => ?_, fun _ => Int.le_refl _, fun h => by cases h⟩
    show false = _
    by_cases h : 0 ≤ b
    · rw [decide_eq_false (p := b < ((0 : Nat) : Int)) (by omega)]; simp
    · rw [decide_eq_false (p := 0 ≤ b) h]; rfl
  | succ i ih =>
    intro hi
    have h := ih (by omega)
    have step : ∀ b : Int, (decide (0 ≤ b) && decide (b < ((i + 1 : Nat) : Int)) && p b) = ((decide (0 ≤ b) && decide (b < (i : Int)) && p b) || (decide (b = (i : Int)) && p i)) := by
      intro b
      by_cases hb : b = (i : Int)
      · subst hb
        rw [decide_eq_true (by omega : (0 : Int) ≤ (i : Int)), decide_eq_true (by omega : (i : Int) < ((i + 1 : Nat) : Int)), decide_eq_false (p := (i : Int) < (i : Int)) (by omega)]
        simp
      · rw [decide_eq_false (p := b = (i : Int)) hb, Bool.false_and, Bool.or_false]
        congr 2
        rw [decide_eq_decide]
        omega
    rw [runsP_succ]
    rcases hp : p i with _ | _
    · rw [if_neg (by decide)]
      refine ⟨h.val, fun b => by rw [step, hp, Bool.and_false, Bool.or_false]; exact h.mem b, fun _ => ?_, fun hon => by rw [onP_succ, hp] at hon; cases hon⟩
      rcases ho : onP p i with _ | _
      · have := h.off ho; omega
      · obtain ⟨init, e, he, hs⟩ := h.on ho
        rw [he, nxt_append]
        show e.1 + e.2 + 1 ≤ _
        omega
    · rw [if_pos rfl]
      rcases ho : onP p i with _ | _
      · rw [if_neg (by decide)]
        have hn := h.off ho
        refine ⟨?_, fun b => ?_, fun hon => (by rw [onP_succ, hp] at hon; cases hon), fun _ => ⟨_, _, rfl, by show (i : Int) + 1 = _; omega⟩⟩
        · rw [vE_append, h.val, Bool.true_and]
          exact vE_cons.2 ⟨⟨hn, by show (i : Int) ≤ 11; omega⟩, ⟨Int.le_refl _, by show (1 : Int) ≤ 12 - (i : Int); omega⟩, rfl⟩
        · rw [step, inE_append, h.mem, hp, Bool.and_true, inE_one]
          congr 1
          rw [← Bool.decide_and, decide_eq_decide]
          omega
      · rw [if_pos rfl]
        obtain ⟨init, e, he, hs⟩ := h.on ho
        have hv := h.val
        have hm := h.mem
        rw [he] at hv hm
        rw [he, bump_snoc]
        rw [vE_append, Bool.and_eq_true] at hv
        obtain ⟨e1, e2, _⟩ := vE_cons.1 hv.2
        refine ⟨?_, fun b => ?_, fun hon => (by rw [onP_succ, hp] at hon; cases hon), fun _ => ⟨_, _, rfl, by show e.1 + (e.2 + 1) = _; omega⟩⟩
        · rw [vE_append, hv.1, Bool.true_and]
          exact vE_cons.2 ⟨e1, ⟨by show 1 ≤ e.2 + 1; omega, by show e.2 + 1 ≤ 12 - e.1; omega⟩, rfl⟩
        · rw [step, ← hm, hp, Bool.and_true, inE_append, inE_append, Bool.or_assoc]
          congr 1
          rw [inE_one, show inE [e] b = (decide (e.1 ≤ b) && decide (b < e.1 + e.2)) from inE_one _ _ _, ← Bool.decide_and, ← Bool.decide_and, ← Bool.decide_or, decide_eq_decide]
          omega
theorem R_val (p : Int → Bool) : exV (R p) = true := (run_all p 12 (by omega)).val
theorem R_in (p : Int → Bool) (b : Int) : inE (R p) b = (decide (0 ≤ b) && decide (b < 12) && p b) := (run_all p 12 (by omega)).mem b
theorem R_self {es : Exs} (h : exV es = true) : R (inE es) = es := by
  refine ext_eq (R_val _) h fun b => ?_
  rw [R_in]
  rcases he : inE es b with _ | _
  · simp
  · have := vE_in h he
    rw [decide_eq_true (by omega : 0 ≤ b), decide_eq_true (by omega : b < 12)]
    rfl
theorem runsP_congr {p q : Int → Bool} : ∀ n : Nat, (∀ b : Int, 0 ≤ b → b < n → p b = q b) → runsP p n = runsP q n := by
  intro n
  induction n with
  | zero => intro _; rfl
  | succ n ih =>
    intro h
    have e1 := h n (by omega) (by omega)
    have e2 : onP p n = onP q n := by
      unfold onP
      by_cases h0 : 0 < n
      · rw [h ((n : Int) - 1) (by omega) (by omega)]
      · rw [decide_eq_false h0]; rfl
    rw [runsP_succ, runsP_succ, e1, e2, ih fun b h0 h1 => h b h0 (by omega)]
theorem R_congr {p q : Int → Bool} (h : ∀ b : Int, 0 ≤ b → b < 12 → p b = q b) : R p = R q := runsP_congr 12 h

/-! ### the functions -/
def joinE (a b : Exs) : Exs := if exV a && exV b then R (fun i => inE a i || inE b i) else []
def lessE (a b : Exs) : Exs := if exV a && exV b then R (fun i => inE a i && !inE b i) else []
def bothV (a b : Exs) : Bool := exV a && exV b
/-- the blocks that p tells, ascending -/
def blkP (p : Int → Bool) : Nat → List Int
  | 0 => []
  | i + 1 => if p i then blkP p i ++ [(i : Int)] else blkP p i
def blkE (es : Exs) : List Int := if exV es then blkP (inE es) 12 else []
def aB : Int → List Int → Bool
  | _, [] => true
  | l, b :: r => inB b 0 11 && decide (l < b) && aB b r
def okB (bs : List Int) : Bool := aB (-1) bs
def hasB (bs : List Int) (n : Int) : Bool := bs.contains n
def ofB (bs : List Int) : Exs := if okB bs then R (hasB bs) else []

theorem blkP_succ (p : Int → Bool) (i : Nat) : blkP p (i + 1) = if p i then blkP p i ++ [(i : Int)] else blkP p i := rfl
theorem blkP_congr {p q : Int → Bool} : ∀ n : Nat, (∀ b : Int, 0 ≤ b → b < n → p b = q b) → blkP p n = blkP q n := by
  intro n
  induction n with
  | zero => intro _; rfl
  | succ n ih =>
    intro h
    rw [blkP_succ, blkP_succ, h n (by omega) (by omega), ih fun b h0 h1 => h b h0 (by omega)]
theorem blkP_mem (p : Int → Bool) : ∀ (n : Nat) (b : Int), hasB (blkP p n) b = (decide (0 ≤ b) && decide (b < n) && p b) := by
  intro n
  induction n with
  | zero =>
    intro b
    show false = _
    by_cases h : 0 ≤ b
    · rw [decide_eq_false (p := b < ((0 : Nat) : Int)) (by omega)]; simp
    · rw [decide_eq_false (p := 0 ≤ b) h]; rfl
  | succ n ih =>
    intro b
    have hs : hasB (blkP p (n + 1)) b = (hasB (blkP p n) b || (decide (b = (n : Int)) && p n)) := by
      rw [blkP_succ]
      unfold hasB
      rcases hp : p n with _ | _
      · simp
      · rw [if_pos rfl, Bool.eq_iff_iff]
        simp
    rw [hs, ih]
    by_cases hb : b = (n : Int)
    · subst hb
      rw [decide_eq_true (by omega : (0 : Int) ≤ (n : Int)), decide_eq_true (by omega : (n : Int) < ((n + 1 : Nat) : Int)), decide_eq_false (p := (n : Int) < (n : Int)) (by omega)]
      simp
    · rw [decide_eq_false (p := b = (n : Int)) hb, Bool.false_and, Bool.or_false]
      congr 2
      rw [decide_eq_decide]
      omega
theorem aB_cons {l b : Int} {r : List Int} : aB l (b :: r) = true ↔ (0 ≤ b ∧ b ≤ 11) ∧ l < b ∧ aB b r = true := by
  simp only [aB, Bool.and_eq_true, inB_iff, decide_eq_true_eq, and_assoc]
theorem aB_step {xs : List Int} {k : Nat} (h : k < xs.length) (l : Int) : aB l (xs.drop k) = (inB (xs.getD k 0) 0 11 && decide (l < xs.getD k 0) && aB (xs.getD k 0) (xs.drop (k + 1))) := by
  have e : xs.getD k 0 = xs[k] := by simp [List.getD, h]
  rw [e, List.drop_eq_getElem_cons h]
  rfl
theorem aB_all {bs : List Int} : ∀ {l : Int}, aB l bs = true → ∀ x ∈ bs, l < x ∧ 0 ≤ x ∧ x ≤ 11 := by
  induction bs with
  | nil => intro l _ x hx; cases hx
  | cons b r ih =>
    intro l h x hx
    obtain ⟨h1, h2, h3⟩ := aB_cons.1 h
    rcases List.mem_cons.1 hx with rfl | hx
    · omega
    · have := ih h3 x hx
      omega
theorem blk_filter {bs : List Int} : ∀ {l : Int}, aB l bs = true → ∀ n : Nat, bs.filter (fun x => decide (x < ((n + 1 : Nat) : Int))) = bs.filter (fun x => decide (x < (n : Int))) ++ (if hasB bs n then [(n : Int)] else []) := by
  induction bs with
  | nil => intro l _ n; simp [hasB]
  | cons b r ih =>
    intro l h n
    obtain ⟨h1, h2, h3⟩ := aB_cons.1 h
    have hr := aB_all h3
    have ih' := ih h3 n
    rw [List.filter_cons, List.filter_cons]
    by_cases hb : b < (n : Int)
    · rw [if_pos (by simp; omega), if_pos (by simpa using hb), ih']
      have : hasB (b :: r) n = hasB r n := by unfold hasB; rw [List.contains_cons]; simp; omega
      rw [this]
      rfl
    · rw [if_neg (c := decide (b < (n : Int)) = true) (by simpa using hb)]
      have none1 : r.filter (fun x => decide (x < (n : Int))) = [] := List.filter_eq_nil_iff.2 fun x hx => by have := hr x hx; simp; omega
      by_cases he : b = (n : Int)
      · have none2 : r.filter (fun x => decide (x < ((n + 1 : Nat) : Int))) = [] := List.filter_eq_nil_iff.2 fun x hx => by have := hr x hx; simp; omega
        rw [if_pos (by simp; omega), none1, none2]
        have : hasB (b :: r) n = true := by unfold hasB; rw [List.contains_cons]; simp [he]
        rw [this, he]
        rfl
      · rw [if_neg (by simp; omega), ih']
        have : hasB (b :: r) n = hasB r n := by unfold hasB; rw [List.contains_cons]; simp; omega
        rw [this]
theorem blk_of {bs : List Int} (h : okB bs = true) : blkP (hasB bs) 12 = bs := by
  have key : ∀ n : Nat, blkP (hasB bs) n = bs.filter (fun x => decide (x < (n : Int))) := by
    intro n
    induction n with
    | zero =>
      symm
      exact List.filter_eq_nil_iff.2 fun x hx => by have := aB_all h x hx; simp; omega
    | succ n ih =>
      rw [blk_filter h n, ← ih, blkP_succ]
      rcases hasB bs n with _ | _
      · simp
      · simp
  rw [key]
  exact List.filter_eq_self.2 fun x hx => by have := aB_all h x hx; simp; omega
theorem blkP_ok (p : Int → Bool) : okB (blkP p 12) = true := by
  have key : ∀ n : Nat, n ≤ 12 → aB (-1) (blkP p n) = true ∧ ∀ x ∈ blkP p n, x < n := by
    intro n
    induction n with
    | zero => intro _; exact ⟨rfl, fun x hx => by cases hx⟩
    | succ n ih =>
      intro hn
      obtain ⟨h1, h2⟩ := ih (by omega)
      have snoc : ∀ (xs : List Int) (l : Int), aB l xs = true → l < n → (∀ x ∈ xs, x < n) → aB l (xs ++ [(n : Int)]) = true := by
        intro xs
        induction xs with
        | nil => intro l _ hl _; exact aB_cons.2 ⟨by omega, hl, rfl⟩
        | cons y ys ihy =>
          intro l ha hl hall
          obtain ⟨a1, a2, a3⟩ := aB_cons.1 ha
          exact aB_cons.2 ⟨a1, a2, ihy y a3 (hall y (List.mem_cons_self ..)) fun x hx => hall x (List.mem_cons_of_mem _ hx)⟩
      rw [blkP_succ]
      rcases p n with _ | _
      · rw [if_neg (by decide)]
        exact ⟨h1, fun x hx => by have := h2 x hx; omega⟩
      · rw [if_pos rfl]
        refine ⟨snoc _ _ h1 (by omega) h2, fun x hx => ?_⟩
        rcases List.mem_append.1 hx with hx | hx
        · have := h2 x hx; omega
        · simp at hx; omega
  exact (key 12 (by omega)).1

/-! ### what the laws ask -/
theorem of_valid {bs : List Int} (h : okB bs = true) : exV (ofB bs) = true ∧ blkE (ofB bs) = bs := by
  unfold ofB
  rw [if_pos h]
  refine ⟨R_val _, ?_⟩
  unfold blkE
  rw [if_pos (R_val _)]
  refine Eq.trans (blkP_congr 12 fun b h0 h1 => ?_) (blk_of h)
  rw [R_in, decide_eq_true h0, decide_eq_true (by omega : b < 12)]
  rfl
theorem back {es : Exs} (h : exV es = true) : okB (blkE es) = true ∧ ofB (blkE es) = es := by
  have e : blkE es = blkP (inE es) 12 := by unfold blkE; rw [if_pos h]
  have ho : okB (blkE es) = true := by rw [e]; exact blkP_ok _
  refine ⟨ho, ?_⟩
  unfold ofB
  rw [if_pos ho, e]
  refine Eq.trans (R_congr fun b h0 h1 => ?_) (R_self h)
  rw [blkP_mem, decide_eq_true h0, decide_eq_true (by omega : b < ((12 : Nat) : Int))]
  rfl
theorem join_in {a b : Exs} (h : bothV a b = true) (i : Int) : inE (joinE a b) i = (inE a i || inE b i) := by
  have h' : (exV a && exV b) = true := h
  unfold joinE
  rw [if_pos h', R_in]
  rw [Bool.and_eq_true] at h'
  rcases ha : inE a i with _ | _
  · rcases hb : inE b i with _ | _
    · simp
    · have := vE_in h'.2 hb
      rw [decide_eq_true (by omega : 0 ≤ i), decide_eq_true (by omega : i < 12)]; rfl
  · have := vE_in h'.1 ha
    rw [decide_eq_true (by omega : 0 ≤ i), decide_eq_true (by omega : i < 12)]; rfl
theorem less_in {a b : Exs} (h : bothV a b = true) (i : Int) : inE (lessE a b) i = (inE a i && !inE b i) := by
  have h' : (exV a && exV b) = true := h
  unfold lessE
  rw [if_pos h', R_in]
  rw [Bool.and_eq_true] at h'
  rcases ha : inE a i with _ | _
  · simp
  · have := vE_in h'.1 ha
    rw [decide_eq_true (by omega : 0 ≤ i), decide_eq_true (by omega : i < 12)]; rfl
theorem join_val (a b : Exs) : exV (joinE a b) = true := by unfold joinE; split; exact R_val _; rfl
theorem less_val (a b : Exs) : exV (lessE a b) = true := by unfold lessE; split; exact R_val _; rfl
theorem join_comm {a b : Exs} (h : bothV a b = true) : joinE b a = joinE a b ∧ bothV b a = true := by
  have h2 : bothV b a = true := by unfold bothV at h ⊢; rw [Bool.and_comm]; exact h
  refine ⟨ext_eq (join_val _ _) (join_val _ _) fun i => ?_, h2⟩
  rw [join_in h2, join_in h, Bool.or_comm]
theorem less_parts {a b : Exs} (h : bothV a b = true) : bothV a (lessE a b) = true ∧ bothV (lessE a b) (lessE a (lessE a b)) = true ∧ joinE (lessE a b) (lessE a (lessE a b)) = a := by
  have ha : exV a = true := by unfold bothV at h; rw [Bool.and_eq_true] at h; exact h.1
  have h1 : bothV a (lessE a b) = true := by unfold bothV; rw [ha, less_val]; rfl
  have h2 : bothV (lessE a b) (lessE a (lessE a b)) = true := by unfold bothV; rw [less_val, less_val]; rfl
  refine ⟨h1, h2, ext_eq (join_val _ _) ha fun i => ?_⟩
  rw [join_in h2, less_in h1, less_in h]
  cases inE a i <;> cases inE b i <;> rfl
theorem has_blk {es : Exs} (h : exV es = true) (i : Int) : hasB (blkE es) i = inE es i := by
  unfold blkE
  rw [if_pos h, blkP_mem]
  rcases he : inE es i with _ | _
  · simp
  · have := vE_in h he
    rw [decide_eq_true (by omega : 0 ≤ i), decide_eq_true (by omega : i < ((12 : Nat) : Int))]; rfl
theorem runs_few (p q : Int → Bool) : ∀ n : Nat, (runsP (fun i => p i || q i) n).length ≤ (runsP p n).length + (runsP q n).length := by
  intro n
  induction n with
  | zero => exact Nat.le_refl _
  | succ n ih =>
    have ho : onP (fun i => p i || q i) n = (onP p n || onP q n) := by
      unfold onP
      cases decide (0 < n) <;> rfl
    rw [runsP_succ, runsP_succ, runsP_succ, ho]
    have l1 : ∀ (es : Exs) (x : Int × Int), (es ++ [x]).length = es.length + 1 := fun es x => by simp
    rcases p n with _ | _ <;> rcases q n with _ | _ <;> rcases onP p n with _ | _ <;> rcases onP q n with _ | _ <;> simp [bump_length, l1] <;> omega
theorem join_few {a b : Exs} (h : bothV a b = true) : (joinE a b).length ≤ a.length + b.length := by
  have h' : (exV a && exV b) = true := h
  have h2 := h'
  rw [Bool.and_eq_true] at h2
  unfold joinE
  rw [if_pos h']
  have := runs_few (inE a) (inE b) 12
  have e1 : runsP (inE a) 12 = a := R_self h2.1
  have e2 : runsP (inE b) 12 = b := R_self h2.2
  rw [e1, e2] at this
  exact this
theorem part_yesE {es : Exs} (h : exV es = true) (k : Nat) : exV (es.take k ++ es.drop (k + 1)) = true := by
  have hs : vE 0 (es.take k ++ es.drop k) = true := by rw [List.take_append_drop]; exact h
  rw [vE_append, Bool.and_eq_true] at hs
  show vE 0 _ = true
  rw [vE_append, hs.1, Bool.true_and]
  by_cases hk : k < es.length
  · rw [List.drop_eq_getElem_cons hk] at hs
    obtain ⟨h1, h2, h3⟩ := vE_cons.1 hs.2
    exact vE_less h3 (by omega)
  · rw [List.drop_of_length_le (by omega)]
    rfl
theorem part_zeroE {es : Exs} {k : Nat} (hk : k < es.length) (f : Int) : exV (es.set k (f, 0)) = false := by
  rcases hv : exV (es.set k (f, 0)) with _ | _
  · rfl
  · exfalso
    have hs : vE 0 ((es.set k (f, 0)).take k ++ (es.set k (f, 0)).drop k) = true := by rw [List.take_append_drop]; exact hv
    rw [vE_append, Bool.and_eq_true, List.drop_eq_getElem_cons (by rw [List.length_set]; exact hk), List.getElem_set_self] at hs
    have h2 : (1 : Int) ≤ 0 := (vE_cons.1 hs.2).2.1.1
    omega
theorem part_twiceE {es : Exs} {k : Nat} (hk : k < es.length) : exV (es.take (k + 1) ++ es.drop k) = false := by
  rcases hv : exV (es.take (k + 1) ++ es.drop k) with _ | _
  · rfl
  · exfalso
    have hs : vE 0 (es.take (k + 1) ++ es.drop k) = true := hv
    rw [List.take_succ_eq_append_getElem hk, List.drop_eq_getElem_cons hk, List.append_assoc, vE_append, Bool.and_eq_true] at hs
    obtain ⟨h1, h2, h3⟩ := vE_cons.1 hs.2
    have h4 := (vE_cons.1 h3).1.1
    omega

/-! ### the first blocks are numbers of the language -/
def Rg (es : Exs) : Prop := ∀ e ∈ es, e.1 ≤ 9223372036854775807
theorem vE_small {r : Exs} : ∀ {nx : Int}, vE nx r = true → ∀ y ∈ r, y.1 ≤ 11 := by
  induction r with
  | nil => intro nx _ y hy; cases hy
  | cons x r ih =>
    intro nx h y hy
    obtain ⟨h1, h2, h3⟩ := vE_cons.1 h
    rcases List.mem_cons.1 hy with rfl | hy
    · exact h1.2
    · exact ih h3 y hy
theorem Rg.val {es : Exs} (h : exV es = true) : Rg es := fun e he => by have := vE_small h e he; omega
theorem Rg.app {es fs : Exs} (h : Rg es) (h' : Rg fs) : Rg (es ++ fs) := fun e he => by
  rcases List.mem_append.1 he with he | he
  · exact h e he
  · exact h' e he
theorem Rg.take {es : Exs} (h : Rg es) (k : Nat) : Rg (es.take k) := fun e he => h e (List.mem_of_mem_take he)
theorem Rg.drop {es : Exs} (h : Rg es) (k : Nat) : Rg (es.drop k) := fun e he => h e (List.mem_of_mem_drop he)
theorem Rg.set {es : Exs} (h : Rg es) (k : Nat) (x y : Int) (hx : x ≤ 9223372036854775807) : Rg (es.set k (x, y)) := fun e he => by
  rcases List.mem_or_eq_of_mem_set he with he | rfl
  · exact h e he
  · exact hx
theorem Rg.at {es : Exs} (h : Rg es) {k : Nat} {e : Int × Int} (hk : es[k]? = some e) : e.1 ≤ 9223372036854775807 := h e (List.mem_of_getElem? hk)
theorem ofB_val (bs : List Int) : exV (ofB bs) = true := by unfold ofB; split; exact R_val _; rfl
theorem bothV_and {a b : Exs} (h : bothV a b = true) : exV a = true ∧ exV b = true := by unfold bothV at h; rw [Bool.and_eq_true] at h; exact h
end Go.Proofs.Ytiopbgenkalfaaa
