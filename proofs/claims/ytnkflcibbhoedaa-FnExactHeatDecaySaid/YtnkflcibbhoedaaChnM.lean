/-
  Plain mathematics of the program's chains: what joining and cutting do to extents.
-/
import Derived.Test.YtnkflcibbhoedaaExtM
namespace Go.Proofs.Ytnkflcibbhoedaa
open Go.RowKit
set_option linter.unusedVariables false
set_option maxRecDepth 100000

/-- the blocks from f on ahead of e -/
def sg (f e i : Int) : Bool := decide (f ≤ i) && decide (i < e)
def piece (f e : Int) : Exs := if f < e then [(f, e - f)] else []
theorem sg_iff {f e i : Int} : sg f e i = true ↔ f ≤ i ∧ i < e := by simp [sg]
theorem inE_sg (x : Int × Int) (r : Exs) (b : Int) : inE (x :: r) b = (sg x.1 (x.1 + x.2) b || inE r b) := inE_cons x r b
theorem inE_piece (f e b : Int) : inE (piece f e) b = sg f e b := by
  unfold piece
  split
  · rw [inE_sg]
    show (sg f (f + (e - f)) b || false) = _
    rw [show f + (e - f) = e by omega, Bool.or_false]
  · rename_i h
    show false = _
    unfold sg
    by_cases h1 : f ≤ b
    · rw [decide_eq_false (p := b < e) (by omega), Bool.and_false]
    · rw [decide_eq_false h1, Bool.false_and]
theorem vE_split {pre rest : Exs} : vE 0 (pre ++ rest) = true ↔ vE 0 pre = true ∧ vE (nxt 0 pre) rest = true := by rw [vE_append, Bool.and_eq_true]
theorem vE_far {r : Exs} : ∀ {nx : Int}, vE nx r = true → ∀ y ∈ r, nx ≤ y.1 ∧ 1 ≤ y.2 ∧ y.1 + y.2 ≤ 12 := by
  induction r with
  | nil => intro nx _ y hy; cases hy
  | cons x r ih =>
    intro nx h y hy
    obtain ⟨h1, h2, h3⟩ := vE_cons.1 h
    rcases List.mem_cons.1 hy with rfl | hy
    · omega
    · have := ih h3 y hy
      omega
theorem vE_head {r : Exs} {nx ny : Int} (h : vE nx r = true) (hh : ∀ x, r.head? = some x → ny ≤ x.1) : vE ny r = true := by
  rcases r with _ | ⟨x, r⟩
  · rfl
  · obtain ⟨h1, h2, h3⟩ := vE_cons.1 h
    exact vE_cons.2 ⟨⟨hh x rfl, h1.2⟩, h2, h3⟩
theorem exV_ge {es : Exs} (h : exV es = true) {b : Int} (hb : inE es b = true) : 0 ≤ b ∧ b ≤ 11 := vE_in h hb

/-! ### the place -/
/-- the extents ahead of a place end ahead of f; the first one behind it, at f or behind it -/
structure Plc (es pre rest : Exs) (f : Int) : Prop where
  eq : es = pre ++ rest
  low : nxt 0 pre ≤ f
  head : ∀ x, rest.head? = some x → f ≤ x.1 + x.2
theorem Plc.far {es pre rest : Exs} {f : Int} (h : Plc es pre rest f) (hv : exV es = true) : ∀ x ∈ rest, f ≤ x.1 + x.2 := by
  intro y hy
  have hv' : vE 0 es = true := hv
  rw [h.eq] at hv'
  have hr := (vE_split.1 hv').2
  rcases rest with _ | ⟨x, r⟩
  · cases hy
  · have h0 := h.head x rfl
    rcases List.mem_cons.1 hy with rfl | hy
    · exact h0
    · have := vE_far (vE_cons.1 hr).2.2 y hy
      omega

/-! ### joining -/
structure JnI (es : Exs) (f0 e0 : Int) (pre rest : Exs) (f e : Int) : Prop where
  vpre : vE 0 pre = true
  vrest : vE (nxt 0 pre) rest = true
  lo : nxt 0 pre ≤ f
  z : 0 ≤ f
  lt : f < e
  hi : e ≤ 12
  far : ∀ x ∈ rest, f ≤ x.1 + x.2
  mem : ∀ b, (inE pre b || (sg f e b || inE rest b)) = (inE es b || sg f0 e0 b)
theorem nxt_ge (pre : Exs) : ∀ nx : Int, vE nx pre = true → nx ≤ nxt nx pre := by
  induction pre with
  | nil => intro nx _; exact Int.le_refl _
  | cons x r ih =>
    intro nx h
    obtain ⟨h1, h2, h3⟩ := vE_cons.1 h
    have := ih _ h3
    show nx ≤ nxt (x.1 + x.2 + 1) r
    omega
theorem JnI.start {es pre rest : Exs} {f e : Int} (h : Plc es pre rest f) (hv : exV es = true) (h0 : 0 ≤ f) (h1 : f < e) (h2 : e ≤ 12) : JnI es f e pre rest f e := by
  have hv' : vE 0 es = true := hv
  have hfar := h.far hv
  rw [h.eq] at hv'
  obtain ⟨v1, v2⟩ := vE_split.1 hv'
  refine ⟨v1, v2, h.low, h0, h1, h2, hfar, fun b => ?_⟩
  rw [h.eq, inE_append]
  cases inE pre b <;> cases sg f e b <;> cases inE rest b <;> rfl
theorem JnI.step {es pre r : Exs} {f0 e0 f e : Int} {x : Int × Int} (h : JnI es f0 e0 pre (x :: r) f e) (hx : x.1 ≤ e) : JnI es f0 e0 pre r (min f x.1) (max e (x.1 + x.2)) := by
  obtain ⟨h1, h2, h3⟩ := vE_cons.1 h.vrest
  have hf := h.far x (List.mem_cons_self ..)
  have hlo := h.lo
  have hlt := h.lt
  have hhi := h.hi
  have hz := h.z
  have hn := nxt_ge pre 0 h.vpre
  refine ⟨h.vpre, vE_less h3 (by omega), by omega, by omega, by omega, by omega, fun y hy => ?_, fun b => ?_⟩
  · have := h.far y (List.mem_cons_of_mem _ hy)
    omega
  · rw [← h.mem, inE_sg]
    congr 1
    rw [← Bool.or_assoc]
    congr 1
    rw [Bool.eq_iff_iff, Bool.or_eq_true, sg_iff, sg_iff, sg_iff]
    omega
theorem JnI.done {es pre rest : Exs} {f0 e0 f e : Int} (h : JnI es f0 e0 pre rest f e) (hv : exV es = true) (h0 : 0 ≤ f0) (h2 : e0 ≤ 12) (hx : ∀ x, rest.head? = some x → e < x.1) :
    pre ++ (f, e - f) :: rest = R (fun i => inE es i || sg f0 e0 i) := by
  have hlt := h.lt
  have hhi := h.hi
  have hz := h.z
  refine ext_eq (p := 0) (q := 0) (vE_split.2 ⟨h.vpre, vE_cons.2 ⟨⟨h.lo, by show f ≤ 11; omega⟩, ⟨by show 1 ≤ e - f; omega, by show e - f ≤ 12 - f; omega⟩, ?_⟩⟩) (R_val _) fun b => ?_
  · exact vE_head h.vrest fun x hx' => by have := hx x hx'; show f + (e - f) + 1 ≤ x.1; omega
  · rw [R_in, inE_append, inE_sg]
    show (inE pre b || (sg f (f + (e - f)) b || inE rest b)) = _
    rw [show f + (e - f) = e by omega, h.mem]
    rcases hb : (inE es b || sg f0 e0 b) with _ | _
    · rw [Bool.and_false]
    · rw [Bool.or_eq_true, sg_iff] at hb
      have : 0 ≤ b ∧ b < 12 := by
        rcases hb with hb | hb
        · have := exV_ge hv hb
          omega
        · omega
      rw [decide_eq_true this.1, decide_eq_true this.2]
      rfl

/-! ### cutting -/
structure CtI (es : Exs) (f e : Int) (pre rest : Exs) : Prop where
  val : vE 0 (pre ++ rest) = true
  far : ∀ x ∈ rest, f ≤ x.1 + x.2
  off : ∀ b, inE pre b = true → sg f e b = false
  mem : ∀ b, ((inE pre b || inE rest b) && !sg f e b) = (inE es b && !sg f e b)
theorem CtI.start {es pre rest : Exs} {f e : Int} (h : Plc es pre rest f) (hv : exV es = true) : CtI es f e pre rest := by
  have hv' : vE 0 es = true := hv
  have hfar := h.far hv
  rw [h.eq] at hv'
  obtain ⟨v1, v2⟩ := vE_split.1 hv'
  refine ⟨hv', hfar, fun b hb => ?_, fun b => by rw [h.eq, inE_append]⟩
  rcases hs : sg f e b with _ | _
  · rfl
  · exfalso
    rw [sg_iff] at hs
    have hlow := h.low
    -- the blocks ahead lie below nxt
    have key : ∀ (p : Exs) (nx : Int), vE nx p = true → inE p b = true → b + 1 < nxt nx p := by
      intro p
      induction p with
      | nil => intro nx _ h'; cases h'
      | cons x r ih =>
        intro nx hv h'
        obtain ⟨a1, a2, a3⟩ := vE_cons.1 hv
        rw [inE_sg, Bool.or_eq_true, sg_iff] at h'
        show b + 1 < nxt (x.1 + x.2 + 1) r
        rcases h' with h' | h'
        · have := nxt_ge r _ a3
          omega
        · exact ih _ a3 h'
    have := key pre 0 v1 hb
    omega
theorem CtI.step {es pre r : Exs} {f e : Int} {x : Int × Int} (h : CtI es f e pre (x :: r)) (hfe : f < e) (hx : x.1 < e) : CtI es f e ((pre ++ piece x.1 f) ++ piece e (x.1 + x.2)) r := by
  obtain ⟨v1, v2⟩ := vE_split.1 h.val
  obtain ⟨h1, h2, h3⟩ := vE_cons.1 v2
  have hf := h.far x (List.mem_cons_self ..)
  refine ⟨?_, fun y hy => h.far y (List.mem_cons_of_mem _ hy), fun b hb => ?_, fun b => ?_⟩
  · rw [List.append_assoc, List.append_assoc]
    refine vE_split.2 ⟨v1, ?_⟩
    unfold piece
    by_cases c1 : x.1 < f
    · rw [if_pos c1]
      by_cases c2 : e < x.1 + x.2
      · rw [if_pos c2]
        exact vE_cons.2 ⟨h1, ⟨by show 1 ≤ f - x.1; omega, by show f - x.1 ≤ 12 - x.1; omega⟩, vE_cons.2 ⟨⟨by show x.1 + (f - x.1) + 1 ≤ e; omega, by show e ≤ 11; omega⟩, ⟨by show 1 ≤ x.1 + x.2 - e; omega, by show x.1 + x.2 - e ≤ 12 - e; omega⟩,
          vE_less h3 (by show e + (x.1 + x.2 - e) + 1 ≤ x.1 + x.2 + 1; omega)⟩⟩
      · rw [if_neg c2]
        exact vE_cons.2 ⟨h1, ⟨by show 1 ≤ f - x.1; omega, by show f - x.1 ≤ 12 - x.1; omega⟩, vE_less h3 (by show x.1 + (f - x.1) + 1 ≤ x.1 + x.2 + 1; omega)⟩
    · rw [if_neg c1]
      by_cases c2 : e < x.1 + x.2
      · rw [if_pos c2]
        exact vE_cons.2 ⟨⟨by show nxt 0 pre ≤ e; omega, by show e ≤ 11; omega⟩, ⟨by show 1 ≤ x.1 + x.2 - e; omega, by show x.1 + x.2 - e ≤ 12 - e; omega⟩, vE_less h3 (by show e + (x.1 + x.2 - e) + 1 ≤ x.1 + x.2 + 1; omega)⟩
      · rw [if_neg c2]
        exact vE_less h3 (by omega)
  · rw [inE_append, inE_append, inE_piece, inE_piece, Bool.or_eq_true, Bool.or_eq_true, sg_iff, sg_iff] at hb
    rcases hb with (hb | hb) | hb
    · exact h.off b hb
    · rw [Bool.eq_false_iff, Ne, sg_iff]; omega
    · rw [Bool.eq_false_iff, Ne, sg_iff]; omega
  · rw [← h.mem, inE_append, inE_append, inE_piece, inE_piece, inE_sg]
    rcases hs : sg f e b with _ | _
    · rw [Bool.not_false, Bool.and_true, Bool.and_true, Bool.or_assoc, Bool.or_assoc]
      congr 1
      rw [← Bool.or_assoc]
      congr 1
      rw [Bool.eq_false_iff, Ne, sg_iff] at hs
      rw [Bool.eq_iff_iff, Bool.or_eq_true, sg_iff, sg_iff, sg_iff]
      omega
    · simp
theorem CtI.done {es pre rest : Exs} {f e : Int} (h : CtI es f e pre rest) (hv : exV es = true) (hx : ∀ x, rest.head? = some x → e ≤ x.1) : pre ++ rest = R (fun i => inE es i && !sg f e i) := by
  refine ext_eq (p := 0) (q := 0) h.val (R_val _) fun b => ?_
  rw [R_in, inE_append]
  have hoff : (inE pre b || inE rest b) = true → sg f e b = false := by
    intro hb
    rw [Bool.or_eq_true] at hb
    rcases hb with hb | hb
    · exact h.off b hb
    · have hr := vE_head (vE_split.1 h.val).2 hx
      have := vE_in hr hb
      rw [Bool.eq_false_iff, Ne, sg_iff]
      omega
  have hm := h.mem b
  rcases hb : (inE pre b || inE rest b) with _ | _
  · rw [hb, Bool.false_and] at hm
    rw [← hm, Bool.and_false]
  · rw [hb, hoff hb, Bool.not_false, Bool.true_and, Bool.and_true] at hm
    rw [hoff hb, ← hm]
    have := exV_ge hv hm.symm
    rw [decide_eq_true this.1, decide_eq_true (by omega : b < 12)]
    rfl

/-! ### all of a list, one by one -/
theorem join_zero {es : Exs} (h : exV es = true) (q : Int → Bool) (hq : ∀ i, q i = false) : R (fun i => inE es i || q i) = es := by
  refine Eq.trans (R_congr fun b _ _ => ?_) (R_self h)
  rw [hq, Bool.or_false]
theorem cut_zero {es : Exs} (h : exV es = true) (q : Int → Bool) (hq : ∀ i, q i = false) : R (fun i => inE es i && !q i) = es := by
  refine Eq.trans (R_congr fun b _ _ => ?_) (R_self h)
  rw [hq, Bool.not_false, Bool.and_true]
theorem take_in {xs : Exs} {k : Nat} {x : Int × Int} (hk : xs[k]? = some x) (b : Int) : inE (xs.take (k + 1)) b = (inE (xs.take k) b || sg x.1 (x.1 + x.2) b) := by
  rw [List.take_add_one, hk, inE_append]
  congr 1
  show inE [x] b = _
  rw [inE_sg]
  exact Bool.or_false _
theorem join_take {es xs : Exs} {k : Nat} {x : Int × Int} (hk : xs[k]? = some x) : R (fun i => inE (R (fun i => inE es i || inE (xs.take k) i)) i || sg x.1 (x.1 + x.2) i) = R (fun i => inE es i || inE (xs.take (k + 1)) i) :=
  R_congr fun b h0 h1 => by rw [R_in, decide_eq_true h0, decide_eq_true h1, take_in hk, Bool.true_and, Bool.true_and, Bool.or_assoc]
theorem cut_take {es xs : Exs} {k : Nat} {x : Int × Int} (hk : xs[k]? = some x) : R (fun i => inE (R (fun i => inE es i && !inE (xs.take k) i)) i && !sg x.1 (x.1 + x.2) i) = R (fun i => inE es i && !inE (xs.take (k + 1)) i) :=
  R_congr fun b h0 h1 => by rw [R_in, decide_eq_true h0, decide_eq_true h1, take_in hk, Bool.true_and, Bool.true_and, Bool.not_or, Bool.and_assoc]
theorem R_none : R (fun i => inE [] i || inE (List.take 0 ([] : Exs)) i) = [] := by decide
theorem of_take {bs : List Int} {k : Nat} {x : Int} (hk : bs[k]? = some x) : R (fun i => inE (R (hasB (bs.take k))) i || sg x (x + 1) i) = R (hasB (bs.take (k + 1))) :=
  R_congr fun b h0 h1 => by
    rw [R_in, decide_eq_true h0, decide_eq_true h1, Bool.true_and, Bool.true_and, List.take_add_one, hk]
    unfold hasB
    rw [Bool.eq_iff_iff, Bool.or_eq_true, sg_iff]
    simp
    exact or_congr Iff.rfl (by omega)
theorem vE_len {r : Exs} : ∀ {nx : Int}, 0 ≤ nx → vE nx r = true → (r.length : Int) ≤ 12 - nx ∨ r = [] := by
  induction r with
  | nil => intro nx _ _; exact .inr rfl
  | cons x r ih =>
    intro nx h0 h
    obtain ⟨h1, h2, h3⟩ := vE_cons.1 h
    rcases ih (by omega) h3 with h4 | h4
    · left; rw [List.length_cons]; omega
    · left; subst h4; simp; omega
theorem exV_len {es : Exs} (h : exV es = true) : es.length ≤ 12 := by
  rcases vE_len (Int.le_refl 0) h with h1 | h1
  · omega
  · subst h1; simp

/-! ### the blocks, one by one -/
def seqI (a : Int) : Nat → List Int
  | 0 => []
  | n + 1 => a :: seqI (a + 1) n
theorem seqI_snoc : ∀ (n : Nat) (a : Int), seqI a (n + 1) = seqI a n ++ [a + n]
  | 0, a => by show [a] = [a + ((0 : Nat) : Int)]; rw [show a + ((0 : Nat) : Int) = a by omega]
  | n + 1, a => by
    show a :: seqI (a + 1) (n + 1) = a :: seqI (a + 1) n ++ [a + ((n + 1 : Nat) : Int)]
    rw [seqI_snoc n (a + 1), show a + 1 + (n : Int) = a + ((n + 1 : Nat) : Int) by omega]
    rfl
theorem seqI_length : ∀ (n : Nat) (a : Int), (seqI a n).length = n
  | 0, _ => rfl
  | n + 1, a => by show (seqI (a + 1) n).length + 1 = _; rw [seqI_length n]
def cat : Exs → List Int
  | [] => []
  | e :: r => seqI e.1 e.2.toNat ++ cat r
theorem cat_append (a b : Exs) : cat (a ++ b) = cat a ++ cat b := by
  induction a with
  | nil => rfl
  | cons e r ih => show _ ++ cat (r ++ b) = _; rw [ih, ← List.append_assoc]; rfl
theorem cat_take {es : Exs} {k : Nat} {e : Int × Int} (hk : es[k]? = some e) : cat (es.take (k + 1)) = cat (es.take k) ++ seqI e.1 e.2.toNat := by
  rw [List.take_add_one, hk, cat_append]
  congr 1
  exact List.append_nil _
theorem hasB_append (a b : List Int) (i : Int) : hasB (a ++ b) i = (hasB a i || hasB b i) := by
  unfold hasB
  rw [List.contains_eq_any_beq, List.contains_eq_any_beq, List.contains_eq_any_beq, List.any_append]
theorem hasB_seq : ∀ (n : Nat) (a i : Int), hasB (seqI a n) i = sg a (a + n) i
  | 0, a, i => by
    rw [Bool.eq_iff_iff, sg_iff]
    constructor
    · intro h; cases h
    · intro h; omega
  | n + 1, a, i => by
    rw [show seqI a (n + 1) = [a] ++ seqI (a + 1) n from rfl, hasB_append, hasB_seq n, Bool.eq_iff_iff, Bool.or_eq_true, sg_iff, sg_iff]
    have : hasB [a] i = true ↔ i = a := by unfold hasB; simp
    rw [this]
    omega
theorem aB_seq : ∀ (n : Nat) (a l : Int) (rest : List Int), l < a → 0 ≤ a → a + n ≤ 12 → (∀ l', l' < a + n → aB l' rest = true) → aB l (seqI a n ++ rest) = true
  | 0, a, l, rest, h0, _, _, hr => hr l (by omega)
  | n + 1, a, l, rest, h0, h1, h2, hr => by
    show aB l (a :: (seqI (a + 1) n ++ rest)) = true
    exact aB_cons.2 ⟨by omega, h0, aB_seq n (a + 1) a rest (by omega) (by omega) (by omega) fun l' hl => hr l' (by omega)⟩
theorem aB_cat {es : Exs} : ∀ {nx : Int}, 0 ≤ nx → vE nx es = true → ∀ l, l < nx → aB l (cat es) = true := by
  induction es with
  | nil => intro nx _ _ l _; rfl
  | cons e r ih =>
    intro nx h0 hv l hl
    obtain ⟨h1, h2, h3⟩ := vE_cons.1 hv
    refine aB_seq e.2.toNat e.1 l (cat r) (by omega) (by omega) (by omega) fun l' hl' => ih (by omega) h3 l' (by omega)
theorem has_cat {es : Exs} : ∀ {nx : Int}, vE nx es = true → ∀ i, hasB (cat es) i = inE es i := by
  induction es with
  | nil => intro nx _ i; rfl
  | cons e r ih =>
    intro nx hv i
    obtain ⟨h1, h2, h3⟩ := vE_cons.1 hv
    rw [show cat (e :: r) = seqI e.1 e.2.toNat ++ cat r from rfl, hasB_append, hasB_seq, ih h3, inE_sg, show ((e.2.toNat : Nat) : Int) = e.2 by omega]
theorem cat_blk {es : Exs} (h : exV es = true) : cat es = blkE es := by
  have hv : vE 0 es = true := h
  unfold blkE
  rw [if_pos h, ← blk_of (aB_cat (Int.le_refl 0) hv (-1) (by omega))]
  exact blkP_congr 12 fun b _ _ => has_cat hv b
theorem aB_len {bs : List Int} : ∀ {l : Int}, -1 ≤ l → aB l bs = true → (bs.length : Int) ≤ 11 - l ∨ bs = [] := by
  induction bs with
  | nil => intro l _ _; exact .inr rfl
  | cons b r ih =>
    intro l h0 h
    obtain ⟨h1, h2, h3⟩ := aB_cons.1 h
    rcases ih (by omega) h3 with h4 | h4
    · left; rw [List.length_cons]; omega
    · left; subst h4; simp; omega
theorem okB_len {bs : List Int} (h : okB bs = true) : bs.length ≤ 12 := by
  rcases aB_len (Int.le_refl (-1)) h with h1 | h1
  · omega
  · subst h1; simp
theorem cat_len {es : Exs} (h : exV es = true) : (cat es).length ≤ 12 := okB_len (aB_cat (Int.le_refl 0) (show vE 0 es = true from h) (-1) (by omega))
end Go.Proofs.Ytnkflcibbhoedaa
