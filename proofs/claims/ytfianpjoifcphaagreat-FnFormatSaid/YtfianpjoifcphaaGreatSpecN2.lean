/-
  The model's l12Put: a frame goes behind all that do not have a greater number.
-/
import Derived.Test.YtfianpjoifcphaaGreatG5
import Derived.Deep.RegionLaw
namespace Go.Proofs.YtfianpjoifcphaaGreat
open Go.RowKit
set_option linter.unusedVariables false
set_option maxRecDepth 100000

/-- the first frames of a row, appended to a new one -/
theorem NewF.take {w U : World} {base n c k : Nat} {A G : Option Addr} {qs : List Fq} (h : OwnF w base A n c qs) (hU : Below w.heap.size w U) (hk : k ≤ n) (hG : OwnF U base G 0 0 []) : NewF U base 0 G 0 [] A k (qs.take k) := by
  have hf := (h.fnds.firsts hk).below hU (Nat.le_refl _)
  have at_ : ∀ {j : Nat} {q : Fq}, (qs.take k)[j]? = some q → qs[j]? = some q := by
    intro j q hj
    have hl := (List.getElem?_eq_some_iff.1 hj).1
    rw [List.length_take] at hl
    rwa [List.getElem?_take_of_lt (by omega)] at hj
  refine ⟨hG, by rw [List.length_take, h.len]; omega, fun hm => ?_, fun j q hj => (h.below hU).own j q (at_ hj), fun i j q r hi hj hij => h.sep i j q r (at_ hi) (at_ hj) hij, fun i j r q hi => by simp at hi⟩
  obtain ⟨ad, e, _, hc⟩ := hf.2.1 hm
  exact ⟨ad, e, hc⟩
/-- the other frames, behind the first ones and a new one -/
theorem NewF.rest {w U : World} {base n c k c5 : Nat} {A A5 : Option Addr} {qs : List Fq} {x : Fq} (h : OwnF w base A n c qs) (hU : Below w.heap.size w U) (hk : k ≤ n) (h5 : OwnF U base A5 (k + 1) c5 (qs.take k ++ [x]))
    (hs : ∀ (k : Nat) (r : Fq), qs[k]? = some r → ∀ g, r.sl.ownBlock = some g → x.sl.ownBlock ≠ some g) :
    NewF U base (k + 1) A5 c5 (qs.take k ++ [x]) (if c = k then A else A.map (·.add (k * 5))) (n - k) (qs.drop k) := by
  have hf := ((h.fnds.cut (k := k) (m := n) (cap := c) hk (Nat.le_refl _) h.cap.1)).below hU (Nat.le_refl _)
  rw [List.take_of_length_le (by rw [h.len]; exact Nat.le_refl _)] at hf
  have at_ : ∀ {j : Nat} {q : Fq}, (qs.drop k)[j]? = some q → qs[k + j]? = some q := by
    intro j q hj
    rwa [List.getElem?_drop] at hj
  refine ⟨h5, by rw [List.length_drop, h.len], fun hm => ?_, fun j q hj => (h.below hU).own _ q (at_ hj), fun i j q r hi hj hij => h.sep _ _ q r (at_ hi) (at_ hj) (by omega), fun i j r q hi hj => ?_⟩
  · obtain ⟨ad, e, _, hc⟩ := hf.2.1 hm
    exact ⟨ad, e, hc⟩
  · rcases Nat.lt_or_ge i (qs.take k).length with hl | hl
    · rw [List.getElem?_append_left hl] at hi
      rw [List.length_take, h.len] at hl
      rw [List.getElem?_take_of_lt (by omega)] at hi
      exact h.sep _ _ r q hi (at_ hj) (by omega)
    · rw [List.getElem?_append_right hl] at hi
      rcases hi2 : i - (qs.take k).length with _ | v
      · rw [hi2] at hi
        simp at hi
        subst hi
        intro g hg e
        exact hs _ q (at_ hj) g e hg
      · rw [hi2] at hi
        simp at hi

theorem size_le_alloc (w : World) (o : Obj) : w.heap.size ≤ (w.alloc o).heap.size := by simp
theorem size_allocF (w : World) (o : Obj) : (w.alloc o).heap.size = w.heap.size + 1 := by simp
/-- behind an append: what is below, and where the row lies now -/
theorem below_app_put {B n c n2 c2 : Nat} {a w w' : World} {A A2 : Option Addr} (h : Below B a w) (hB : B ≤ w.heap.size) (hr : ∀ g, (Value.slice A n c).ownBlock = some g → B ≤ g) (hg : w.grownBy w' (Value.slice A n c).ownBlock)
    (hat : (Value.slice A2 n2 c2).ownBlock = (Value.slice A n c).ownBlock ∨ (Value.slice A2 n2 c2).ownBlock = some w.heap.size) : Below B a w' ∧ ∀ g, (Value.slice A2 n2 c2).ownBlock = some g → B ≤ g := by
  refine ⟨h.grown hg hB hr, fun g e => ?_⟩
  rcases hat with h2 | h2
  · exact hr g (h2 ▸ e)
  · rw [e] at h2
    injection h2 with h2
    omega
/-- what l12Put knows of the frame x and of the list, whatever world it is in -/
structure PutIn (w W : World) (base : Nat) (A : Option Addr) (n c : Nat) (qs : List Fq) (x : Fq) : Prop where
  own : OwnF w base A n c qs
  hb : base ≤ w.heap.size
  hx : Own w base x.addr x.vals.length x.cap x.vals
  sep : ∀ (k : Nat) (r : Fq), qs[k]? = some r → ∀ g, r.sl.ownBlock = some g → x.sl.ownBlock ≠ some g
  below : Below w.heap.size w W
  size : W.heap.size = w.heap.size + 1
  box : ∀ j u, x.cells[j]? = some u → W.cell? ⟨w.heap.size, j, none⟩ = some u
/-- the same behind the first append, in world U, into block g: the world is W3 -/
structure PutMid (w W3 : World) (base : Nat) (A2 : Option Addr) (k c2 : Nat) (qs : List Fq) (x : Fq) : Prop where
  own : OwnF W3 base A2 k c2 (qs.take k)
  hx : Own W3 base x.addr x.vals.length x.cap x.vals
  sep : ∀ (j : Nat) (r : Fq), (qs.take k)[j]? = some r → ∀ g, r.sl.ownBlock = some g → x.sl.ownBlock ≠ some g
  below : Below w.heap.size w W3
  row : ∀ g, (Value.slice A2 k c2).ownBlock = some g → w.heap.size ≤ g
section
variable {w W : World} {base n c k : Nat} {A : Option Addr} {qs : List Fq} {x : Fq}
theorem PutIn.lit (h : PutIn w W base A n c qs x) (hk : k ≤ n) : NewF (W.alloc (.cells #[] 156)) base 0 (some ⟨w.heap.size + 1, 0, none⟩) 0 [] A k (qs.take k) := by
  have hs := h.size
  refine NewF.take h.own (h.below.alloc (by omega) _) hk ?_
  rw [← hs]
  exact OwnF.lit0 W base (by have := h.hb; omega)
theorem PutIn.lit2 (h : PutIn w W base A n c qs x) (hk : k ≤ n) (o : Obj) : NewF ((W.alloc (.cells #[] 156)).alloc o) base 0 (some ⟨w.heap.size + 1, 0, none⟩) 0 [] A k (qs.take k) := by
  have hs := h.size
  refine NewF.take h.own ((h.below.alloc (by omega) _).alloc (by simp; omega) _) hk ?_
  rw [← hs]
  exact (OwnF.lit0 W base (by have := h.hb; omega)).alloc o
theorem PutIn.lit3 (h : PutIn w W base A n c qs x) (hk : k ≤ n) (o : Obj) : NewF ((W.alloc o).alloc (.cells #[] 156)) base 0 (some ⟨w.heap.size + 2, 0, none⟩) 0 [] A k (qs.take k) := by
  have hs := h.size
  have hs2 : (W.alloc o).heap.size = w.heap.size + 2 := by simp; omega
  refine NewF.take h.own ((h.below.alloc (by omega) o).alloc (by simp; omega) _) hk ?_
  rw [← hs2]
  exact OwnF.lit0 (W.alloc o) base (by have := h.hb; omega)
theorem PutIn.mid {U w3 : World} {A2 : Option Addr} {c2 g : Nat} (h : PutIn w W base A n c qs x) (hk : k ≤ n) (hU : Below W.heap.size W U) (hg : w.heap.size < g) (ho : OwnF w3 base A2 k c2 (qs.take k)) (hgr : U.grownBy w3 (some g)) (hat : (Value.slice A2 k c2).ownBlock = some g ∨ (Value.slice A2 k c2).ownBlock = some U.heap.size) : PutMid w w3 base A2 k c2 qs x := by
  have hs := h.size
  have hwU := h.below.trans (hU.mono (by omega))
  refine ⟨ho, (h.hx.below hwU).kept hgr (fun q e e2 => ?_), fun j r hj => ?_, hwU.grown hgr hwU.size (fun q e => ?_), fun q e => ?_⟩
  · injection e with e
    subst e
    have := (h.hx.block _ e2).2
    omega
  · have hl := (List.getElem?_eq_some_iff.1 hj).1
    rw [List.length_take] at hl
    rw [List.getElem?_take_of_lt (by omega)] at hj
    exact h.sep j r hj
  · injection e with e
    omega
  · have := hwU.size
    rcases hat with h2 | h2
    · rw [h2] at e; injection e with e; omega
    · rw [h2] at e; injection e with e; omega
/-- a block that is not the row's, behind the append -/
theorem PutIn.cell {U w3 : World} {g b : Nat} (hgr : U.grownBy w3 (some g)) (hb : b ≠ g) {j : Nat} {u : Value} (hc : U.cell? ⟨b, j, none⟩ = some u) : w3.cell? ⟨b, j, none⟩ = some u :=
  cell_gr hc hgr (fun q e => by injection e with e; subst e; exact hb)
theorem below_two (W : World) (o o' : Obj) : Below W.heap.size W ((W.alloc o).alloc o') := ((Below.refl _ _).alloc (Nat.le_refl _) o).alloc (by simp) o'
theorem PutIn.x2 (h : PutIn w W base A n c qs x) (o : Obj) : ∀ j u, x.cells[j]? = some u → ((W.alloc o).alloc (.cells #[.int .i64 x.zone, .int .i64 x.word, .int .i64 x.kind, .int .i64 x.seq, x.sl] 156)).cell? ⟨w.heap.size + 2, j, none⟩ = some u := by
  intro j u hu
  have hs := h.size
  have hs2 : (W.alloc o).heap.size = w.heap.size + 2 := by simp; omega
  have := fnd_cells (W.alloc o) x j u hu
  rwa [add_plain', hs2] at this
theorem PutIn.x3 (h : PutIn w W base A n c qs x) (o : Obj) : ∀ j u, x.cells[j]? = some u → ((W.alloc (.cells #[.int .i64 x.zone, .int .i64 x.word, .int .i64 x.kind, .int .i64 x.seq, x.sl] 156)).alloc o).cell? ⟨w.heap.size + 1, j, none⟩ = some u := by
  intro j u hu
  have := fnd_cells W x j u hu
  rw [add_plain', h.size] at this
  exact cell_alloc' this
theorem PutMid.one {W3 : World} {A2 : Option Addr} {c2 : Nat} (h : PutMid w W3 base A2 k c2 qs x) {g2 : Nat} (hc : ∀ j u, x.cells[j]? = some u → W3.cell? ⟨g2, j, none⟩ = some u) : NewF W3 base k A2 c2 (qs.take k) (some ⟨g2, 0, none⟩) 1 [x] :=
  NewF.one h.own (fun j u hu => by rw [add_plain']; simpa using hc j u hu) h.hx h.sep
theorem PutMid.one' {W3 : World} {A2 : Option Addr} {c2 : Nat} (h : PutMid w W3 base A2 k c2 qs x) : NewF (W3.alloc (.cells #[.int .i64 x.zone, .int .i64 x.word, .int .i64 x.kind, .int .i64 x.seq, x.sl] 156)) base k A2 c2 (qs.take k) (some ⟨W3.heap.size, 0, none⟩) 1 [x] :=
  NewF.one (h.own.alloc _) (fnd_cells W3 x) (h.hx.alloc _) h.sep
end

set_option maxHeartbeats 6400000 in
theorem specPutF (base : Nat) (A X : Option Addr) (n c l d : Nat) (z a x0 x1 : Int) (body : List Int) (qs : List Fq) (w : World) (hr : OwnF w base A n c qs) (hb : base ≤ w.heap.size) (hn : n ≤ 100000000) (hbl : body.length = l) (hx : Own w base X l d body)
    (hsep : ∀ (k : Nat) (r : Fq), qs[k]? = some r → ∀ g, r.sl.ownBlock = some g → (Fq.mk z a x0 x1 body X d).sl.ownBlock ≠ some g) :
    Calls Tryz.prog 174 #[.slice A n c, .agg #[.int .i64 z, .int .i64 a, .int .i64 x0, .int .i64 x1, .slice X l d]] w fun e w' => ∃ A2 c2 rs, e = .returned (.slice A2 (n + 1) c2) ∧ OwnF w' base A2 (n + 1) c2 rs ∧
      fns rs = insF (fns qs) (z, a, x0, x1, body) ∧ (∀ r ∈ rs, r = ⟨z, a, x0, x1, body, X, d⟩ ∨ r ∈ qs) ∧ Below w.heap.size w w' := by
  subst hbl
  have HR := hide hr
  have HX := hide hx
  have HS := hide hsep
  have HQ := hide (hr.fnds.more (Nat.le_refl _))
  clear hr hx hsep
  go_enter Tryz.func174, Tryz.ntmps174
  go_wp2
  have HB0 := hide (Blk.new w 156 #[.int .i64 z, .int .i64 a, .int .i64 x0, .int .i64 x1, .slice X body.length d])
  go_loopw [5] (fun i wr => ∃ (k q : Nat), k ≤ n ∧ i = .int .i64 k ∧ wr = (w.alloc (.cells #[.int .i64 z, .int .i64 a, .int .i64 x0, .int .i64 x1, .slice X body.length d] 156)).drewN q ∧ Hid (placeF (fns qs) (z, a, x0, x1, body) n = placeF (fns qs) (z, a, x0, x1, body) k)) (fun i _ => (intOf i).toNat)
  case atStart => exact ⟨n, 0, Nat.le_refl _, rfl, rfl, rfl⟩
  case round =>
    obtain ⟨k, q, hk, rfl, rfl, HP⟩ := hrel
    have hx3 := HB0.out.cell 3
    simp only [List.getElem?_toArray, List.getElem?_cons_succ, List.getElem?_cons_zero] at hx3
    have HZ : Hid ((w.alloc (.cells #[.int .i64 z, .int .i64 a, .int .i64 x0, .int .i64 x1, .slice X body.length d] 156)).cell? ⟨w.heap.size, 3, none⟩ = some (.int .i64 x1)) := hx3
    clear hx3
    by_cases hk0 : 0 < k
    case' pos =>
      obtain ⟨k', hk'⟩ : ∃ k', k = k' + 1 := ⟨k - 1, by omega⟩
      obtain ⟨r, hr⟩ : ∃ r, qs[k']? = some r := ⟨_, List.getElem?_eq_getElem (by rw [HR.out.len]; omega)⟩
      have HPL : Hid (placeF (fns qs) (z, a, x0, x1, body) k = if x1 < r.seq then placeF (fns qs) (z, a, x0, x1, body) k' else k) := by
        show _ = _
        rw [hk', placeF]
        simp only [List.getD, fns_get hr]
        rfl
      obtain ⟨ad, p, rfl, hp, hpb, hc0, hc1, hc2, hc3, hc4⟩ := (HQ.out.alloc (Nat.le_refl _) (.cells #[.int .i64 z, .int .i64 a, .int .i64 x0, .int .i64 x1, .slice X body.length d] 156)).at_ hr
      clear hc0 hc1 hc2 hc4 hr
      generalize r.seq = y at *
      have hz3 := HZ.out
      have k0 : (0 : Int) < (k : Int) := by omega
      have k1 : (k' : Int) < (n : Int) := by omega
      have kw : IntKind.i64.wrap ((k : Int) - 1) = (k' : Int) := IntWalk.i64_in _ (by omega) |>.trans (by omega)
      have kz : (0 : Int) ≤ (k' : Int) := by omega
      have HK' := hide hk'
      clear hk'
      go_wp2
      go_quiet (fail)
      go_wp2
      · have h9 : x1 < y := by assumption
        exact ⟨⟨k', q + nq, by omega, rfl, rfl, by show _ = _; rw [HP.out, HPL.out, if_pos h9]⟩, by have := HK'.out; simp [intOf]; omega⟩
      have h9 : y ≤ x1 := by assumption
      have HPP : Hid (placeF (fns qs) (z, a, x0, x1, body) n = k) := HP.out.trans (by rw [HPL.out, if_neg (by omega)])
      clear hc3 h9 kw kz k1 hp hpb HK' HPL
      generalize some ad = A at *
    case' neg =>
      have HPP : Hid (placeF (fns qs) (z, a, x0, x1, body) n = k) := HP.out.trans (by rw [show k = 0 by omega]; rfl)
      have k0 : ¬ (0 : Int) < (k : Int) := by omega
      have hz3 := HZ.out
      go_wp2
      go_quiet (fail)
      go_wp2
    all_goals
      have HPI : Hid (∀ i, PutIn w ((w.alloc (.cells #[.int .i64 z, .int .i64 a, .int .i64 x0, .int .i64 x1, .slice X body.length d] 156)).drewN i) base A n c qs ⟨z, a, x0, x1, body, X, d⟩) := fun i => ⟨HR.out, hb, HX.out, HS.out, (below_new w _).trans ⟨rfl, rfl, rfl, Nat.le_refl _, fun _ _ => rfl⟩, by show ((w.alloc (.cells #[.int .i64 z, .int .i64 a, .int .i64 x0, .int .i64 x1, .slice X body.length d] 156))).heap.size = _; simp, fun j u hu => (HB0.out.cell j).trans (by simpa [Fq.cells, Fq.sl] using hu)⟩
      have d0 := (HPI.out 0).box 0 _ rfl
      have d1 := (HPI.out 0).box 1 _ rfl
      have d2 := (HPI.out 0).box 2 _ rfl
      have d3 := (HPI.out 0).box 3 _ rfl
      have d4 := (HPI.out 0).box 4 _ rfl
      have hbz : ∀ i (o : Obj), base ≤ (((w.alloc (.cells #[.int .i64 z, .int .i64 a, .int .i64 x0, .int .i64 x1, .slice X body.length d] 156)).drewN i).alloc o).heap.size := fun i o => by
        have := (HPI.out i).size
        simp only [size_allocF]
        omega
      have hby : ∀ i (o o' : Obj), base ≤ ((((w.alloc (.cells #[.int .i64 z, .int .i64 a, .int .i64 x0, .int .i64 x1, .slice X body.length d] 156)).drewN i).alloc o).alloc o').heap.size := fun i o o' => by
        have := (HPI.out i).size
        simp only [size_allocF]
        omega
      have hk9 : 0 + k ≤ 100000000000 := by omega
      have hk1 : k + 1 ≤ 100000000000 := by omega
      have hk2 : k + 1 + (n - k) ≤ 100000000000 := by omega
      have HNN : Hid (k + 1 + (n - k) = n + 1) := by show _ = _; omega
      have hkc : (k : Int) ≤ (c : Int) := by have := HR.out.cap.1; omega
      have hkn : (k : Int) ≤ (n : Int) := by omega
      have hkz : (0 : Int) ≤ (k : Int) := by omega
      clear HB0 HZ hz3 HP HQ
      go_region_law (first
        | (refine step_append_fnds ?_ (.tmp 25) (.tmp 28) ?_ base 0 0 k c (some ⟨w.heap.size + 1, 0, none⟩) A [] (qs.take k) ?_ ?_ ?_ ?_ ?_ ?_; rfl; rfl; rfl; rfl; exact (HPI.out _).lit hk; exact hk9; exact hbz _ _; intro A3 c3 w3 ho3 hg3 hat3; simp only [Nat.zero_add, List.nil_append] at ho3 hat3 ⊢; have HMID := hide ((HPI.out _).mid (g := w.heap.size + 1) hk ((Below.refl _ _).alloc (Nat.le_refl _) _) (by omega) ho3 hg3 hat3); have e0 := PutIn.cell (g := w.heap.size + 1) hg3 (by omega) (cell_alloc' ((HPI.out _).box 0 _ rfl)); have e1 := PutIn.cell (g := w.heap.size + 1) hg3 (by omega) (cell_alloc' ((HPI.out _).box 1 _ rfl)); have e2 := PutIn.cell (g := w.heap.size + 1) hg3 (by omega) (cell_alloc' ((HPI.out _).box 2 _ rfl)); have e3 := PutIn.cell (g := w.heap.size + 1) hg3 (by omega) (cell_alloc' ((HPI.out _).box 3 _ rfl)); have e4 := PutIn.cell (g := w.heap.size + 1) hg3 (by omega) (cell_alloc' ((HPI.out _).box 4 _ rfl)); have hz3 : base ≤ w3.heap.size := Nat.le_trans hb HMID.out.below.size; have hz4 : base ≤ (w3.alloc (.cells #[.int .i64 z, .int .i64 a, .int .i64 x0, .int .i64 x1, .slice X body.length d] 156)).heap.size := Nat.le_trans hz3 (size_le_alloc _ _); clear hat3 hg3 ho3)
        | (refine step_append_fnds ?_ (.tmp 25) (.tmp 28) ?_ base 0 0 k c (some ⟨w.heap.size + 1, 0, none⟩) A [] (qs.take k) ?_ ?_ ?_ ?_ ?_ ?_; rfl; rfl; rfl; rfl; exact (HPI.out _).lit2 hk _; exact hk9; exact hby _ _ _; intro A3 c3 w3 ho3 hg3 hat3; simp only [Nat.zero_add, List.nil_append] at ho3 hat3 ⊢; have HMID := hide ((HPI.out _).mid (g := w.heap.size + 1) hk (below_two _ _ _) (by omega) ho3 hg3 hat3); have HBX : Hid (∀ j u, (Fq.mk z a x0 x1 body X d).cells[j]? = some u → w3.cell? ⟨w.heap.size + 2, j, none⟩ = some u) := fun j u hu => PutIn.cell (g := w.heap.size + 1) hg3 (by omega) ((HPI.out _).x2 _ j u hu); have hz3 : base ≤ w3.heap.size := Nat.le_trans hb HMID.out.below.size; clear hat3 hg3 ho3)
        | (refine step_append_fnds ?_ (.tmp 25) (.tmp 28) ?_ base 0 0 k c (some ⟨w.heap.size + 2, 0, none⟩) A [] (qs.take k) ?_ ?_ ?_ ?_ ?_ ?_; rfl; rfl; rfl; rfl; exact (HPI.out _).lit3 hk _; exact hk9; exact hby _ _ _; intro A3 c3 w3 ho3 hg3 hat3; simp only [Nat.zero_add, List.nil_append] at ho3 hat3 ⊢; have HMID := hide ((HPI.out _).mid (g := w.heap.size + 2) hk (below_two _ _ _) (by omega) ho3 hg3 hat3); have HBX : Hid (∀ j u, (Fq.mk z a x0 x1 body X d).cells[j]? = some u → w3.cell? ⟨w.heap.size + 1, j, none⟩ = some u) := fun j u hu => PutIn.cell (g := w.heap.size + 2) hg3 (by omega) ((HPI.out _).x3 _ j u hu); have hz3 : base ≤ w3.heap.size := Nat.le_trans hb HMID.out.below.size; clear hat3 hg3 ho3)
        | (refine step_append_fnds ?_ (.tmp 29) (.tmp 31) ?_ base k c3 1 1 A3 (some ⟨w.heap.size + 2, 0, none⟩) (qs.take k) [⟨z, a, x0, x1, body, X, d⟩] ?_ ?_ ?_ ?_ ?_ ?_; rfl; rfl; rfl; rfl; exact HMID.out.one HBX.out; exact hk1; exact hz3; intro A4 c4 w4 ho4 hg4 hat4; obtain ⟨hb4, hr4⟩ := below_app_put HMID.out.below HMID.out.below.size HMID.out.row hg4 hat4; have HB4 := hide hb4; have HR4 := hide hr4; clear hb4 hr4; have HNR := hide (NewF.rest HR.out HB4.out hk ho4 HS.out); have hz5 : base ≤ w4.heap.size := Nat.le_trans hb HB4.out.size; clear hat4 hg4 ho4)
        | (refine step_append_fnds ?_ (.tmp 29) (.tmp 31) ?_ base k c3 1 1 A3 (some ⟨w.heap.size + 1, 0, none⟩) (qs.take k) [⟨z, a, x0, x1, body, X, d⟩] ?_ ?_ ?_ ?_ ?_ ?_; rfl; rfl; rfl; rfl; exact HMID.out.one HBX.out; exact hk1; exact hz3; intro A4 c4 w4 ho4 hg4 hat4; obtain ⟨hb4, hr4⟩ := below_app_put HMID.out.below HMID.out.below.size HMID.out.row hg4 hat4; have HB4 := hide hb4; have HR4 := hide hr4; clear hb4 hr4; have HNR := hide (NewF.rest HR.out HB4.out hk ho4 HS.out); have hz5 : base ≤ w4.heap.size := Nat.le_trans hb HB4.out.size; clear hat4 hg4 ho4)
        | (refine step_append_fnds ?_ (.tmp 29) (.tmp 31) ?_ base k c3 1 1 A3 (some ⟨w3.heap.size, 0, none⟩) (qs.take k) [⟨z, a, x0, x1, body, X, d⟩] ?_ ?_ ?_ ?_ ?_ ?_; rfl; rfl; rfl; rfl; exact HMID.out.one'; exact hk1; exact hz4; intro A4 c4 w4 ho4 hg4 hat4; obtain ⟨hb4, hr4⟩ := below_app_put (HMID.out.below.alloc HMID.out.below.size _) (Nat.le_trans HMID.out.below.size (size_le_alloc _ _)) HMID.out.row hg4 hat4; have HB4 := hide hb4; have HR4 := hide hr4; clear hb4 hr4; have HNR := hide (NewF.rest HR.out HB4.out hk ho4 HS.out); have hz5 : base ≤ w4.heap.size := Nat.le_trans hb HB4.out.size; clear hat4 hg4 ho4)
        | (refine step_append_fnds ?_ (.tmp 32) (.tmp 35) ?_ base (k + 1) c4 (n - k) (c - k) A4 (if c = k then A else A.map (·.add (k * 5))) (qs.take k ++ [⟨z, a, x0, x1, body, X, d⟩]) (qs.drop k) ?_ ?_ ?_ ?_ ?_ ?_; rfl; rfl; rfl; rfl; exact HNR.out; exact hk2; exact hz5; intro A5 c5 w5 ho5 hg5 hat5; have HB5 := hide (HB4.out.grown hg5 HB4.out.size HR4.out); have HO5 := hide ho5; clear hat5 hg5 ho5))
      all_goals
        go_wp2
        all_goals
          go_ret
          refine ⟨A5, c5, by first | rfl | (rw [← HNN.out]; rfl), _, HNN.out ▸ HO5.out, ?_, ?_, HB5.out⟩
          case' refine_2 =>
            intro r hr
            simp only [List.mem_append, List.mem_singleton] at hr
            rcases hr with (hr | hr) | hr
            · exact .inr (List.mem_of_mem_take hr)
            · exact .inl hr
            · exact .inr (List.mem_of_mem_drop hr)
          show fns _ = insF (fns qs) _
          unfold insF
          rw [fns_length, HR.out.len, HPP.out, fns_append, fns_append, fns_take, fns_drop]
          simp [fns, Fq.fn]
end Go.Proofs.YtfianpjoifcphaaGreat
