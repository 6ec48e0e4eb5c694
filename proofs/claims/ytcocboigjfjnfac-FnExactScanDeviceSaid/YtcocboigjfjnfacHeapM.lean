/-
  Plain mathematics of a heap of lists: the order of frames that were found, exchanges, going up and down, and what a merge of ordered lists gives. Plain.
-/
import Derived.Test.YtcocboigjfjnfacScnM
namespace Go.Proofs.Ytcocboigjfjnfac
open Go.RowKit
set_option linter.unusedVariables false
set_option maxRecDepth 100000

/-! ### The order: number, zone, word -/
def cmpI (x y : Int) : Int := if x < y then -1 else if y < x then 1 else 0
def cmpF (f g : Fn) : Int := if cmpI (seqOf f) (seqOf g) = 0 then (if cmpI f.1 g.1 = 0 then cmpI f.2.1 g.2.1 else cmpI f.1 g.1) else cmpI (seqOf f) (seqOf g)
def ltF (f g : Fn) : Prop := seqOf f < seqOf g ∨ (seqOf f = seqOf g ∧ (f.1 < g.1 ∨ (f.1 = g.1 ∧ f.2.1 < g.2.1)))
def leF (f g : Fn) : Prop := ¬ ltF g f
theorem cmpI_lt {x y : Int} : cmpI x y < 0 ↔ x < y := by
  unfold cmpI
  by_cases h : x < y
  · rw [if_pos h]; omega
  · rw [if_neg h]; by_cases h2 : y < x
    · rw [if_pos h2]; omega
    · rw [if_neg h2]; omega
theorem cmpI_eq {x y : Int} : cmpI x y = 0 ↔ x = y := by
  unfold cmpI
  by_cases h : x < y
  · rw [if_pos h]; omega
  · rw [if_neg h]; by_cases h2 : y < x
    · rw [if_pos h2]; omega
    · rw [if_neg h2]; omega
theorem cmpF_lt {f g : Fn} : cmpF f g < 0 ↔ ltF f g := by
  unfold cmpF ltF
  by_cases h1 : seqOf f = seqOf g
  · rw [if_pos (cmpI_eq.2 h1)]
    by_cases h2 : f.1 = g.1
    · rw [if_pos (cmpI_eq.2 h2), cmpI_lt]; omega
    · rw [if_neg (fun h => h2 (cmpI_eq.1 h)), cmpI_lt]; omega
  · rw [if_neg (fun h => h1 (cmpI_eq.1 h)), cmpI_lt]; omega
theorem ltF_irrefl (x : Fn) : ¬ ltF x x := by unfold ltF; omega
theorem ltF_trans {x y z : Fn} (h1 : ltF x y) (h2 : ltF y z) : ltF x z := by unfold ltF at *; omega
theorem ltF_asymm {x y : Fn} (h1 : ltF x y) : ¬ ltF y x := by unfold ltF at *; omega
theorem ltF_ntrans {x y z : Fn} (h1 : ¬ ltF x y) (h2 : ¬ ltF y z) : ¬ ltF x z := by unfold ltF at *; omega
theorem ltF_of {x y z : Fn} (h1 : ltF x y) (h2 : ¬ ltF z y) : ¬ ltF z x := by unfold ltF at *; omega
theorem leF_refl (x : Fn) : leF x x := ltF_irrefl x
theorem leF_trans {x y z : Fn} (h1 : leF x y) (h2 : leF y z) : leF x z := by unfold leF ltF at *; omega
theorem leF_key {x y : Fn} (h1 : leF x y) (h2 : leF y x) : seqOf x = seqOf y ∧ x.1 = y.1 ∧ x.2.1 = y.2.1 := by unfold leF ltF at *; omega
theorem leF_seq {x y : Fn} (h1 : leF x y) : seqOf x ≤ seqOf y := by unfold leF ltF at *; omega

/-! ### The heap: K tells the first frame of each list -/
def HpOk (K : Nat → Fn) (n : Nat) : Prop := ∀ c, 0 < c → c < n → ¬ ltF (K c) (K ((c - 1) / 2))
def HpUp (K : Nat → Fn) (n j : Nat) : Prop := (∀ c, 0 < c → c < n → c ≠ j → ¬ ltF (K c) (K ((c - 1) / 2))) ∧ ∀ c, 0 < c → c < n → (c - 1) / 2 = j → 0 < j → ¬ ltF (K c) (K ((j - 1) / 2))
def HpDn (K : Nat → Fn) (n i : Nat) : Prop := (∀ c, 0 < c → c < n → (c - 1) / 2 ≠ i → ¬ ltF (K c) (K ((c - 1) / 2))) ∧ ∀ c, 0 < c → c < n → (c - 1) / 2 = i → 0 < i → ¬ ltF (K c) (K ((i - 1) / 2))
def swK (K : Nat → Fn) (i j : Nat) : Nat → Fn := fun k => if k = i then K j else if k = j then K i else K k
theorem swK_i (K : Nat → Fn) (i j : Nat) : swK K i j i = K j := by unfold swK; rw [if_pos rfl]
theorem swK_j {K : Nat → Fn} {i j : Nat} (h : j ≠ i) : swK K i j j = K i := by unfold swK; rw [if_neg h, if_pos rfl]
theorem swK_k {K : Nat → Fn} {i j k : Nat} (h : k ≠ i) (h2 : k ≠ j) : swK K i j k = K k := by unfold swK; rw [if_neg h, if_neg h2]
theorem HpOk.root {K : Nat → Fn} {n : Nat} (h : HpOk K n) : ∀ c, c < n → ¬ ltF (K c) (K 0) := by
  have : ∀ m c, c ≤ m → c < n → ¬ ltF (K c) (K 0) := by
    intro m
    induction m with
    | zero => intro c hc hn; obtain rfl : c = 0 := by omega
              exact ltF_irrefl _
    | succ m ih =>
      intro c hc hn
      rcases Nat.eq_zero_or_pos c with rfl | h0
      · exact ltF_irrefl _
      · exact ltF_ntrans (h c h0 hn) (ih _ (by omega) (by omega))
  exact fun c hc => this c c (Nat.le_refl _) hc
theorem HpOk.last {K : Nat → Fn} {n : Nat} (h : HpOk K n) (K' : Nat → Fn) (hk : ∀ c, c < n → K' c = K c) : HpUp K' (n + 1) n := by
  refine ⟨fun c h0 hn hc => ?_, fun c h0 hn hc => by omega⟩
  rw [hk c (by omega), hk _ (by omega)]
  exact h c h0 (by omega)
theorem HpUp.done0 {K : Nat → Fn} {n : Nat} (h : HpUp K n 0) : HpOk K n := fun c h0 hn => h.1 c h0 hn (by omega)
theorem HpUp.done {K : Nat → Fn} {n j : Nat} (h : HpUp K n j) (hl : ¬ ltF (K j) (K ((j - 1) / 2))) : HpOk K n := fun c h0 hn => by
  by_cases hc : c = j
  · subst hc; exact hl
  · exact h.1 c h0 hn hc
theorem HpUp.step {K : Nat → Fn} {n j i : Nat} (h : HpUp K n j) (hj : 0 < j) (hjn : j < n) (hi : (j - 1) / 2 = i) (hl : ltF (K j) (K i)) : HpUp (swK K i j) n i := by
  have hij : j ≠ i := by omega
  refine ⟨fun c h0 hn hc => ?_, fun c h0 hn hp hi0 => ?_⟩
  · by_cases hcj : c = j
    · subst hcj
      rw [hi, swK_j hij, swK_i]
      exact ltF_asymm hl
    · rw [swK_k hc hcj]
      by_cases hpi : (c - 1) / 2 = i
      · rw [hpi, swK_i]
        have := h.1 c h0 hn hcj
        rw [hpi] at this
        exact ltF_of hl this
      · by_cases hpj : (c - 1) / 2 = j
        · rw [hpj, swK_j hij, ← hi]
          exact h.2 c h0 hn hpj hj
        · rw [swK_k hpi hpj]
          exact h.1 c h0 hn hcj
  · rw [swK_k (show (i - 1) / 2 ≠ i by omega) (show (i - 1) / 2 ≠ j by omega)]
    have hpar := h.1 i hi0 (by omega) (fun e => hij e.symm)
    by_cases hcj : c = j
    · subst hcj
      rw [swK_j hij]
      exact hpar
    · rw [swK_k (by omega) hcj]
      have := h.1 c h0 hn hcj
      rw [hp] at this
      exact ltF_ntrans this hpar

theorem HpOk.top {K : Nat → Fn} {n : Nat} (h : HpOk K (n + 1)) : HpDn (swK K 0 n) n 0 := by
  refine ⟨fun c h0 hn hc => ?_, fun c h0 hn hc hi => absurd hi (by omega)⟩
  rw [swK_k (by omega) (by omega), swK_k hc (by omega)]
  exact h c h0 (by omega)
theorem HpDn.leaf {K : Nat → Fn} {n i : Nat} (h : HpDn K n i) (hn : n ≤ 2 * i + 1) : HpOk K n := fun c h0 hc => h.1 c h0 hc (by omega)
/-- j is the child of i that is not greater than the other one -/
structure Child (K : Nat → Fn) (n i j : Nat) : Prop where
  par : (j - 1) / 2 = i
  pos : 0 < j
  lt : j < n
  min : ∀ c, 0 < c → c < n → (c - 1) / 2 = i → ¬ ltF (K c) (K j)
theorem child_one {K : Nat → Fn} {n i : Nat} (h : 2 * i + 1 < n) (h2 : ¬ 2 * i + 2 < n) : Child K n i (2 * i + 1) :=
  ⟨by omega, by omega, h, fun c h0 hc hp => by obtain rfl : c = 2 * i + 1 := by omega
                                               exact ltF_irrefl _⟩
theorem child_left {K : Nat → Fn} {n i : Nat} (h : 2 * i + 1 < n) (hl : ¬ ltF (K (2 * i + 2)) (K (2 * i + 1))) : Child K n i (2 * i + 1) :=
  ⟨by omega, by omega, h, fun c h0 hc hp => by
    rcases (show c = 2 * i + 1 ∨ c = 2 * i + 2 by omega) with rfl | rfl
    · exact ltF_irrefl _
    · exact hl⟩
theorem child_right {K : Nat → Fn} {n i : Nat} (h : 2 * i + 2 < n) (hl : ltF (K (2 * i + 2)) (K (2 * i + 1))) : Child K n i (2 * i + 2) :=
  ⟨by omega, by omega, h, fun c h0 hc hp => by
    rcases (show c = 2 * i + 1 ∨ c = 2 * i + 2 by omega) with rfl | rfl
    · exact ltF_asymm hl
    · exact ltF_irrefl _⟩
theorem HpDn.done {K : Nat → Fn} {n i j : Nat} (h : HpDn K n i) (hc : Child K n i j) (hl : ¬ ltF (K j) (K i)) : HpOk K n := fun c h0 hn => by
  by_cases hp : (c - 1) / 2 = i
  · rw [hp]; exact ltF_ntrans (hc.min c h0 hn hp) hl
  · exact h.1 c h0 hn hp
theorem HpDn.step {K : Nat → Fn} {n i j : Nat} (h : HpDn K n i) (hc : Child K n i j) (hl : ltF (K j) (K i)) : HpDn (swK K i j) n j := by
  have h1 := hc.par
  have h2 := hc.pos
  have h3 := hc.lt
  have hij : j ≠ i := by omega
  refine ⟨fun c h0 hn hp => ?_, fun c h0 hn hp hj => ?_⟩
  · by_cases hci : c = i
    · subst hci
      rw [swK_i, swK_k (show (c - 1) / 2 ≠ c by omega) hp]
      exact h.2 j h2 h3 h1 h0
    · by_cases hcj : c = j
      · subst hcj
        rw [swK_j hij, h1, swK_i]
        exact ltF_asymm hl
      · rw [swK_k hci hcj]
        by_cases hpi : (c - 1) / 2 = i
        · rw [hpi, swK_i]
          exact hc.min c h0 hn hpi
        · rw [swK_k hpi hp]
          exact h.1 c h0 hn hpi
  · rw [h1, swK_i, swK_k (by omega) (by omega)]
    have := h.1 c h0 hn (by omega)
    rw [hp] at this
    exact this

/-! ### Lists that are exchanged -/
section
variable {α : Type}
def swL (l : List α) (i j : Nat) : List α := match l[i]?, l[j]? with
  | some x, some y => (l.set i y).set j x
  | _, _ => l
theorem swL_eq {l : List α} {i j : Nat} {x y : α} (hx : l[i]? = some x) (hy : l[j]? = some y) : swL l i j = (l.set i y).set j x := by unfold swL; rw [hx, hy]
theorem swL_length (l : List α) (i j : Nat) : (swL l i j).length = l.length := by
  unfold swL
  rcases l[i]? with _ | x
  · rfl
  · rcases l[j]? with _ | y
    · rfl
    · simp
theorem swL_perm (l : List α) (i j : Nat) : (swL l i j).Perm l := by
  unfold swL
  rcases hx : l[i]? with _ | x
  · exact List.Perm.refl _
  · rcases hy : l[j]? with _ | y
    · exact List.Perm.refl _
    · obtain ⟨hi, rfl⟩ := List.getElem?_eq_some_iff.1 hx
      obtain ⟨hj, rfl⟩ := List.getElem?_eq_some_iff.1 hy
      exact List.set_set_perm hi hj
theorem swL_get (l : List α) {i j : Nat} (hi : i < l.length) (hj : j < l.length) (k : Nat) : (swL l i j)[k]? = if k = i then l[j]? else if k = j then l[i]? else l[k]? := by
  rw [swL_eq (List.getElem?_eq_getElem hi) (List.getElem?_eq_getElem hj)]
  by_cases hkj : k = j
  · subst hkj
    rw [List.getElem?_set_self (by simpa using hj)]
    by_cases hki : k = i
    · subst hki; rw [if_pos rfl]; exact (List.getElem?_eq_getElem hi).symm
    · rw [if_neg hki, if_pos rfl]; exact (List.getElem?_eq_getElem hi).symm
  · rw [List.getElem?_set_ne (Ne.symm hkj)]
    by_cases hki : k = i
    · subst hki
      rw [if_pos rfl, List.getElem?_set_self hi]
      exact (List.getElem?_eq_getElem hj).symm
    · rw [if_neg hki, if_neg hkj, List.getElem?_set_ne (Ne.symm hki)]
theorem swL_map {β : Type} (f : α → β) (l : List α) (i j : Nat) : (swL l i j).map f = swL (l.map f) i j := by
  unfold swL
  rw [List.getElem?_map, List.getElem?_map]
  rcases l[i]? with _ | x
  · rfl
  · rcases l[j]? with _ | y
    · rfl
    · simp [List.map_set]
end

/-! ### A merge of ordered lists -/
def f0 : Fn := (0, 0, 0, 0, [])
def hdF (gs : List Fn) : Fn := gs.headD f0
def keyL (ls : List (List Fn)) : Nat → Fn := fun k => hdF (ls.getD k [])
theorem keyL_sw {ls : List (List Fn)} {i j : Nat} (hi : i < ls.length) (hj : j < ls.length) : keyL (swL ls i j) = swK (keyL ls) i j := by
  funext k
  unfold keyL swK
  simp only [List.getD, swL_get ls hi hj k]
  by_cases h : k = i
  · rw [if_pos h, if_pos h]
  · rw [if_neg h, if_neg h]
    by_cases h2 : k = j
    · rw [if_pos h2, if_pos h2]
    · rw [if_neg h2, if_neg h2]
/-- what a merge knows: 'out' was taken, 'ls' are the lists that are left, 'all' is everything -/
structure Mrg (out : List Fn) (ls : List (List Fn)) (all : List Fn) : Prop where
  perm : (out ++ ls.flatten).Perm all
  full : ∀ g ∈ ls, g ≠ []
  asc : ∀ g ∈ ls, g.Pairwise leF
  srt : out.Pairwise leF
  low : ∀ x ∈ out, ∀ g ∈ ls, ∀ y ∈ g, leF x y
theorem Mrg.perms {out : List Fn} {ls ls' : List (List Fn)} {all : List Fn} (h : Mrg out ls all) (hp : ls'.Perm ls) : Mrg out ls' all :=
  ⟨(List.Perm.append_left out hp.flatten).trans h.perm, fun g hg => h.full g (hp.mem_iff.1 hg), fun g hg => h.asc g (hp.mem_iff.1 hg), h.srt, fun x hx g hg => h.low x hx g (hp.mem_iff.1 hg)⟩
theorem Mrg.add {ls : List (List Fn)} {all g : List Fn} (h : Mrg [] ls all) (hg : g ≠ []) (ha : g.Pairwise leF) : Mrg [] (ls ++ [g]) (all ++ g) := by
  refine ⟨?_, fun x hx => ?_, fun x hx => ?_, List.Pairwise.nil, fun x hx => by simp at hx⟩
  · have := h.perm
    simp only [List.nil_append, List.flatten_append, List.flatten_cons, List.flatten_nil, List.append_nil] at this ⊢
    exact this.append_right g
  · simp only [List.mem_append, List.mem_singleton] at hx
    rcases hx with hx | rfl
    · exact h.full x hx
    · exact hg
  · simp only [List.mem_append, List.mem_singleton] at hx
    rcases hx with hx | rfl
    · exact h.asc x hx
    · exact ha
theorem Mrg.empty {ls : List (List Fn)} {all : List Fn} (h : Mrg [] ls all) : Mrg [] ls (all ++ []) := by rw [List.append_nil]; exact h
theorem Mrg.none : Mrg [] [] [] := ⟨List.Perm.refl _, by simp, by simp, List.Pairwise.nil, by simp⟩
/-- the first frame of all is taken, what is left of its list stays -/
theorem Mrg.take {out : List Fn} {ls : List (List Fn)} {all t : List Fn} {x : Fn} (h : Mrg out ((x :: t) :: ls) all) (hm : ∀ g ∈ ls, ∀ y, g.head? = some y → leF x y) :
    Mrg (out ++ [x]) (if t = [] then ls else ls ++ [t]) all := by
  have hx := h.asc _ (List.mem_cons_self)
  have hxt := (List.pairwise_cons.1 hx).1
  have ht := (List.pairwise_cons.1 hx).2
  have hlow : ∀ g ∈ ls, ∀ y ∈ g, leF x y := by
    intro g hg y hy
    have hgne := h.full g (List.mem_cons_of_mem _ hg)
    obtain ⟨z, g', rfl⟩ := List.exists_cons_of_ne_nil hgne
    have h1 := hm _ hg z rfl
    rcases List.mem_cons.1 hy with rfl | hy
    · exact h1
    · exact leF_trans h1 ((List.pairwise_cons.1 (h.asc _ (List.mem_cons_of_mem _ hg))).1 y hy)
  have hout : (out ++ [x]).Pairwise leF := List.pairwise_append.2 ⟨h.srt, List.pairwise_singleton _ _, fun a ha b hb => by
    simp only [List.mem_singleton] at hb
    subst hb
    exact h.low a ha _ List.mem_cons_self _ List.mem_cons_self⟩
  by_cases hte : t = []
  · rw [if_pos hte]
    subst hte
    refine ⟨?_, fun g hg => h.full g (List.mem_cons_of_mem _ hg), fun g hg => h.asc g (List.mem_cons_of_mem _ hg), hout, fun a ha g hg y hy => ?_⟩
    · have := h.perm
      simpa using this
    · simp only [List.mem_append, List.mem_singleton] at ha
      rcases ha with ha | rfl
      · exact h.low a ha g (List.mem_cons_of_mem _ hg) y hy
      · exact hlow g hg y hy
  · rw [if_neg hte]
    have mem : ∀ g ∈ ls ++ [t], g ∈ ls ∨ g = t := fun g hg => by simpa using hg
    refine ⟨?_, fun g hg => ?_, fun g hg => ?_, hout, fun a ha g hg y hy => ?_⟩
    · have := h.perm
      refine List.Perm.trans ?_ this
      simp only [List.flatten_append, List.flatten_cons, List.flatten_nil, List.append_nil, List.append_assoc, List.cons_append, List.nil_append]
      exact List.Perm.append_left out (List.Perm.cons x List.perm_append_comm)
    · rcases mem g hg with hg | rfl
      · exact h.full g (List.mem_cons_of_mem _ hg)
      · exact hte
    · rcases mem g hg with hg | rfl
      · exact h.asc g (List.mem_cons_of_mem _ hg)
      · exact ht
    · simp only [List.mem_append, List.mem_singleton] at ha
      rcases ha with ha | rfl
      · rcases mem g hg with hg | rfl
        · exact h.low a ha g (List.mem_cons_of_mem _ hg) y hy
        · exact h.low a ha _ List.mem_cons_self y (List.mem_cons_of_mem _ hy)
      · rcases mem g hg with hg | rfl
        · exact hlow g hg y hy
        · exact hxt y hy
theorem Mrg.end_ {out all : List Fn} (h : Mrg out [] all) : out.Perm all ∧ out.Pairwise leF := ⟨by simpa using h.perm, h.srt⟩

/-! ### The same as the document's order -/
theorem placeF_perm (fs : List Fn) (x : Fn) : (insF fs x).Perm (x :: fs) := by
  unfold insF
  refine List.Perm.trans List.perm_middle ?_
  rw [List.take_append_drop]
theorem insAll_perm (gs : List Fn) : ∀ fs, (insAll fs gs).Perm (fs ++ gs) := by
  induction gs with
  | nil => intro fs; simp [insAll]
  | cons g gs ih =>
    intro fs
    show (insAll (insF fs g) gs).Perm _
    refine (ih _).trans (((placeF_perm fs g).append_right gs).trans ?_)
    exact List.perm_middle.symm
theorem foldAll_perm (zs : List (List Fn)) : ∀ fs, (zs.foldl insAll fs).Perm (fs ++ zs.flatten) := by
  induction zs with
  | nil => intro fs; simp
  | cons g gs ih =>
    intro fs
    rw [List.foldl_cons, List.flatten_cons, ← List.append_assoc]
    exact (ih _).trans ((insAll_perm g fs).append_right _)
theorem orderF_perm (zs : List (List Fn)) : (orderF zs).Perm zs.flatten := by unfold orderF; simpa using foldAll_perm zs []
/-- f lies ahead of x in its zone, or in an earlier zone -/
def ahF (f x : Fn) : Prop := f.1 < x.1 ∨ (f.1 = x.1 ∧ f.2.1 < x.2.1)
theorem insF_le {fs : List Fn} {x : Fn} (h : fs.Pairwise leF) (hx : ∀ f ∈ fs, ahF f x) : (insF fs x).Pairwise leF := by
  have hasc : ascF fs := h.imp fun h => leF_seq h
  obtain ⟨h1, h2⟩ := placeF_spec (x := x) hasc fs.length (Nat.le_refl _)
  have hl := placeF_le fs x fs.length
  unfold insF
  have ht : ∀ f ∈ fs.take (placeF fs x fs.length), leF f x := by
    intro f hf
    have ha := hx f (List.mem_of_mem_take hf)
    obtain ⟨j, hj⟩ := List.getElem?_of_mem hf
    have hlt : j < placeF fs x fs.length := by
      have := (List.getElem?_eq_some_iff.1 hj).1
      rw [List.length_take] at this
      omega
    rw [List.getElem?_take_of_lt hlt] at hj
    have := h1 j f hlt hj
    unfold leF ltF
    unfold ahF at ha
    omega
  have hd : ∀ f ∈ fs.drop (placeF fs x fs.length), leF x f := by
    intro f hf
    obtain ⟨j, hj⟩ := List.getElem?_of_mem hf
    rw [List.getElem?_drop] at hj
    have := (List.getElem?_eq_some_iff.1 hj).1
    have := h2 _ f (by omega) this hj
    unfold leF ltF
    omega
  refine List.pairwise_append.2 ⟨List.Pairwise.sublist (List.take_sublist _ _) h, List.pairwise_cons.2 ⟨hd, List.Pairwise.sublist (List.drop_sublist _ _) h⟩, fun f hf g hg => ?_⟩
  simp only [List.mem_cons] at hg
  rcases hg with rfl | hg
  · exact ht f hf
  · exact leF_trans (ht f hf) (hd g hg)
theorem insAll_le (gs : List Fn) : ∀ fs, fs.Pairwise leF → (∀ f ∈ fs, ∀ g ∈ gs, ahF f g) → gs.Pairwise ahF → (insAll fs gs).Pairwise leF := by
  induction gs with
  | nil => intro fs h _ _; exact h
  | cons g gs ih =>
    intro fs h hx hp
    refine ih _ (insF_le h (fun f hf => hx f hf g List.mem_cons_self)) (fun f hf k hk => ?_) (List.pairwise_cons.1 hp).2
    rcases (insF_mem fs g f).1 hf with rfl | hf
    · exact (List.pairwise_cons.1 hp).1 k hk
    · exact hx f hf k (List.mem_cons_of_mem _ hk)
theorem orderF_le (zs : List (List Fn)) (h1 : ∀ (i j : Nat) (a b : List Fn), i < j → zs[i]? = some a → zs[j]? = some b → ∀ f ∈ a, ∀ g ∈ b, f.1 < g.1) (h2 : ∀ g ∈ zs, g.Pairwise ahF) : (orderF zs).Pairwise leF := by
  have : ∀ (zs : List (List Fn)) (fs : List Fn), fs.Pairwise leF → (∀ f ∈ fs, ∀ a ∈ zs, ∀ g ∈ a, f.1 < g.1) → (zs.Pairwise fun a b => ∀ f ∈ a, ∀ g ∈ b, f.1 < g.1) → (∀ g ∈ zs, g.Pairwise ahF) → (zs.foldl insAll fs).Pairwise leF := by
    intro zs
    induction zs with
    | nil => intro fs h _ _ _; exact h
    | cons a zs ih =>
      intro fs h hf hp ha
      rw [List.foldl_cons]
      refine ih _ (insAll_le a fs h (fun f hf' g hg => .inl (hf f hf' a List.mem_cons_self g hg)) (ha a List.mem_cons_self)) (fun f hf' b hb g hg => ?_) (List.pairwise_cons.1 hp).2 (fun g hg => ha g (List.mem_cons_of_mem _ hg))
      rcases (insAll_mem a f fs).1 hf' with hfa | hff
      · exact (List.pairwise_cons.1 hp).1 b hb f hfa g hg
      · exact hf f hff b (List.mem_cons_of_mem _ hb) g hg
  refine this zs [] List.Pairwise.nil (by simp) ?_ h2
  rw [List.pairwise_iff_getElem]
  intro i j hi hj hij f hf g hg
  exact h1 i j _ _ hij (List.getElem?_eq_getElem hi) (List.getElem?_eq_getElem hj) f hf g hg
theorem orderF_eq {out : List Fn} {zs : List (List Fn)} (h : (orderF zs).Pairwise leF) (hk : ∀ f ∈ zs.flatten, ∀ g ∈ zs.flatten, f.1 = g.1 → f.2.1 = g.2.1 → f = g) (hp : out.Perm zs.flatten) (ho : out.Pairwise leF) : out = orderF zs := by
  refine List.Perm.eq_of_pairwise (le := leF) (fun a b ha hb h1 h2 => ?_) ho h (hp.trans (orderF_perm zs).symm)
  obtain ⟨_, e1, e2⟩ := leF_key h1 h2
  exact hk a (hp.mem_iff.1 ha) b ((orderF_perm zs).mem_iff.1 hb) e1 e2
end Go.Proofs.Ytcocboigjfjnfac
