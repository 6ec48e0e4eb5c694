/-
  Texts in one: FrameB, DrawZ1, FrameG, FrameI, FPut, SmM, SpecM2, ImpM1, IterP, ImplP, IterC, ImplC, SameM, SpecM3, ImpM2. Plain.
-/
import Derived.Test.YtcocboigjfjnfabFrame0
import Derived.Test.YtcocboigjfjnfabG1
import Derived.Test.YtcocboigjfjnfabDrawP
import Derived.Test.YtcocboigjfjnfabDrawC
import Derived.Test.YtcocboigjfjnfabSpecP
import Derived.Test.YtcocboigjfjnfabSpecC
import Derived.Test.YtcocboigjfjnfabFrameT
import Derived.Test.YtcocboigjfjnfabFnd
import Derived.Test.YtcocboigjfjnfabQo
import Derived.Test.YtcocboigjfjnfabAsc
/- FrameB -/
namespace Go.Proofs.Ytcocboigjfjnfab
open Go.RowKit
set_option linter.unusedVariables false
set_option maxRecDepth 100000

theorem bytes_of {W : World} {x : Addr} {l c : Nat} {zs : List Int} (hl : l ≤ c) (hz : zs.length = c) (hcell : ∀ i, i < zs.length → W.cell? (x.add i) = some (.int .u8 (zs.getD i 0)))
    (hwz : ∀ n ∈ zs, (Lit.int .u8 n).wf = true) : Bytes W W.heap.size (some x) l (fun j => zs.getD j 0) := by
  intro hn
  refine ⟨x, rfl, ?_, fun j hj => ?_⟩
  · have := World.block_lt_of_cell? W _ (hcell 0 (by omega))
    rwa [block_of_add] at this
  · have hj' : j < zs.length := by omega
    have hw : (Lit.int .u8 (zs.getD j 0)).wf = true := hwz _ (by simp [List.getD, hj'])
    exact ⟨(wf_u8 hw).1, (wf_u8 hw).2, hcell j hj'⟩

end Go.Proofs.Ytcocboigjfjnfab

/- DrawZ1 -/
namespace Go.Proofs.Ytcocboigjfjnfab
open Go.RowKit
set_option linter.unusedVariables false
set_option maxRecDepth 100000

set_option maxHeartbeats 1600000 in
theorem body91_any (R : Nat) (p : Int) (w : World) (hr : Rd w R p) (hp : p < 19000) :
    Calls Try.prog 43 #[.pointer (some ⟨R, 0, none⟩)] w fun e w' => ∃ (kd : Int) (A2 : Option Addr) (m c2 : Nat) (xs : List Int) (p' : Int), e = .returned (.tuple #[.int .i64 kd, .slice A2 m c2]) ∧ Own w' w.heap.size A2 m c2 xs ∧ m ≤ 100 ∧
      p ≤ p' ∧ p' ≤ p + 101 ∧ Rd w' R p' ∧ w.grownBy w' (some R) := by
  have hRw := hr.lt
  go_enter Try.func43, Try.ntmps43
  go_wp2_with fail
  refine (pick_any R p 3 _ hr (by omega) (by omega)).mono ?_
  rintro e w1 ⟨v, rfl, hv0, hv1, hr1, hg1⟩
  have hs1 := hg1.size
  have HG1 := hide hg1
  clear hg1 hr
  by_cases hv : v = 0
  · subst hv
    go_wp2_with fail
    refine (draw91C_any R (p + 1) _ hr1 (by omega)).mono ?_
    rintro e w2 ⟨A2, k, c2, xs, p', rfl, hown, hk, hrng, hp0, hp1, hr2, hg2⟩
    have hs2 := hg2.size
    have HI2 := hide hown.ints
    have hlen := hown.1
    have HG2 := hide (grown_trans' HG1.out hg2)
    have HR2 := hide hr2
    clear hown hg2 hr1 hr2
    go_wp2_with fail
    refine (specPutC A2 k c2 _ xs _ HI2.out (Nat.le_refl _) (by omega)).mono ?_
    rintro e w3 ⟨A3, m, c3, rfl, ho3, hb3⟩
    have hm : m ≤ 100 := by
      have h1 := ho3.1
      split at h1
      · omega
      · simp at h1; omega
    have HG3 := hide (grown_own HG2.out (grown_of_below hb3 none) (by simp))
    have HR3 := hide (HR2.out.below hb3)
    have HO3 := hide (ho3.mono (show w.heap.size ≤ w2.heap.size by omega))
    clear hb3 ho3
    go_wp2
    go_ret2
    exact ⟨_, _, _, _, _, p', rfl, HO3.out, hm, by omega, by omega, HR3.out, HG3.out⟩
  · have hv' : (v == 0) = false := by simpa using hv
    go_wp2_with fail
    refine (draw91P_any R (p + 1) _ hr1 (by omega)).mono ?_
    rintro e w2 ⟨A2, k, c2, xs, p', rfl, hown, hk, hrng, hp0, hp1, hr2, hg2⟩
    have hs2 := hg2.size
    have HI2 := hide hown.ints
    have hlen := hown.1
    have HG2 := hide (grown_trans' HG1.out hg2)
    have HR2 := hide hr2
    clear hown hg2 hr1 hr2
    go_wp2_with fail
    refine (specPutP A2 k c2 _ xs _ HI2.out (Nat.le_refl _) (by omega)).mono ?_
    rintro e w3 ⟨A3, m, c3, rfl, ho3, hb3⟩
    have hm : m ≤ 100 := by
      have h1 := ho3.1
      split at h1
      · omega
      · simp at h1; omega
    have HG3 := hide (grown_own HG2.out (grown_of_below hb3 none) (by simp))
    have HR3 := hide (HR2.out.below hb3)
    have HO3 := hide (ho3.mono (show w.heap.size ≤ w2.heap.size by omega))
    clear hb3 ho3
    go_wp2
    go_ret2
    exact ⟨_, _, _, _, _, p', rfl, HO3.out, hm, by omega, by omega, HR3.out, HG3.out⟩

theorem cell_facts' {w : World} {g : Nat} {t : TypeId} {a b c : Value} (h : Blk w g t #[a, b, c]) : w.cell? ⟨g, 0, none⟩ = some a ∧ w.cell? ⟨g, 1, none⟩ = some b ∧ w.cell? ⟨g, 2, none⟩ = some c :=
  ⟨by rw [h.cell]; rfl, by rw [h.cell]; rfl, by rw [h.cell]; rfl⟩

set_option maxHeartbeats 1600000 in
theorem zone91_any (R : Nat) (p : Int) (w : World) (hr : Rd w R p) (hp : p < 29000) :
    Calls Try.prog 25 #[.pointer (some ⟨R, 0, none⟩)] w fun e w' => ∃ (z p' : Int), e = .returned (.int .i64 z) ∧ -1 ≤ z ∧ z ≤ 5 ∧ p ≤ p' ∧ p' ≤ p + 2 ∧ Rd w' R p' ∧ w.grownBy w' (some R) := by
  have hRw := hr.lt
  go_enter Try.func25, Try.ntmps25
  go_wp2_with fail
  refine (pick_any R p 16 _ hr (by omega) (by omega)).mono ?_
  rintro e w1 ⟨v, rfl, hv0, hv1, hr1, hg1⟩
  have hs1 := hg1.size
  by_cases hv : v = 0
  · subst hv
    have HB := hide (Blk.new w1 3 #[.int .i64 (-1), .int .i64 4, .int .i64 5])
    have HG2 := hide (grown_alloc hg1 (.cells #[.int .i64 (-1), .int .i64 4, .int .i64 5] 3))
    have hR1 := hr1.lt
    have hr2 := hr1.alloc (.cells #[.int .i64 (-1), .int .i64 4, .int .i64 5] 3)
    clear hg1 hr hr1
    go_wp2_with fail
    refine (pick_any R (p + 1) 3 _ hr2 (by omega) (by omega)).mono ?_
    rintro e w2 ⟨u, rfl, hu0, hu1, hr3, hg3⟩
    have HB3 := hide (HB.out.grown hg3 (by simp; omega))
    have HG3 := hide (grown_trans' HG2.out hg3)
    obtain ⟨hc0, hc1, hc2⟩ := cell_facts' HB3.out
    clear hr2 hg3
    have hu : u = 0 ∨ u = 1 ∨ u = 2 := by omega
    rcases hu with rfl | rfl | rfl
    all_goals
      go_wp2
      go_ret
      exact ⟨_, _, rfl, by omega, by omega, by omega, by omega, hr3, HG3.out⟩
  · have hv' : (v == 0) = false := by simpa using hv
    have HG1 := hide hg1
    clear hg1 hr
    go_wp2_with fail
    refine (pick_any R (p + 1) 4 _ hr1 (by omega) (by omega)).mono ?_
    rintro e w2 ⟨u, rfl, hu0, hu1, hr2, hg2⟩
    have HG2 := hide (grown_trans' HG1.out hg2)
    clear hg2
    go_wp2
    go_ret
    exact ⟨_, _, rfl, by omega, by omega, by omega, by omega, hr2, HG2.out⟩
end Go.Proofs.Ytcocboigjfjnfab

/- FrameG -/
namespace Go.Proofs.Ytcocboigjfjnfab
open Go.RowKit
set_option linter.unusedVariables false
set_option maxRecDepth 100000

theorem Ints.some_ {w : World} {B n : Nat} {A : Option Addr} {xs : List Int} (h : Ints w B A n xs) (hn : 0 < n) : A ≠ none := by
  obtain ⟨ad, e, _⟩ := h.2 hn
  rw [e]
  exact Option.some_ne_none _

/-- are there enough words for a frame at p? -/
def enough (xs : List Int) (n : Nat) (p : Int) : Prop := 0 ≤ p ∧ p + 3 ≤ n ∧ 0 ≤ xs.getD (p.toNat + 2) 0 ∧ p + 4 + xs.getD (p.toNat + 2) 0 ≤ n

end Go.Proofs.Ytcocboigjfjnfab

/- FrameI -/
namespace Go.Proofs.Ytcocboigjfjnfab
open Go.RowKit
set_option linter.unusedVariables false
set_option maxRecDepth 100000

def bodyAt (xs : List Int) (p : Int) : List Int := cutW xs (p.toNat + 3) (xs.getD (p.toNat + 2) 0).toNat
/-- a valid frame lies at p -/
def goodF (xs : List Int) (n : Nat) (p : Int) : Prop :=
  enough xs n p ∧ validF (xs.getD p.toNat 0) (xs.getD (p.toNat + 1) 0) (bodyAt xs p) = true ∧
    xs.getD (p.toNat + 3 + (xs.getD (p.toNat + 2) 0).toNat) 0 = sumFrom 7 (cutW xs p.toNat (3 + (xs.getD (p.toNat + 2) 0).toNat))

def noFrame : Value := .tuple #[.agg #[.int .i64 0, .int .i64 0, .slice none 0 0], .int .i64 0, .bool false]

end Go.Proofs.Ytcocboigjfjnfab

/- FPut -/
namespace Go.Proofs.Ytcocboigjfjnfab
open Go.RowKit
set_option linter.unusedVariables false
set_option maxRecDepth 100000

theorem fns_setF (qs : List Fq) (k : Nat) (q : Fq) : fns (qs.set k q) = (fns qs).set k q.fn := by unfold fns; rw [List.map_set]
theorem set_sameF {l : List Value} {i : Nat} {v : Value} (h : l[i]? = some v) : l.set i v = l := by
  apply List.ext_getElem?
  intro j
  rw [List.getElem?_set]
  split
  · next e =>
    subst e
    split
    · exact h.symm
    · next h2 => exact absurd ((List.getElem?_eq_some_iff.1 h).1) h2
  · rfl

theorem OwnF.put {w w3 : World} {base g n c k : Nat} {qs : List Fq} {q : Fq} {row : Option Nat} (h : OwnF w base (some ⟨g, 0, none⟩) n c qs) (hk : qs[k]? = some q) (hg : w.grownBy w3 row)
    (hrow : ∀ b, row = some b → b ≠ g ∧ ∀ (i : Nat) (r : Fq), qs[i]? = some r → i ≠ k → r.sl.ownBlock ≠ some b) (q' : Fq) (j : Nat) (v : Value) (hj : j < 5) (hv : q'.cells = q.cells.set j v)
    (hq' : Own w3 base q'.addr q'.vals.length q'.cap q'.vals) (hsep : ∀ (i : Nat) (r : Fq), qs[i]? = some r → i ≠ k → ∀ b, r.sl.ownBlock = some b → q'.sl.ownBlock ≠ some b) :
    OwnF (w3.setCell ⟨g, k * 5 + j, none⟩ v) base (some ⟨g, 0, none⟩) n c (qs.set k q') ∧ w3.grownBy (w3.setCell ⟨g, k * 5 + j, none⟩ v) (some g) := by
  have hob : (Value.slice (some (⟨g, 0, none⟩ : Addr)) n c).ownBlock = some g := rfl
  have hr := h.row.kept hg (by
    rcases row with _ | b
    · exact .inr (by rw [hob]; simp)
    · exact .inr (by rw [hob]; intro e; injection e with e; exact (hrow b rfl).1 e.symm))
  have hst := hr.stored (k * 5 + j) v
  rw [flatF_set hk j v hj hv] at hst
  refine ⟨⟨by rw [List.length_set]; exact h.len, hst.1, fun i r hi => ?_, fun i i' r r' hi hi' hii b hb => ?_⟩, hst.2⟩
  · rw [List.getElem?_set] at hi
    split at hi
    · split at hi
      · injection hi with hi
        subst hi
        exact hq'.kept hst.2 (fun b hb => by injection hb with hb; subst hb; exact rows_neF hr hq'.2 (by decide) hob)
      · cases hi
    · next hne =>
      have ho := (h.own i r hi).kept hg (fun b hb => (hrow b hb).2 i r hi (fun e => hne e.symm))
      exact ho.kept hst.2 (fun b hb => by injection hb with hb; subst hb; exact rows_neF hr ho.2 (by decide) hob)
  · rw [List.getElem?_set] at hi hi'
    split at hi
    · next e1 =>
      split at hi
      · injection hi with hi
        subst hi
        split at hi'
        · next e2 => exact absurd (e1.symm.trans e2) hii
        · next e2 => exact fun e => hsep i' r' hi' (fun e3 => e2 e3.symm) b e hb
      · cases hi
    · next e1 =>
      split at hi'
      · split at hi'
        · injection hi' with hi'
          subst hi'
          exact hsep i r hi (fun e3 => e1 e3.symm) b hb
        · cases hi'
      · exact h.sep i i' r r' hi hi' hii b hb

/-- .. where its values stay -/
theorem OwnF.put_in {w : World} {base g n c k : Nat} {qs : List Fq} {q : Fq} (h : OwnF w base (some ⟨g, 0, none⟩) n c qs) (hk : qs[k]? = some q) (q' : Fq) (j : Nat) (v : Value) (hj : j < 5) (hv : q'.cells = q.cells.set j v)
    (h1 : q'.vals = q.vals) (h2 : q'.addr = q.addr) (h3 : q'.cap = q.cap) :
    OwnF (w.setCell ⟨g, k * 5 + j, none⟩ v) base (some ⟨g, 0, none⟩) n c (qs.set k q') ∧ w.grownBy (w.setCell ⟨g, k * 5 + j, none⟩ v) (some g) := by
  refine h.put hk (World.grownBy.refl w none) (by simp) q' j v hj hv ?_ ?_
  · rw [h1, h2, h3]; exact h.own k q hk
  · intro i r hi hik b hb
    have e : q'.sl = q.sl := by unfold Fq.sl; rw [h1, h2, h3]
    rw [e]
    exact h.sep i k r q hi hk hik b hb

end Go.Proofs.Ytcocboigjfjnfab

/- SmM -/
namespace Go.Proofs.Ytcocboigjfjnfab
open Go.RowKit
set_option linter.unusedVariables false
set_option maxRecDepth 100000

def okFn (ms : List Wh) (l : Int) (f : Fn) : Bool := apOk ms f.2.2.1 f.2.2.2.1 f.2.2.2.2 f.1 f.2.1 && decide (l < f.2.2.2.1)
def apFn (ms : List Wh) (f : Fn) : List Wh := apM ms f.2.2.1 f.2.2.2.1 f.2.2.2.2 f.1 f.2.1
def smF : List Wh → Int → List Fn → Option (List Wh)
  | ms, _, [] => some ms
  | ms, l, f :: fs => if okFn ms l f then smF (apFn ms f) f.2.2.2.1 fs else none
def smap (fs : List Fn) : Option (List Wh) := smF new12 0 fs
theorem okFn_iff {ms : List Wh} {l : Int} {f : Fn} : okFn ms l f = true ↔ apOk ms f.2.2.1 f.2.2.2.1 f.2.2.2.2 f.1 f.2.1 = true ∧ l < f.2.2.2.1 := by unfold okFn; rw [Bool.and_eq_true, decide_eq_true_iff]
theorem apFn_valid {ms : List Wh} {l : Int} {f : Fn} (h : okFn ms l f = true) : mpV (apFn ms f) = true := apM_valid (okFn_iff.1 h).1
theorem apFn_len {ms : List Wh} {l : Int} {f : Fn} (h : okFn ms l f = true) : (apFn ms f).length = 12 := apM_len (okFn_iff.1 h).1
/-- a frame that is applied has a number above 0 -/
theorem ap_seq {ms : List Wh} {kd sq z a : Int} {xs : List Int} (h : apOk ms kd sq xs z a = true) : 0 < sq := by
  unfold apOk at h
  rw [Bool.and_eq_true, Bool.and_eq_true] at h
  have := (validF_iff.1 h.2.1).2.1.1
  omega
theorem smF_yes {ms : List Wh} {l : Int} {f : Fn} {fs : List Fn} (h : okFn ms l f = true) : smF ms l (f :: fs) = smF (apFn ms f) f.2.2.2.1 fs := by rw [smF, if_pos h]
theorem smF_no {ms : List Wh} {l : Int} {f : Fn} {fs : List Fn} (h : ¬ okFn ms l f = true) : smF ms l (f :: fs) = none := by rw [smF, if_neg h]
/-- the first frames can be applied too -/
theorem smF_take (fs : List Fn) : ∀ (k : Nat) (ms : List Wh) (l : Int) (rs : List Wh), smF ms l fs = some rs → mpV ms = true → ∃ xs, smF ms l (fs.take k) = some xs ∧ mpV xs = true := by
  induction fs with
  | nil => intro k ms l rs _ hv; exact ⟨ms, by simp [smF], hv⟩
  | cons f fs ih =>
    intro k ms l rs h hv
    rcases k with _ | k
    · exact ⟨ms, by simp [smF], hv⟩
    · by_cases hok : okFn ms l f = true
      · rw [smF_yes hok] at h
        obtain ⟨xs, h1, h2⟩ := ih k _ _ rs h (apFn_valid hok)
        exact ⟨xs, by rw [List.take_succ_cons, smF_yes hok]; exact h1, h2⟩
      · rw [smF_no hok] at h; cases h
theorem smap_take {fs : List Fn} {rs : List Wh} (h : smap fs = some rs) (k : Nat) : ∃ xs, smap (fs.take k) = some xs ∧ mpV xs = true := smF_take fs k new12 0 rs h new12_valid
theorem smap_valid {fs : List Fn} {rs : List Wh} (h : smap fs = some rs) : mpV rs = true := by
  obtain ⟨xs, h1, h2⟩ := smap_take h fs.length
  rw [List.take_length, h] at h1
  injection h1 with h1
  rw [h1]; exact h2
theorem smap_len {fs : List Fn} {rs : List Wh} (h : smap fs = some rs) : rs.length = 12 := (mpV_iff.1 (smap_valid h)).2
/-- one frame more -/
theorem smF_snoc (fs : List Fn) (f : Fn) : ∀ (ms : List Wh) (l : Int), smF ms l (fs ++ [f]) = match smF ms l fs with
    | some xs => if okFn xs ((fs.getLast?.map fun g => g.2.2.2.1).getD l) f then some (apFn xs f) else none
    | none => none := by
  induction fs with
  | nil =>
    intro ms l
    show smF ms l [f] = _
    by_cases h : okFn ms l f = true
    · rw [smF_yes h]; simp [smF, h]
    · rw [smF_no h]; simp [smF, h]
  | cons g fs ih =>
    intro ms l
    by_cases h : okFn ms l g = true
    · rw [List.cons_append, smF_yes h, smF_yes h, ih]
      rcases fs with _ | ⟨g2, fs⟩
      · rfl
      · simp [List.getLast?_cons]
    · rw [List.cons_append, smF_no h, smF_no h]
theorem smap_last {fs : List Fn} {f : Fn} {rs : List Wh} (h : smap (fs ++ [f]) = some rs) : ∃ ms, smap fs = some ms ∧ apOk ms f.2.2.1 f.2.2.2.1 f.2.2.2.2 f.1 f.2.1 = true ∧ apFn ms f = rs := by
  unfold smap at h ⊢
  rw [smF_snoc] at h
  rcases hs : smF new12 0 fs with _ | ms
  · rw [hs] at h; cases h
  · rw [hs] at h
    simp only at h
    split at h
    · rename_i hok
      injection h with h
      exact ⟨ms, rfl, (okFn_iff.1 hok).1, h⟩
    · cases h
/-- the same frame twice -/
theorem smap_twice (fs : List Fn) (f : Fn) (h : fs.getLast? = some f) : smap (fs ++ [f]) = none := by
  unfold smap
  rw [smF_snoc, h]
  rcases smF new12 0 fs with _ | ms
  · rfl
  · simp only [Option.map_some, Option.getD_some]
    rw [if_neg]
    intro h2
    have := (okFn_iff.1 h2).2
    omega
theorem tier_new : (tierM new12 0).length = 12 := by decide
/-- what ScanMap hands back -/
def SmPost (w : World) (r : Option (List Wh)) (e : Ending) (w' : World) : Prop :=
  ∃ A2 m2 c2, e = .returned (.tuple #[.slice A2 m2 c2, .bool r.isSome]) ∧ MpR w' w.heap.size A2 m2 c2 (r.getD []) ∧ Below w.heap.size w w'
end Go.Proofs.Ytcocboigjfjnfab

/- SpecM2 -/
namespace Go.Proofs.Ytcocboigjfjnfab
open Go.RowKit
set_option linter.unusedVariables false
set_option maxRecDepth 100000

theorem allV_drop {ms : List Wh} {k : Nat} {x : Wh} (h : ms[k]? = some x) : (ms.drop k).all whV = (whV x && (ms.drop (k + 1)).all whV) := by
  have hl : k < ms.length := (List.getElem?_eq_some_iff.1 h).1
  have e2 : ms[k] = x := (List.getElem?_eq_some_iff.1 h).2
  rw [List.drop_eq_getElem_cons hl, e2, List.all_cons]

set_option maxHeartbeats 3200000 in
theorem specMV (A : Option Addr) (n c B : Nat) (ms : List Wh) (w : World) (hr : MpI w B A n ms) (hB : B ≤ w.heap.size) (hn : n ≤ 1000000000) :
    Calls Try.prog 49 #[.slice A n c] w fun e w' => e = .returned (.bool (mpV ms)) ∧ Below w.heap.size w w' := by
  have HR := hide hr
  have HL := hide hr.1
  clear hr
  go_enter Try.func49, Try.ntmps49
  go_wp2
  go_loopw [3] (fun i wr => ∃ (k : Nat), k ≤ n ∧ i = .int .i64 k ∧ Hid (ms.all whV = (ms.drop k).all whV) ∧ Hid (Below w.heap.size w wr)) (fun i _ => n - (intOf i).toNat)
  case atStart => exact ⟨0, Nat.zero_le _, rfl, rfl, Below.refl _ _⟩
  case round =>
    obtain ⟨k, hk, rfl, HA, HB⟩ := hrel
    by_cases hlt : k < n
    · obtain ⟨x, hx⟩ : ∃ x, ms[k]? = some x := ⟨_, List.getElem?_eq_getElem (by rw [HL.out]; exact hlt)⟩
      obtain ⟨ad, p, rfl, hp, hb, h0, h1, h2, h3, h4⟩ := (HR.out.below HB.out hB).at_ hx
      have HX := hide (HA.out.trans (allV_drop hx))
      clear HA hx
      obtain ⟨t, z, a, i, y⟩ := x
      dsimp only at h0 h1 h2 h3 h4
      have hsz := HB.out.size
      rcases hv : whV (t, z, a, i, y) with _ | _
      · have HC := hide (hv ▸ where_any t z a i y wr)
        rw [hv] at HX
        clear hv
        go_wp2_with fail
        refine HC.out.mono ?_
        rintro e w1 ⟨rfl, hb1⟩
        have HB1 := hide (HB.out.trans (hb1.mono hsz))
        clear hb1
        go_wp2
        go_ret
        exact ⟨ret_bool (by unfold mpV; rw [HX.out]; rfl), HB1.out⟩
      · have HC := hide (hv ▸ where_any t z a i y wr)
        rw [hv, Bool.true_and] at HX
        clear hv
        go_wp2_with fail
        refine HC.out.mono ?_
        rintro e w1 ⟨rfl, hb1⟩
        have HB1 := hide (HB.out.trans (hb1.mono hsz))
        clear hb1
        go_wp2
        go_roundw
        case rel => exact ⟨k + 1, by omega, by go_num, HX.out, HB1.out⟩
        case measure => simp [intOf]; omega
    · obtain rfl : k = n := by omega
      have HD : Hid (mpV ms = ((k : Int) == 12)) := by
        show _ = _
        unfold mpV
        rw [HA.out, List.drop_of_length_le (by rw [HL.out]; exact Nat.le_refl _), List.all_nil, Bool.true_and, HL.out]
        by_cases h : k = 12
        · subst h; rfl
        · rw [decide_eq_false h]; symm; simp; omega
      go_wp2
      go_ret
      exact ⟨ret_bool HD.out.symm, HB.out⟩

theorem one_int (w : World) (k : Int) : Ints (w.alloc (.cells #[.int .i64 k] 3)) (w.heap.size + 1) (some ⟨w.heap.size, 0, none⟩) 1 [k] := by
  refine ⟨rfl, fun _ => ⟨_, rfl, by simp, fun j hj => ?_⟩⟩
  rw [add_plain']
  have h := (Blk.new w 3 #[.int .i64 k]).cell j
  rw [h]
  rcases j with _ | j
  · rfl
  · omega
theorem blkP_le (p : Int → Bool) : ∀ k : Nat, (blkP p k).length ≤ k := by
  intro k
  induction k with
  | zero => exact Nat.le_refl _
  | succ k ih =>
    rw [blkP_succ]
    split
    · simp; omega
    · omega

/-- what a list of blocks or of objects answers -/
def ListPost (w : World) (ys : List Int) (e : Ending) (w' : World) : Prop :=
  ∃ A2 m c2, e = .returned (.slice A2 m c2) ∧ Own w' w.heap.size A2 m c2 ys ∧ Below w.heap.size w w'
end Go.Proofs.Ytcocboigjfjnfab

/- ImpM1 -/
namespace Go.Proofs.Ytcocboigjfjnfab
open Go.RowKit
set_option linter.unusedVariables false
set_option maxRecDepth 100000

set_option maxHeartbeats 800000 in
theorem zoneHas_any (z a s : Int) (w : World) (hs : 0 ≤ s ∧ s ≤ 1000) :
    Calls Try.prog 29 #[.int .i64 z, .int .i64 a, .int .i64 s] w fun e w' => e = .returned (.bool (inB z 0 3 && inB a 0 (64 - s))) ∧ w = w' := by
  obtain ⟨s0, s1⟩ := hs
  have w1 : IntKind.i64.wrap (64 - s) = 64 - s := IntWalk.i64_in _ (by omega)
  by_cases z0 : z < 0
  · have H := hide (show (inB z 0 3 && inB a 0 (64 - s)) = false by rw [show inB z 0 3 = false by simp [inB]; omega]; rfl)
    go_enter Try.func29, Try.ntmps29
    go_wp2
    go_ret
    exact ⟨ret_bool H.out.symm, rfl⟩
  by_cases z1 : 4 ≤ z
  · have H := hide (show (inB z 0 3 && inB a 0 (64 - s)) = false by rw [show inB z 0 3 = false by simp [inB]; omega]; rfl)
    have z1' : decide (z ≥ 4) = true := by simpa using z1
    go_enter Try.func29, Try.ntmps29
    go_wp2
    go_ret
    exact ⟨ret_bool H.out.symm, rfl⟩
  have z1' : decide (z ≥ 4) = false := by simpa using z1
  by_cases a0 : 0 ≤ a
  · have H := hide (show (inB z 0 3 && inB a 0 (64 - s)) = decide (a ≤ 64 - s) by rw [show inB z 0 3 = true by simp [inB]; omega]; unfold inB; rw [decide_eq_true a0]; rfl)
    go_enter Try.func29, Try.ntmps29
    go_wp2
    all_goals
      go_ret
      exact ⟨ret_bool (by rw [H.out] <;> first | rfl | simp_all), rfl⟩
  · have a0' : decide (a ≥ 0) = false := by simpa using a0
    have H := hide (show (inB z 0 3 && inB a 0 (64 - s)) = false by rw [show inB a 0 (64 - s) = false by simp [inB]; omega]; simp)
    go_enter Try.func29, Try.ntmps29
    go_wp2
    go_ret
    exact ⟨ret_bool H.out.symm, rfl⟩
theorem zoneHas_1 (z a : Int) (w : World) (v : Bool) (h : (inB z 0 3 && inB a 0 63) = v) :
    Calls Try.prog 29 #[.int .i64 z, .int .i64 a, .int .i64 1] w fun e w' => e = .returned (.bool v) ∧ w = w' := h ▸ zoneHas_any z a 1 w (by omega)

set_option maxHeartbeats 3200000 in
theorem wValid_any (t z a i x : Int) (w : World) :
    Calls Try.prog 34 #[.agg #[.int .i64 t, .int .i64 z, .int .i64 a, .int .i64 i, .int .i64 x]] w fun e w' => e = .returned (.bool (whV (t, z, a, i, x))) ∧ Below w.heap.size w w' := by
  by_cases t0 : t = 0
  · subst t0
    have HV := hide (show whV (0, z, a, i, x) = decide ((0, z, a, i, x) = wh0) from rfl)
    go_enter Try.func34, Try.ntmps34
    go_wp2
    all_goals
      go_ret
      exact ⟨ret_bool (by rw [HV.out]; simp_all [wh0]), below_new w _⟩
  by_cases t1 : t = 1
  · subst t1
    have HV := hide (show whV (1, z, a, i, x) = ((inB z 0 3 && inB a 0 63) && (decide (i = 0) && decide (x = 0))) by rw [Bool.and_assoc]; rfl)
    clear t0
    rcases h1 : (inB z 0 3 && inB a 0 63) with _ | _
    · have H1 := hide h1
      clear h1
      go_enter Try.func34, Try.ntmps34
      go_wp2_with fail
      refine (zoneHas_1 _ _ _ _ H1.out).mono ?_
      rintro e w' ⟨rfl, rfl⟩
      go_wp2
      go_ret
      exact ⟨ret_bool (by rw [HV.out, H1.out]; rfl), below_new w _⟩
    · have H1 := hide h1
      clear h1
      go_enter Try.func34, Try.ntmps34
      go_wp2_with fail
      refine (zoneHas_1 _ _ _ _ H1.out).mono ?_
      rintro e w' ⟨rfl, rfl⟩
      go_wp2
      all_goals
        go_ret
        exact ⟨ret_bool (by rw [HV.out, H1.out]; by_cases hi : i = 0 <;> by_cases hx : x = 0 <;> simp_all), below_new w _⟩
  by_cases t2 : t = 2
  · subst t2
    have HV := hide (show whV (2, z, a, i, x) = ((inB z 0 3 && inB a 0 63) && (inB i 1 999 && inB x 0 5)) by rw [Bool.and_assoc]; rfl)
    clear t0 t1
    rcases h1 : (inB z 0 3 && inB a 0 63) with _ | _
    · have H1 := hide h1
      clear h1
      go_enter Try.func34, Try.ntmps34
      go_wp2_with fail
      refine (zoneHas_1 _ _ _ _ H1.out).mono ?_
      rintro e w' ⟨rfl, rfl⟩
      go_wp2
      go_ret
      exact ⟨ret_bool (by rw [HV.out, H1.out]; rfl), below_new w _⟩
    have H1 := hide h1
    clear h1
    by_cases i0 : 1 ≤ i
    · have i0' : decide (i ≥ 1) = true := by simpa using i0
      by_cases i1 : i ≤ 999
      · have HI := hide (show (inB i 1 999 && inB x 0 5) = inB x 0 5 by rw [show inB i 1 999 = true by simp [inB]; omega]; rfl)
        by_cases x0 : 0 ≤ x
        · have x0' : decide (x ≥ 0) = true := by simpa using x0
          have HX := hide (show inB x 0 5 = decide (x < 6) by unfold inB; rw [decide_eq_true x0, Bool.true_and, decide_eq_decide]; omega)
          go_enter Try.func34, Try.ntmps34
          go_wp2_with fail
          refine (zoneHas_1 _ _ _ _ H1.out).mono ?_
          rintro e w' ⟨rfl, rfl⟩
          go_wp2
          go_ret
          exact ⟨ret_bool (by rw [HV.out, H1.out, HI.out, HX.out]; first | rfl | simp), below_new w _⟩
        · have x0' : decide (x ≥ 0) = false := by simpa using x0
          have HX := hide (show inB x 0 5 = false by simp [inB]; omega)
          go_enter Try.func34, Try.ntmps34
          go_wp2_with fail
          refine (zoneHas_1 _ _ _ _ H1.out).mono ?_
          rintro e w' ⟨rfl, rfl⟩
          go_wp2
          go_ret
          exact ⟨ret_bool (by rw [HV.out, H1.out, HI.out, HX.out]; first | rfl | simp), below_new w _⟩
      · have i1' : decide (i ≤ 999) = false := by simpa using i1
        have HI := hide (show (inB i 1 999 && inB x 0 5) = false by rw [show inB i 1 999 = false by simp [inB]; omega]; rfl)
        go_enter Try.func34, Try.ntmps34
        go_wp2_with fail
        refine (zoneHas_1 _ _ _ _ H1.out).mono ?_
        rintro e w' ⟨rfl, rfl⟩
        go_wp2
        go_ret
        exact ⟨ret_bool (by rw [HV.out, H1.out, HI.out]; first | rfl | simp), below_new w _⟩
    · have i0' : decide (i ≥ 1) = false := by simpa using i0
      have HI := hide (show (inB i 1 999 && inB x 0 5) = false by rw [show inB i 1 999 = false by simp [inB]; omega]; rfl)
      go_enter Try.func34, Try.ntmps34
      go_wp2_with fail
      refine (zoneHas_1 _ _ _ _ H1.out).mono ?_
      rintro e w' ⟨rfl, rfl⟩
      go_wp2
      go_ret
      exact ⟨ret_bool (by rw [HV.out, H1.out, HI.out]; first | rfl | simp), below_new w _⟩
  · have HV := hide (show whV (t, z, a, i, x) = false by unfold whV; rw [if_neg t0, if_neg t1, if_neg t2])
    have g0 : (t == 0) = false := by simpa using t0
    have g1 : (t == 1) = false := by simpa using t1
    have g2 : (t == 2) = false := by simpa using t2
    go_enter Try.func34, Try.ntmps34
    go_wp2
    go_ret
    exact ⟨ret_bool HV.out.symm, below_new w _⟩

set_option maxHeartbeats 3200000 in
theorem implMV (A : Option Addr) (n c B : Nat) (ms : List Wh) (w : World) (hr : MpI w B A n ms) (hB : B ≤ w.heap.size) (hn : n ≤ 1000000000) :
    Calls Try.prog 13 #[.slice A n c] w fun e w' => e = .returned (.bool (mpV ms)) ∧ Below w.heap.size w w' := by
  have HR := hide hr
  have HL := hide hr.1
  clear hr
  by_cases hn12 : n = 12
  · subst hn12
    go_enter Try.func13, Try.ntmps13
    go_wp2
    go_loopw [10] (fun i wr => ∃ (k : Nat), k ≤ 12 ∧ i = .int .i64 k ∧ Hid (ms.all whV = (ms.drop k).all whV) ∧ Hid (Below w.heap.size w wr)) (fun i _ => 12 - (intOf i).toNat)
    case atStart => exact ⟨0, Nat.zero_le _, rfl, rfl, Below.refl _ _⟩
    case round =>
      obtain ⟨k, hk, rfl, HA, HB⟩ := hrel
      by_cases hlt : k < 12
      · obtain ⟨x, hx⟩ : ∃ x, ms[k]? = some x := ⟨_, List.getElem?_eq_getElem (by rw [HL.out]; exact hlt)⟩
        obtain ⟨ad, p, rfl, hp, hb, h0, h1, h2, h3, h4⟩ := (HR.out.below HB.out hB).at_ hx
        have HX := hide (HA.out.trans (allV_drop hx))
        clear HA hx
        obtain ⟨t, z, a, i, y⟩ := x
        dsimp only at h0 h1 h2 h3 h4
        have hsz := HB.out.size
        have k0 : (0 : Int) ≤ (k : Int) := by omega
        have k1 : (k : Int) < 12 := by omega
        have HBA := hide (HB.out.alloc hsz (.cells #[.int .i64 t, .int .i64 z, .int .i64 a, .int .i64 i, .int .i64 y] 55))
        rcases hv : whV (t, z, a, i, y) with _ | _
        · have HC := hide (fun W => hv ▸ wValid_any t z a i y W)
          rw [hv] at HX
          clear hv
          go_wp2_with fail
          refine (HC.out _).mono ?_
          rintro e w1 ⟨rfl, hb1⟩
          have HB1 := hide (HBA.out.trans (hb1.mono HBA.out.size))
          clear hb1
          go_wp2
          go_ret
          exact ⟨ret_bool (by unfold mpV; rw [HX.out]; rfl), HB1.out⟩
        · have HC := hide (fun W => hv ▸ wValid_any t z a i y W)
          rw [hv, Bool.true_and] at HX
          clear hv
          go_wp2_with fail
          refine (HC.out _).mono ?_
          rintro e w1 ⟨rfl, hb1⟩
          have HB1 := hide (HBA.out.trans (hb1.mono HBA.out.size))
          clear hb1
          go_wp2
          go_roundw
          case rel => exact ⟨k + 1, by omega, by go_num, HX.out, HB1.out⟩
          case measure => simp [intOf]; omega
      · obtain rfl : k = 12 := by omega
        have HD : Hid (mpV ms = true) := by
          show _ = _
          unfold mpV
          rw [HA.out, List.drop_of_length_le (by rw [HL.out]; exact Nat.le_refl _), List.all_nil, Bool.true_and, HL.out]
          rfl
        go_wp2
        go_ret
        exact ⟨ret_bool HD.out.symm, HB.out⟩
  · have HD := hide (show mpV ms = false by unfold mpV; rw [HL.out, decide_eq_false hn12, Bool.and_false])
    have hne : ((n : Int) != 12) = true := by simp; omega
    go_enter Try.func13, Try.ntmps13
    go_wp2
    go_ret
    exact ⟨ret_bool HD.out.symm, Below.refl _ _⟩
end Go.Proofs.Ytcocboigjfjnfab

/- IterP -/
namespace Go.Proofs.Ytcocboigjfjnfab
open Go.RowKit Go.Shelf
set_option linter.unusedVariables false
set_option maxRecDepth 100000

attribute [local go_sem] Oper.semAt_some

set_option maxHeartbeats 400000 in
theorem pairBlocks_any (A : Option Addr) (n c : Nat) (w : World) :
    Calls Try.prog 93 #[.slice A n c] w fun e w' => e = .returned (.func (.func 97) #[] #[.pointer (some ⟨w.heap.size, 0, none⟩)]) ∧ w' = w.alloc (.cells #[.slice A n c] 88) := by
  go_enter Try.func93, Try.ntmps93
  go_wp2
  go_ret
  exact ⟨rfl, rfl⟩

set_option maxHeartbeats 4000000 in
theorem pairBlocks_stops (A : Option Addr) (n c m Bs n₀ : Nat) (xs : List Int) (w : World) (hm : 1 ≤ m) (hBs : Bs < w.heap.size) (hn₀ : n₀ ≤ w.heap.size) (hc : w.cell? ⟨Bs, 0, none⟩ = some (.slice A n c)) (hI : Ints w n₀ A (n * 2) xs) (hn : n ≤ 1000000000) :
    SeqStopsK Fence.wide m Try.prog 97 #[.pointer (some ⟨Bs, 0, none⟩)] (fun x : Int => #[Value.int .i64 x]) (Below n₀) (fun ys => ys = blocksOf 2 xs n) (fun pre => pre <+: blocksOf 2 xs n) n w := fun l J Jx W hW hJ hJx hY h0 => by
  have hc' := (hW.cell (p := ⟨Bs, 0, none⟩) hBs).trans hc
  have HI := hide (hI.below (hW.mono hn₀) (Nat.le_refl _))
  have hn1 : n₀ ≤ W.heap.size := Nat.le_trans hn₀ hW.size
  clear hI hc
  refine callsIn_of_wp Try.func97 rfl trivial ?_ rfl
  simp only [Try.ntmps97, List.size_toArray, List.length_cons, List.length_nil, Nat.reduceAdd, Nat.reduceSub, Array.replicate_succ, Array.replicate_zero, List.push_toArray, List.append_toArray, List.nil_append, List.cons_append]
  gi_wp2
  gi_loopw [7] (fun i wr => ∃ k : Nat, k ≤ n ∧ i = .int .i64 k ∧ J (blocksOf 2 xs k) wr ∧ Below n₀ W wr) (fun i _ => n - (intOf i).toNat)
  case atStart => exact ⟨0, Nat.zero_le _, rfl, h0, Below.refl _ _⟩
  case round =>
    obtain ⟨k, hk, rfl, hJs, hB⟩ := hrel
    by_cases hlt : k < n
    · obtain ⟨ad, q, rfl, hq, hb, hc0, hc1⟩ := ints_at2 (HI.out.below hB (Nat.le_refl _)) hlt
      obtain ⟨x0, hx0⟩ : ∃ x, xs.getD (k * 2) 0 = x := ⟨_, rfl⟩
      rw [hx0] at hc0
      obtain ⟨x1, hx1⟩ : ∃ x, xs.getD (k * 2 + 1) 0 = x := ⟨_, rfl⟩
      rw [hx1] at hc1
      have hJa := hJ _ wr (wr.alloc (.cells #[.int .i64 x0, .int .i64 x1] 99)) none hJs (World.grownBy_alloc _ _ _) (by simp)
      obtain ⟨fn, tmps, assign, body, hy, hR⟩ := hY _ x0 _ hJa (by rw [blocksOf_length]; exact hlt)
      have HBA := hide (hB.alloc (Nat.le_trans hn1 hB.size) (.cells #[.int .i64 x0, .int .i64 x1] 99))
      have HX := hide hx0
      clear hx0 hx1 hB hJs
      gi_wp2
      refine hR.mono ?_
      rintro e W3 (⟨rfl, hJ3, hk3⟩ | ⟨rfl, hJx3⟩)
      · gi_wp2
        go_roundw
        case rel => exact ⟨k + 1, by omega, by go_num, by rw [blocksOf_succ, HX.out]; exact hJ3, HBA.out.trans hk3⟩
        case measure => simp [intOf]; omega
      · gi_wp2
        refine bodyPost_ret (results_none rfl _ _ _) rfl ?_
        exact ⟨⟨_, rfl⟩, .inr ⟨_, by rw [← HX.out, ← blocksOf_succ]; exact blocksOf_prefix _ _ (by omega), hJx3⟩⟩
    · obtain rfl : k = n := by omega
      gi_wp2
      go_end0
      exact ⟨⟨_, rfl⟩, .inl ⟨_, rfl, hJs⟩⟩
end Go.Proofs.Ytcocboigjfjnfab

/- ImplP -/
namespace Go.Proofs.Ytcocboigjfjnfab
open Go.RowKit Go.Shelf
set_option linter.unusedVariables false
set_option maxRecDepth 100000

set_option maxHeartbeats 3200000 in
theorem implValidP (A : Option Addr) (n c B : Nat) (xs : List Int) (w : World) (hr : Ints w B A (n * 2) xs) (hB : B ≤ w.heap.size) (hn : n ≤ 1000000000) :
    Calls Try.prog 77 #[.slice A n c] w fun e w' => e = .returned (.bool (validP xs n)) ∧ Below w.heap.size w w' := by
  have HR := hide hr
  have HB := hide hB
  clear hr
  by_cases h0 : n < 1
  · have HV := hide (validR_len (s := 2) (f := fldP) (xs := xs) (n := n) (mx := 9) (by simp [inB]; omega))
    go_enter Try.func77, Try.ntmps77
    go_wp2
    go_ret
    exact ⟨ret_bool HV.out.symm, Below.refl _ _⟩
  by_cases h9 : 9 < n
  · have HV := hide (validR_len (s := 2) (f := fldP) (xs := xs) (n := n) (mx := 9) (by simp [inB]; omega))
    go_enter Try.func77, Try.ntmps77
    go_wp2
    go_ret
    exact ⟨ret_bool HV.out.symm, Below.refl _ _⟩
  have HN := hide (inB_true (n := n) (lo := 1) (hi := 9) (by omega) (by omega))
  go_enter Try.func77, Try.ntmps77
  go_wp2_with fail
  go_loopw [15] (fun i wr => ∃ k : Nat, k ≤ n ∧ i = .int .i64 k ∧ Hid (vals fldP xs k = true) ∧ Hid (Below w.heap.size w wr)) (fun i _ => n - (intOf i).toNat)
  case atStart => exact ⟨0, Nat.zero_le _, rfl, rfl, Below.refl _ _⟩
  case round =>
    obtain ⟨k, hk, rfl, HV, HW⟩ := hrel
    by_cases hlt : k < n
    · obtain ⟨ad, q, rfl, hq, hb, hc0, hc1⟩ := ints_at2 (HR.out.below HW.out HB.out) hlt
      have hf := fldP_in xs k
      obtain ⟨x0, hx0⟩ : ∃ x, xs.getD (k * 2) 0 = x := ⟨_, rfl⟩
      rw [hx0] at hc0
      obtain ⟨x1, hx1⟩ : ∃ x, xs.getD (k * 2 + 1) 0 = x := ⟨_, rfl⟩
      rw [hx1] at hc1
      rw [hx1] at hf
      have HF := hide hf
      have hsz := HW.out.size
      have HBA := hide (HW.out.alloc hsz (.cells #[.int .i64 x0, .int .i64 x1] 99))
      clear hf hx0 hx1
      by_cases t0 : x1 < 0
      · have hbad : fldP xs k = false := by rw [HF.out]; simp [inB]; omega
        have HBAD := hide (validR_fld (s := 2) (mx := 9) (f := fldP) hlt hbad)
        clear hbad
        go_wp2
        go_ret
        exact ⟨ret_bool HBAD.out.symm, HBA.out⟩
      · by_cases t1 : 99 < x1
        · have hbad : fldP xs k = false := by rw [HF.out]; simp [inB]; omega
          have HBAD := hide (validR_fld (s := 2) (mx := 9) (f := fldP) hlt hbad)
          clear hbad
          go_wp2
          go_ret
          exact ⟨ret_bool HBAD.out.symm, HBA.out⟩
        · have hgood : fldP xs k = true := by rw [HF.out]; simp [inB]; omega
          have HG := hide (vals_succ HV.out hgood)
          clear hgood
          go_wp2
          go_roundw
          case rel => exact ⟨k + 1, by omega, by go_num, HG.out, HBA.out⟩
          case measure => simp [intOf]; omega
    · obtain rfl : k = n := by omega
      have HVA := hide (validR_asc (s := 2) HN.out HV.out)
      have HI := hide (HR.out.below HW.out HB.out)
      have hsz := HW.out.size
      go_wp2_with fail
      refine (pairBlocks_any A k c _).mono ?_
      rintro e w1 ⟨rfl, rfl⟩
      have HAS := hide (callsIn_wide.1 (ascend_in _ _ (blocksOf 2 xs k) wr.heap.size k 4 (Nat.le_refl _) (wr.alloc (.cells #[.slice A k c] 88)) (by simp) (enters_of Try.func97 (by kernel_rfl) rfl)
        (pairBlocks_stops A k c 3 wr.heap.size wr.heap.size xs _ (by omega) (by simp) (by simp) ((Blk.new wr 88 #[.slice A k c]).cell 0) ((HI.out.more (by omega)).alloc (Nat.le_refl _) _) (by omega))))
      rw [blocksOf_length, asc_blocks] at HAS
      go_wp2_with fail
      refine HAS.out.mono ?_
      rintro e w2 ⟨rfl, hb2⟩
      go_wp2
      go_ret
      exact ⟨ret_bool HVA.out.symm, (HW.out.alloc hsz _).trans (hb2.mono (by simp; omega))⟩

end Go.Proofs.Ytcocboigjfjnfab

/- IterC -/
namespace Go.Proofs.Ytcocboigjfjnfab
open Go.RowKit Go.Shelf
set_option linter.unusedVariables false
set_option maxRecDepth 100000

attribute [local go_sem] Oper.semAt_some

set_option maxHeartbeats 400000 in
theorem coldBlocks_any (A : Option Addr) (n c : Nat) (w : World) :
    Calls Try.prog 96 #[.slice A n c] w fun e w' => e = .returned (.func (.func 98) #[] #[.pointer (some ⟨w.heap.size, 0, none⟩)]) ∧ w' = w.alloc (.cells #[.slice A n c] 93) := by
  go_enter Try.func96, Try.ntmps96
  go_wp2
  go_ret
  exact ⟨rfl, rfl⟩

set_option maxHeartbeats 4000000 in
theorem coldBlocks_stops (A : Option Addr) (n c m Bs n₀ : Nat) (xs : List Int) (w : World) (hm : 1 ≤ m) (hBs : Bs < w.heap.size) (hn₀ : n₀ ≤ w.heap.size) (hc : w.cell? ⟨Bs, 0, none⟩ = some (.slice A n c)) (hI : Ints w n₀ A (n * 3) xs) (hn : n ≤ 1000000000) :
    SeqStopsK Fence.wide m Try.prog 98 #[.pointer (some ⟨Bs, 0, none⟩)] (fun x : Int => #[Value.int .i64 x]) (Below n₀) (fun ys => ys = blocksOf 3 xs n) (fun pre => pre <+: blocksOf 3 xs n) n w := fun l J Jx W hW hJ hJx hY h0 => by
  have hc' := (hW.cell (p := ⟨Bs, 0, none⟩) hBs).trans hc
  have HI := hide (hI.below (hW.mono hn₀) (Nat.le_refl _))
  have hn1 : n₀ ≤ W.heap.size := Nat.le_trans hn₀ hW.size
  clear hI hc
  refine callsIn_of_wp Try.func98 rfl trivial ?_ rfl
  simp only [Try.ntmps98, List.size_toArray, List.length_cons, List.length_nil, Nat.reduceAdd, Nat.reduceSub, Array.replicate_succ, Array.replicate_zero, List.push_toArray, List.append_toArray, List.nil_append, List.cons_append]
  gi_wp2
  gi_loopw [7] (fun i wr => ∃ k : Nat, k ≤ n ∧ i = .int .i64 k ∧ J (blocksOf 3 xs k) wr ∧ Below n₀ W wr) (fun i _ => n - (intOf i).toNat)
  case atStart => exact ⟨0, Nat.zero_le _, rfl, h0, Below.refl _ _⟩
  case round =>
    obtain ⟨k, hk, rfl, hJs, hB⟩ := hrel
    by_cases hlt : k < n
    · obtain ⟨ad, q, rfl, hq, hb, hc0, hc1, hc2⟩ := ints_at3 (HI.out.below hB (Nat.le_refl _)) hlt
      obtain ⟨x0, hx0⟩ : ∃ x, xs.getD (k * 3) 0 = x := ⟨_, rfl⟩
      rw [hx0] at hc0
      obtain ⟨x1, hx1⟩ : ∃ x, xs.getD (k * 3 + 1) 0 = x := ⟨_, rfl⟩
      rw [hx1] at hc1
      obtain ⟨x2, hx2⟩ : ∃ x, xs.getD (k * 3 + 2) 0 = x := ⟨_, rfl⟩
      rw [hx2] at hc2
      have hJa := hJ _ wr (wr.alloc (.cells #[.int .i64 x0, .int .i64 x1, .int .i64 x2] 102)) none hJs (World.grownBy_alloc _ _ _) (by simp)
      obtain ⟨fn, tmps, assign, body, hy, hR⟩ := hY _ x0 _ hJa (by rw [blocksOf_length]; exact hlt)
      have HBA := hide (hB.alloc (Nat.le_trans hn1 hB.size) (.cells #[.int .i64 x0, .int .i64 x1, .int .i64 x2] 102))
      have HX := hide hx0
      clear hx0 hx1 hx2 hB hJs
      gi_wp2
      refine hR.mono ?_
      rintro e W3 (⟨rfl, hJ3, hk3⟩ | ⟨rfl, hJx3⟩)
      · gi_wp2
        go_roundw
        case rel => exact ⟨k + 1, by omega, by go_num, by rw [blocksOf_succ, HX.out]; exact hJ3, HBA.out.trans hk3⟩
        case measure => simp [intOf]; omega
      · gi_wp2
        refine bodyPost_ret (results_none rfl _ _ _) rfl ?_
        exact ⟨⟨_, rfl⟩, .inr ⟨_, by rw [← HX.out, ← blocksOf_succ]; exact blocksOf_prefix _ _ (by omega), hJx3⟩⟩
    · obtain rfl : k = n := by omega
      gi_wp2
      go_end0
      exact ⟨⟨_, rfl⟩, .inl ⟨_, rfl, hJs⟩⟩
end Go.Proofs.Ytcocboigjfjnfab

/- ImplC -/
namespace Go.Proofs.Ytcocboigjfjnfab
open Go.RowKit Go.Shelf
set_option linter.unusedVariables false
set_option maxRecDepth 100000

set_option maxHeartbeats 3200000 in
theorem implValidC (A : Option Addr) (n c B : Nat) (xs : List Int) (w : World) (hr : Ints w B A (n * 3) xs) (hB : B ≤ w.heap.size) (hn : n ≤ 1000000000) :
    Calls Try.prog 80 #[.slice A n c] w fun e w' => e = .returned (.bool (validC xs n)) ∧ Below w.heap.size w w' := by
  have HR := hide hr
  have HB := hide hB
  clear hr
  by_cases h0 : n < 1
  · have HV := hide (validR_len (s := 3) (f := fldC) (xs := xs) (n := n) (mx := 6) (by simp [inB]; omega))
    go_enter Try.func80, Try.ntmps80
    go_wp2
    go_ret
    exact ⟨ret_bool HV.out.symm, Below.refl _ _⟩
  by_cases h9 : 6 < n
  · have HV := hide (validR_len (s := 3) (f := fldC) (xs := xs) (n := n) (mx := 6) (by simp [inB]; omega))
    go_enter Try.func80, Try.ntmps80
    go_wp2
    go_ret
    exact ⟨ret_bool HV.out.symm, Below.refl _ _⟩
  have HN := hide (inB_true (n := n) (lo := 1) (hi := 6) (by omega) (by omega))
  go_enter Try.func80, Try.ntmps80
  go_wp2_with fail
  go_loopw [15] (fun i wr => ∃ k : Nat, k ≤ n ∧ i = .int .i64 k ∧ Hid (vals fldC xs k = true) ∧ Hid (Below w.heap.size w wr)) (fun i _ => n - (intOf i).toNat)
  case atStart => exact ⟨0, Nat.zero_le _, rfl, rfl, Below.refl _ _⟩
  case round =>
    obtain ⟨k, hk, rfl, HV, HW⟩ := hrel
    by_cases hlt : k < n
    · obtain ⟨ad, q, rfl, hq, hb, hc0, hc1, hc2⟩ := ints_at3 (HR.out.below HW.out HB.out) hlt
      have hf := fldC_in xs k
      obtain ⟨x0, hx0⟩ : ∃ x, xs.getD (k * 3) 0 = x := ⟨_, rfl⟩
      rw [hx0] at hc0
      obtain ⟨x1, hx1⟩ : ∃ x, xs.getD (k * 3 + 1) 0 = x := ⟨_, rfl⟩
      rw [hx1] at hc1
      obtain ⟨x2, hx2⟩ : ∃ x, xs.getD (k * 3 + 2) 0 = x := ⟨_, rfl⟩
      rw [hx2] at hc2
      rw [hx1, hx2] at hf
      have HF := hide hf
      have hsz := HW.out.size
      have HBA := hide (HW.out.alloc hsz (.cells #[.int .i64 x0, .int .i64 x1, .int .i64 x2] 102))
      clear hf hx0 hx1 hx2
      by_cases t0 : x1 < 1
      · have hbad : fldC xs k = false := by rw [HF.out]; simp [inB]; omega
        have HBAD := hide (validR_fld (s := 3) (mx := 6) (f := fldC) hlt hbad)
        clear hbad
        go_wp2
        go_ret
        exact ⟨ret_bool HBAD.out.symm, HBA.out⟩
      · by_cases t1 : 999 < x1
        · have hbad : fldC xs k = false := by rw [HF.out]; simp [inB]; omega
          have HBAD := hide (validR_fld (s := 3) (mx := 6) (f := fldC) hlt hbad)
          clear hbad
          go_wp2
          go_ret
          exact ⟨ret_bool HBAD.out.symm, HBA.out⟩
        · by_cases t2 : x2 < 0
          · have hbad : fldC xs k = false := by rw [HF.out]; simp [inB]; omega
            have HBAD := hide (validR_fld (s := 3) (mx := 6) (f := fldC) hlt hbad)
            clear hbad
            go_wp2
            go_ret
            exact ⟨ret_bool HBAD.out.symm, HBA.out⟩
          · by_cases t3 : 6 ≤ x2
            · have hbad : fldC xs k = false := by rw [HF.out]; simp [inB]; omega
              have HBAD := hide (validR_fld (s := 3) (mx := 6) (f := fldC) hlt hbad)
              clear hbad
              go_wp2
              go_ret
              exact ⟨ret_bool HBAD.out.symm, HBA.out⟩
            · have hgood : fldC xs k = true := by rw [HF.out]; simp [inB]; omega
              have HG := hide (vals_succ HV.out hgood)
              clear hgood
              go_wp2
              go_roundw
              case rel => exact ⟨k + 1, by omega, by go_num, HG.out, HBA.out⟩
              case measure => simp [intOf]; omega
    · obtain rfl : k = n := by omega
      have HVA := hide (validR_asc (s := 3) HN.out HV.out)
      have HI := hide (HR.out.below HW.out HB.out)
      have hsz := HW.out.size
      go_wp2_with fail
      refine (coldBlocks_any A k c _).mono ?_
      rintro e w1 ⟨rfl, rfl⟩
      have HAS := hide (callsIn_wide.1 (ascend_in _ _ (blocksOf 3 xs k) wr.heap.size k 4 (Nat.le_refl _) (wr.alloc (.cells #[.slice A k c] 93)) (by simp) (enters_of Try.func98 (by kernel_rfl) rfl)
        (coldBlocks_stops A k c 3 wr.heap.size wr.heap.size xs _ (by omega) (by simp) (by simp) ((Blk.new wr 93 #[.slice A k c]).cell 0) ((HI.out.more (by omega)).alloc (Nat.le_refl _) _) (by omega))))
      rw [blocksOf_length, asc_blocks] at HAS
      go_wp2_with fail
      refine HAS.out.mono ?_
      rintro e w2 ⟨rfl, hb2⟩
      go_wp2
      go_ret
      exact ⟨ret_bool HVA.out.symm, (HW.out.alloc hsz _).trans (hb2.mono (by simp; omega))⟩

end Go.Proofs.Ytcocboigjfjnfab

/- SameM -/
namespace Go.Proofs.Ytcocboigjfjnfab
open Go.RowKit
set_option linter.unusedVariables false
set_option maxRecDepth 100000

set_option maxHeartbeats 1600000 in
theorem sameMap_yes (A A' : Option Addr) (n c d B B' : Nat) (ms : List Wh) (w : World) (hx : MpI w B A n ms) (hy : MpI w B' A' n ms) (hn : n ≤ 1000000000) :
    Calls Try.prog 10 #[.slice A n c, .slice A' n d] w fun e w' => e = .returned (.bool true) ∧ ∃ q, w' = w.drewN q := by
  have HX := hide hx
  have HY := hide hy
  clear hx hy
  go_enter Try.func10, Try.ntmps10
  go_wp2
  go_loopw [5] (fun i wr => ∃ k q : Nat, k ≤ n ∧ i = .int .i64 k ∧ wr = w.drewN q) (fun i _ => n - (intOf i).toNat)
  case atStart => exact ⟨0, 0, Nat.zero_le _, rfl, rfl⟩
  case round =>
    obtain ⟨k, q, hk, rfl, rfl⟩ := hrel
    by_cases hlt : k < n
    · obtain ⟨x, hx⟩ : ∃ x, ms[k]? = some x := ⟨_, List.getElem?_eq_getElem (by rw [HX.out.1]; exact hlt)⟩
      obtain ⟨ad, p, rfl, hp, hb, h0, h1, h2, h3, h4⟩ := (HX.out.drewN q).at_ hx
      obtain ⟨ad', p', rfl, hp', hb', g0, g1, g2, g3, g4⟩ := (HY.out.drewN q).at_ hx
      obtain ⟨t, z, a, i, y⟩ := x
      dsimp only at h0 h1 h2 h3 h4 g0 g1 g2 g3 g4
      have k0 : (0 : Int) ≤ (k : Int) := by omega
      have k1 : (k : Int) < (n : Int) := by omega
      clear hx
      generalize hw : w.drewN q = wz at h0 h1 h2 h3 h4 g0 g1 g2 g3 g4 ⊢
      go_wp2_with fail
      go_quiet (fail)
      go_wp2
      go_roundw
      case rel => exact ⟨k + 1, _, by omega, by go_num, by rw [← hw]; exact World.drewN_drewN _ _ _⟩
      case measure => simp [intOf]; omega
    · obtain rfl : k = n := by omega
      go_wp2
      go_ret
      exact ⟨rfl, q, rfl⟩
end Go.Proofs.Ytcocboigjfjnfab

/- SpecM3 -/
namespace Go.Proofs.Ytcocboigjfjnfab
open Go.RowKit
set_option linter.unusedVariables false
set_option maxRecDepth 100000

theorem inZ_at {ms : List Wh} {k : Nat} {x : Wh} (h : ms[k]? = some x) (z : Int) : inZ ms z (k : Int) = (decide (x.1 ≠ 0) && decide (x.2.1 = z)) := by unfold inZ; rw [Int.toNat_natCast, h]
theorem inT_at {ms : List Wh} {k : Nat} {x : Wh} (h : ms[k]? = some x) (t : Int) : inT ms t (k : Int) = decide (x.1 = t) := by unfold inT; rw [Int.toNat_natCast, h]
theorem blk_no {p : Int → Bool} {k : Nat} (h : p k = false) : blkP p (k + 1) = blkP p k := by rw [blkP_succ, h]; rfl
theorem blk_yes {p : Int → Bool} {k : Nat} (h : p k = true) : blkP p (k + 1) = blkP p k ++ [(k : Int)] := by rw [blkP_succ, h]; rfl

end Go.Proofs.Ytcocboigjfjnfab

/- ImpM2 -/
namespace Go.Proofs.Ytcocboigjfjnfab
open Go.RowKit
set_option linter.unusedVariables false
set_option maxRecDepth 100000

set_option maxHeartbeats 800000 in
theorem wantTier_any (x : Wh) (q : Int) (b : Nat) (w : World) (hb : w.cell? ⟨b, 0, none⟩ = some (.int .i64 q)) (hbw : b < w.heap.size) :
    Calls Try.prog 33 #[.agg #[.int .i64 x.1, .int .i64 x.2.1, .int .i64 x.2.2.1, .int .i64 x.2.2.2.1, .int .i64 x.2.2.2.2], .pointer (some ⟨b, 0, none⟩)] w fun e w' => e = .returned (.bool (decide (x.1 = q))) ∧ Below w.heap.size w w' := by
  obtain ⟨t, z, a, i, y⟩ := x
  dsimp only
  obtain ⟨W0, hW0⟩ : ∃ W0, w.alloc (.cells #[.int .i64 t, .int .i64 z, .int .i64 a, .int .i64 i, .int .i64 y] 55) = W0 := ⟨_, rfl⟩
  have HB := hide (show Below w.heap.size w W0 by rw [← hW0]; exact below_new w _)
  have hbk : Blk W0 w.heap.size 55 #[.int .i64 t, .int .i64 z, .int .i64 a, .int .i64 i, .int .i64 y] := by rw [← hW0]; exact Blk.new w _ _
  have c0 : W0.cell? ⟨w.heap.size, 0, none⟩ = some (.int .i64 t) := by rw [hbk.cell]; rfl
  have c2 : W0.cell? ⟨b, 0, none⟩ = some (.int .i64 q) := (HB.out.cell (p := ⟨b, 0, none⟩) hbw).trans hb
  clear hbk hb
  by_cases hz : q = t
  · subst hz
    go_enter Try.func33, Try.ntmps33
    go_wp2
    go_ret
    exact ⟨ret_bool (by simp), HB.out⟩
  · have hz' : (t == q) = false := by simpa using fun e => hz e.symm
    have HZ := hide fun e : t = q => hz e.symm
    clear hz
    go_enter Try.func33, Try.ntmps33
    go_wp2
    go_ret
    exact ⟨ret_bool (by simp [show ¬ t = q from HZ.out]), HB.out⟩
theorem inM_le (ms : List Wh) (z : Int) : (inM ms z).length ≤ 12 := by
  unfold inM
  split
  · exact blkP_le _ _
  · exact Nat.zero_le _
theorem tierM_le (ms : List Wh) (t : Int) : (tierM ms t).length ≤ 12 := by
  unfold tierM
  split
  · exact blkP_le _ _
  · exact Nat.zero_le _

set_option maxHeartbeats 3200000 in
theorem thatTier_any (A : Option Addr) (n c B b : Nat) (ms : List Wh) (q : Int) (w : World) (hr : MpI w B A n ms) (hB : B ≤ w.heap.size) (hn : n ≤ 1000000000) (hb : w.cell? ⟨b, 0, none⟩ = some (.int .i64 q)) (hbw : b < w.heap.size) :
    Calls Try.prog 32 #[.slice A n c, .func (.func 33) #[] #[.pointer (some ⟨b, 0, none⟩)]] w (ListPost w (tierM ms q)) := by
  have HR := hide hr
  have HL := hide hr.1
  have HV := hide (implMV A n c B ms w hr hB hn)
  have HBX := hide fun (W : World) (h : Below w.heap.size w W) => (h.cell (p := ⟨b, 0, none⟩) hbw).trans hb
  clear hr hb
  rcases hv : mpV ms with _ | _
  · rw [hv] at HV
    have HM : Hid (tierM ms q = []) := by show _ = _; unfold tierM; rw [hv]; rfl
    clear hv
    go_enter Try.func32, Try.ntmps32
    go_wp2_with fail
    refine HV.out.mono ?_
    rintro e w1 ⟨rfl, hb1⟩
    have HB1 := hide hb1
    clear hb1
    go_wp2
    go_ret
    exact ⟨_, _, _, rfl, by rw [HM.out]; exact Own.nil_ _ _, HB1.out⟩
  · rw [hv] at HV
    have HM : Hid (tierM ms q = blkP (inT ms q) 12) := by show _ = _; unfold tierM; rw [hv]; rfl
    have hn12 : n = 12 := HL.out.symm.trans (mpV_iff.1 hv).2
    subst hn12
    clear hv
    go_enter Try.func32, Try.ntmps32
    go_wp2_with fail
    refine HV.out.mono ?_
    rintro e w0 ⟨rfl, hb0⟩
    have HB0 := hide hb0
    clear hb0
    go_wp2
    go_loopw [5, 13] (fun o i wr => ∃ (k m d : Nat) (X : Option Addr), k ≤ 12 ∧ m ≤ k ∧ i = .int .i64 k ∧ o = .slice X m d ∧ Hid (Own wr w.heap.size X m d (blkP (inT ms q) k)) ∧ Hid (Below w.heap.size w wr)) (fun _ i _ => 12 - (intOf i).toNat)
    case atStart => exact ⟨0, 0, 0, none, by omega, by omega, rfl, rfl, Own.nil_ _ _, HB0.out⟩
    case round =>
      clear HB0
      obtain ⟨k, m, d, X, hk, hmk, rfl, rfl, HO, HB⟩ := hrel
      by_cases hlt : k < 12
      · obtain ⟨x, hx⟩ : ∃ x, ms[k]? = some x := ⟨_, List.getElem?_eq_getElem (by rw [HL.out]; exact hlt)⟩
        have HP := hide (inT_at hx q)
        obtain ⟨ad, p, rfl, hp, hpb, h0, h1, h2, h3, h4⟩ := (HR.out.below HB.out hB).at_ hx
        clear hx
        have k0 : (0 : Int) ≤ (k : Int) := by omega
        have k1 : (k : Int) < 12 := by omega
        have hsz := HB.out.size
        have HC := hide fun (W : World) (h : Below w.heap.size w W) => wantTier_any x q b W (HBX.out W h) (by have := h.size; omega)
        obtain ⟨t, z, a, i, y⟩ := x
        dsimp only at h0 h1 h2 h3 h4 HP HC
        have HOA := hide (HO.out.alloc (.cells #[.int .i64 t, .int .i64 z, .int .i64 a, .int .i64 i, .int .i64 y] 55))
        have HBA := hide (HB.out.alloc hsz (.cells #[.int .i64 t, .int .i64 z, .int .i64 a, .int .i64 i, .int .i64 y] 55))
        go_wp2_with fail
        refine (HC.out _ HBA.out).mono ?_
        rintro e w1 ⟨rfl, hb1⟩
        have HO1 := hide (HOA.out.below hb1)
        have HB1 := hide (HBA.out.trans (hb1.mono HBA.out.size))
        have hsz1 := HB1.out.size
        clear hb1 HO HB hsz HOA HBA HC h0 h1 h2 h3 h4
        rcases hw : (decide (t = q)) with _ | _
        · have HN := hide (blk_no (p := inT ms q) (k := k) (by rw [HP.out]; exact hw))
          clear hw HP
          go_wp2
          go_roundw
          case rel => exact ⟨k + 1, _, _, _, by omega, by omega, by go_num, rfl, by show Own _ _ _ _ _ _; rw [HN.out]; exact HO1.out, HB1.out⟩
          case measure => simp [intOf]; omega
        · have HN := hide (blk_yes (p := inT ms q) (k := k) (by rw [HP.out]; exact hw))
          clear hw HP
          go_wp2_with (at_builtin; refine wpList_append_ints rfl (.tmp 21) (.tmp 23) rfl w.heap.size m d (w1.heap.size + 1) 1 1 X (some ⟨w1.heap.size, 0, none⟩) (blkP (inT ms q) k) [(k : Int)] rfl (HO1.out.alloc _) rfl (Ints.one w1 (k : Int)) (by omega) (by simp; omega) ?_; intro A8 c8 w8 ho8 hg8 hat8; have HB8 := hide (below_app HB1.out hsz1 HO1.out (Nat.le_refl _) hg8); have HO8 := hide ho8; clear ho8 hg8 hat8)
          go_roundw
          case rel => exact ⟨k + 1, m + 1, _, _, by omega, by omega, by go_num, rfl, by show Own _ _ _ _ _ _; rw [HN.out]; exact HO8.out, HB8.out⟩
          case measure => simp [intOf]; omega
      · obtain rfl : k = 12 := by omega
        go_wp2
        go_ret
        exact ⟨_, _, _, rfl, by rw [HM.out]; exact HO.out, HB.out⟩

set_option maxHeartbeats 800000 in
theorem implMT (A : Option Addr) (n c B : Nat) (ms : List Wh) (q : Int) (w : World) (hr : MpI w B A n ms) (hB : B ≤ w.heap.size) (hn : n ≤ 1000000000) :
    Calls Try.prog 12 #[.slice A n c, .int .i64 q] w (ListPost w (tierM ms q)) := by
  have HB := hide (below_new w (.cells #[.int .i64 q] 3))
  have HC := hide (thatTier_any A n c B w.heap.size ms q (w.alloc (.cells #[.int .i64 q] 3)) (hr.alloc hB _) (Nat.le_trans hB HB.out.size) hn (by rw [(Blk.new w 3 #[.int .i64 q]).cell]; rfl) (by simp))
  clear hr
  go_enter Try.func12, Try.ntmps12
  go_wp2_with fail
  refine HC.out.mono ?_
  rintro e w1 ⟨A2, m, c2, rfl, ho, hb⟩
  have HO := hide (ho.mono HB.out.size)
  have HB1 := hide (HB.out.trans (hb.mono HB.out.size))
  clear ho hb
  go_wp2
  go_ret
  exact ⟨_, _, _, rfl, HO.out, HB1.out⟩
end Go.Proofs.Ytcocboigjfjnfab
