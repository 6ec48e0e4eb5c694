/-
  The exact laws' marks on lists of lists of integers: markIntSS, heldIntSS.
-/
import Derived.Test.YtiopbgenkalfaaaExR1
namespace Go.Proofs.Ytiopbgenkalfaaa
open Go.RowKit
set_option linter.unusedVariables false
set_option maxRecDepth 100000

/-- a list marked from v on -/
def mkn (v : Int) (q : Nq) : Nq := ⟨marks v q.ps.length, q.addr, q.cap⟩
theorem mkn_fl (v : Int) (q : Nq) : (mkn v q).ps = marks v q.ps.length ∧ (mkn v q).ps.length = q.ps.length := ⟨rfl, marks_length _ _⟩
theorem mkn_sl (v : Int) (q : Nq) : (mkn v q).sl = q.sl := by
  unfold Nq.sl
  rw [(mkn_fl v q).2]
  rfl
def markN : Int → List Nq → List Nq
  | _, [] => []
  | v, q :: qs => mkn v q :: markN (v + ((q.ps.length : Nat) : Int)) qs
theorem markN_length (v : Int) (qs : List Nq) : (markN v qs).length = qs.length := by
  induction qs generalizing v with
  | nil => rfl
  | cons q qs ih => simp only [markN, List.length_cons, ih]
theorem markN_append (v : Int) (qs rs : List Nq) : markN v (qs ++ rs) = markN v qs ++ markN (mvN v qs) rs := by
  induction qs generalizing v with
  | nil => rfl
  | cons q qs ih => simp only [List.cons_append, markN, mvN, ih]
def markNto (v : Int) (qs : List Nq) (j : Nat) : List Nq := markN v (qs.take j) ++ qs.drop j
theorem markNto_get {v : Int} {qs : List Nq} {j : Nat} {q : Nq} (h : qs[j]? = some q) : (markNto v qs j)[j]? = some q := by
  have hl : j < qs.length := (List.getElem?_eq_some_iff.1 h).1
  unfold markNto
  rw [List.getElem?_append_right (by rw [markN_length, List.length_take]; omega), markN_length, List.length_take, Nat.min_eq_left (by omega), Nat.sub_self, List.getElem?_drop, Nat.add_zero, h]
theorem markNto_set {v : Int} {qs : List Nq} {j : Nat} {q : Nq} (h : qs[j]? = some q) : (markNto v qs j).set j (mkn (mvN v (qs.take j)) q) = markNto v qs (j + 1) := by
  have hl : j < qs.length := (List.getElem?_eq_some_iff.1 h).1
  have e : qs[j] = q := (List.getElem?_eq_some_iff.1 h).2
  have hlen : (markN v (qs.take j)).length = j := by rw [markN_length, List.length_take]; omega
  unfold markNto
  rw [List.set_append_right _ _ (by omega), hlen, Nat.sub_self, List.drop_eq_getElem_cons hl, e, List.set_cons_zero, take_nextN h, markN_append]
  simp [markN]
theorem markN_get {v : Int} {qs : List Nq} {j : Nat} {q : Nq} (h : qs[j]? = some q) : (markN v qs)[j]? = some (mkn (mvN v (qs.take j)) q) := by
  have hl : j < qs.length := (List.getElem?_eq_some_iff.1 h).1
  have e : qs[j] = q := (List.getElem?_eq_some_iff.1 h).2
  have hlen : (markN v (qs.take j)).length = j := by rw [markN_length, List.length_take]; omega
  have : markN v qs = markN v (qs.take j) ++ mkn (mvN v (qs.take j)) q :: markN (mvN v (qs.take j) + ((q.ps.length : Nat) : Int)) (qs.drop (j + 1)) := by
    conv => lhs; rw [← List.take_append_drop j qs, List.drop_eq_getElem_cons hl, e]
    rw [markN_append]
    rfl
  rw [this, List.getElem?_append_right (by omega), hlen, Nat.sub_self]
  rfl

/-- a list's pairs are turned in place -/
theorem OwnN.reval {w w' : World} {base n c k : Nat} {A : Option Addr} {qs : List Nq} {q : Nq} {row : Option Nat} (h : OwnN w base A n c qs) (hk : qs[k]? = some q) (hg : w.grownBy w' row)
    (hrow : ∀ b, row = some b → (Value.slice A n c).ownBlock ≠ some b ∧ ∀ i r, qs[i]? = some r → i ≠ k → r.sl.ownBlock ≠ some b) (q' : Nq) (hsl : q'.sl = q.sl) (hq' : Own w' base q'.addr q'.ps.length q'.cap q'.ps) :
    OwnN w' base A n c (qs.set k q') := by
  have hs : slN (qs.set k q') = slN qs := by
    rw [← slN_set, hsl]
    apply List.ext_getElem?
    intro i
    rw [List.getElem?_set]
    by_cases e : k = i
    · subst e
      rw [if_pos rfl, slN_get hk, if_pos ((List.getElem?_eq_some_iff.1 (slN_get hk)).1)]
    · rw [if_neg e]
  have get : ∀ {i : Nat} {a : Nq}, (qs.set k q')[i]? = some a → ∃ a0, qs[i]? = some a0 ∧ a0.sl = a.sl := by
    intro i a ha
    rw [List.getElem?_set] at ha
    split at ha
    · rename_i e
      subst e
      split at ha
      · injection ha with ha
        subst ha
        exact ⟨q, hk, hsl.symm⟩
      · cases ha
    · exact ⟨a, ha, rfl⟩
  refine ⟨by rw [List.length_set]; exact h.len, ?_, fun j a ha => ?_, fun i j a b hi hj hij g hg2 => ?_⟩
  · rw [hs]
    exact h.row.kept hg (by
      rcases hv : (Value.slice A n c).ownBlock with _ | g
      · exact .inl rfl
      · right; intro e; exact (hrow g e.symm).1 hv)
  · rw [List.getElem?_set] at ha
    split at ha
    · split at ha
      · injection ha with ha; subst ha; exact hq'
      · cases ha
    · rename_i hne
      exact (h.own j a ha).kept hg fun g hr => (hrow g hr).2 j a ha (fun e => hne e.symm)
  · obtain ⟨a0, h1, e1⟩ := get hi
    obtain ⟨b0, h2, e2⟩ := get hj
    rw [← e2]
    exact h.sep i j a0 b0 h1 h2 hij g (by rw [e1]; exact hg2)

/-- own rows lie below hi -/
structure LimN (A : Option Addr) (n c : Nat) (qs : List Nq) (hi : Nat) : Prop where
  row : ∀ b, (Value.slice A n c).ownBlock = some b → b < hi
  words : ∀ q ∈ qs, ∀ b, q.sl.ownBlock = some b → b < hi
theorem OwnN.lim {w : World} {base n c : Nat} {A : Option Addr} {qs : List Nq} (h : OwnN w base A n c qs) : LimN A n c qs w.heap.size :=
  ⟨fun b hb => (h.block b hb).2, fun q hq b hb => by obtain ⟨k, hk⟩ := List.getElem?_of_mem hq; exact (h.wblock hk b hb).2⟩
/-- only blocks from lo on, below hi, and new ones are turned -/
structure ChgN (lo hi : Nat) (w w' : World) : Prop where
  below : Below lo w w'
  above : ∀ b, hi ≤ b → b < w.heap.size → w'.heap[b]? = w.heap[b]?
theorem ChgN.refl (lo hi : Nat) (w : World) : ChgN lo hi w w := ⟨Below.refl _ _, fun _ _ _ => rfl⟩
theorem ChgN.grown {lo hi : Nat} {w0 w w' : World} {row : Option Nat} (h : ChgN lo hi w0 w) (hg : w.grownBy w' row) (hlo : lo ≤ w.heap.size) (hr : ∀ b, row = some b → lo ≤ b ∧ b < hi) : ChgN lo hi w0 w' :=
  ⟨h.below.grown hg hlo (fun b hb => (hr b hb).1), fun b h1 h2 => (hg.block b (Nat.lt_of_lt_of_le h2 h.below.size) (fun e => by have := (hr b e.symm).2; omega)).trans (h.above b h1 h2)⟩

/-- blocks that hold models and events are not turned -/
def Kt (w w' : World) : Prop := ∀ (b : Nat) (cs : Array Value), (Blk w b 27 cs → Blk w' b 27 cs) ∧ (Blk w b 35 cs → Blk w' b 35 cs)
theorem Kt.refl (w : World) : Kt w w := fun _ _ => ⟨id, id⟩
theorem Kt.trans {a b c : World} (h : Kt a b) (k : Kt b c) : Kt a c := fun g cs => ⟨fun x => (k g cs).1 ((h g cs).1 x), fun x => (k g cs).2 ((h g cs).2 x)⟩
theorem Kt.below {w w' : World} (hb : Below w.heap.size w w') : Kt w w' := fun _ _ => ⟨fun x => x.below hb x.lt, fun x => x.below hb x.lt⟩
theorem row_kt {w w' : World} {b t s n : Nat} {v : Value} {xs : List Value} (h : w.ownsRow b t s v n xs) (hg : w.grownBy w' v.ownBlock) (h1 : t ≠ 27) (h2 : t ≠ 35) : Kt w w' := by
  have ne : ∀ {g tb : Nat} {cs : Array Value}, Blk w g tb cs → t ≠ tb → v.ownBlock ≠ some g := by
    intro g tb cs hb ht hv
    rcases h.2 with ⟨rfl, _⟩ | ⟨g1, cap1, cur1, rfl, _, hh, _⟩
    · simp [Value.ownBlock] at hv
    · simp [Value.ownBlock] at hv
      subst hv
      unfold Blk at hb
      rw [hh] at hb
      simp at hb
      exact ht hb.2
  exact fun g cs => ⟨fun x => x.grown hg (fun e => ne x h1 e.symm), fun x => x.grown hg (fun e => ne x h2 e.symm)⟩

/-- only the lists' own blocks are turned -/
def OnlyN (qs : List Nq) (w w' : World) : Prop := w.heap.size ≤ w'.heap.size ∧ ∀ g, g < w.heap.size → (∀ r ∈ qs, r.sl.ownBlock ≠ some g) → w'.heap[g]? = w.heap[g]?
theorem OnlyN.refl (qs : List Nq) (w : World) : OnlyN qs w w := ⟨Nat.le_refl _, fun _ _ _ => rfl⟩
theorem OnlyN.grown {qs : List Nq} {w0 w w' : World} {q : Nq} (h : OnlyN qs w0 w) (hq : q ∈ qs) (hg : w.grownBy w' q.sl.ownBlock) : OnlyN qs w0 w' :=
  ⟨Nat.le_trans h.1 hg.size, fun g h1 h2 => (hg.block g (Nat.lt_of_lt_of_le h1 h.1) (fun e => h2 q hq e.symm)).trans (h.2 g h1 h2)⟩

set_option maxHeartbeats 3200000 in
theorem markIntSS_any (A : Option Addr) (n c base hi : Nat) (k : Int) (qs : List Nq) (w : World) (ho : OwnN w base A n c qs) (hlim : LimN A n c qs hi) (hb : base ≤ w.heap.size) (hk0 : 0 ≤ k) (hm : mvN k qs ≤ 1000000000) (hn : n ≤ 1000000000) :
    Calls Try.prog 49 #[.slice A n c, .int .i64 k] w fun e w' => e = .returned (.int .i64 (mvN k qs)) ∧ OwnN w' base A n c (markN k qs) ∧ ChgN base hi w w' ∧ Kt w w' ∧ OnlyN qs w w' := by
  by_cases hn0 : n = 0
  · subst hn0
    have hx : qs = [] := List.eq_nil_of_length_eq_zero ho.len
    subst hx
    go_enter Try.func49, Try.ntmps49
    go_wp2
    refine wp_loop_rounds 1 ?_
    rw [rounds_succ]
    go_wp2
    go_ret
    exact ⟨rfl, ho, ChgN.refl _ _ _, Kt.refl _, OnlyN.refl _ _⟩
  · obtain ⟨g, rfl, hgb, hgl⟩ := ho.shape (by omega)
    have HLEN := hide ho.len
    have HM := hide hm
    have HLIM := hide hlim
    have HO0 := hide ho
    clear hlim ho hm
    go_enter Try.func49, Try.ntmps49
    go_wp2
    go_loopw [1, 5] (fun kk i wr => ∃ (j : Nat) (v : Int), j ≤ n ∧ i = .int .i64 j ∧ kk = .int .i64 v ∧ 0 ≤ v ∧ v ≤ 1000000000 ∧ Hid (v = mvN k (qs.take j)) ∧ Hid (OwnN wr base (some ⟨g, 0, none⟩) n c (markNto k qs j)) ∧ Hid (ChgN base hi w wr) ∧ Hid (Kt w wr) ∧ Hid (OnlyN qs w wr)) (fun _ i _ => n - (intOf i).toNat)
    case atStart => exact ⟨0, k, Nat.zero_le _, rfl, rfl, hk0, Int.le_trans (mvN_ge k qs) HM.out, rfl, by show OwnN _ _ _ _ _ _; unfold markNto; simpa [markN] using HO0.out, ChgN.refl _ _ _, Kt.refl _, OnlyN.refl _ _⟩
    case round =>
      obtain ⟨j, v, hj, rfl, rfl, hv0, hv1, HV, HO, HC, HKT, HON⟩ := hrel
      by_cases hlt : j < n
      · obtain ⟨q, hq⟩ : ∃ q, qs[j]? = some q := ⟨_, List.getElem?_eq_getElem (by rw [HLEN.out]; exact hlt)⟩
        have hr := markNto_get (v := k) hq
        have hset := markNto_set (v := k) hq
        rw [← HV.out] at hset
        have hc0 := HO.out.cell hr
        have hmv := mvN_next k hq
        rw [← HV.out] at hmv
        have hmb := Int.le_trans (mvN_take_le k qs (j + 1)) HM.out
        have hml : q.ps.length ≤ 1000000000 := by omega
        have HMV := hide hmv
        have hv2 : v + ((q.ps.length : Nat) : Int) ≤ 1000000000 := by omega
        have HMK := hide (mark_any q.addr q.ps.length q.cap base v q.ps wr (HO.out.own j q hr) hv0 (by omega) hml)
        have HWB := hide (HO.out.wblock hr)
        have HQM := hide (List.mem_of_getElem? hq)
        have HWL := hide (HLIM.out.words q (List.mem_of_getElem? hq))
        have HR := hide hr
        have HSET := hide hset
        unfold Nq.sl at hc0
        have k0 : (0 : Int) ≤ (j : Int) := by omega
        have k1 : (j : Int) < (n : Int) := by omega
        clear hr hset hq hmv hmb
        go_wp2_with fail
        refine HMK.out.mono ?_
        rintro e w2 ⟨rfl, ho2, hg2⟩
        have hfl := mkn_fl v q
        have p2 := HO.out.reval HR.out hg2 (fun b hb => ⟨fun e => HO.out.far HR.out e hb, fun i r hi hij hrb => HO.out.sep i j r q hi HR.out hij b hrb hb⟩) (mkn v q) (mkn_sl v q) (by
          rw [hfl.1, marks_length]
          exact ho2)
        rw [HSET.out] at p2
        have HP := hide p2
        have HON2 := hide (HON.out.grown HQM.out hg2)
        have HKT2 := hide (HKT.out.trans (row_kt (HO.out.own j q HR.out).2 hg2 (by decide) (by decide)))
        have HC2 := hide (HC.out.grown hg2 (Nat.le_trans hb HC.out.below.size) (fun b hb => ⟨(HWB.out b hb).1, HWL.out b hb⟩))
        clear p2 hfl ho2 hg2 hc0 HMK
        generalize v + ((q.ps.length : Nat) : Int) = v2 at HMV hv2 ⊢
        have hv20 : 0 ≤ v2 := by
          have h1 := HMV.out
          have h2 := mvN_ge k (qs.take (j + 1))
          omega
        go_wp2
        go_roundw
        case rel => exact ⟨j + 1, _, by omega, by go_num, rfl, hv20, hv2, HMV.out.symm, HP.out, HC2.out, HKT2.out, HON2.out⟩
        case measure => simp [intOf]; omega
      · obtain rfl : j = n := by omega
        have hj2 : qs.take j = qs := List.take_of_length_le (by rw [HLEN.out]; exact Nat.le_refl _)
        have h1 := HO.out
        have h2 := HV.out
        unfold markNto at h1
        rw [hj2, List.drop_of_length_le (by rw [HLEN.out]; exact Nat.le_refl _), List.append_nil] at h1
        rw [hj2] at h2
        have H1 := hide h1
        have H2 := hide h2
        clear h1 h2 hj2
        go_wp2
        go_ret
        exact ⟨ret_int H2.out, H1.out, HC.out, HKT.out, HON.out⟩

set_option maxHeartbeats 3200000 in
theorem heldIntSS_any (A : Option Addr) (n c B : Nat) (k : Int) (qs : List Nq) (w : World) (hi : NyI w B A n (markN k qs)) (hk0 : 0 ≤ k) (hm : mvN k qs ≤ 1000000000) (hn : n ≤ 1000000000) :
    Calls Try.prog 51 #[.slice A n c, .int .i64 k] w fun e w' => e = .returned (.int .i64 (mvN k qs)) ∧ w = w' := by
  have HI := hide hi
  have hlen : qs.length = n := by have := hi.1; rwa [markN_length] at this
  have HLEN := hide hlen
  have HM := hide hm
  clear hi hlen hm
  go_enter Try.func51, Try.ntmps51
  go_wp2
  go_loop [1, 5] (fun kk i => ∃ (j : Nat) (v : Int), j ≤ n ∧ i = .int .i64 j ∧ kk = .int .i64 v ∧ 0 ≤ v ∧ v ≤ 1000000000 ∧ Hid (v = mvN k (qs.take j))) (fun _ i => n - (intOf i).toNat)
  case atStart => exact ⟨0, k, Nat.zero_le _, rfl, rfl, hk0, Int.le_trans (mvN_ge k qs) HM.out, rfl⟩
  case round =>
    obtain ⟨j, v, hj, rfl, rfl, hv0, hv1, HV⟩ := hrel
    by_cases hlt : j < n
    · obtain ⟨q, hq⟩ : ∃ q, qs[j]? = some q := ⟨_, List.getElem?_eq_getElem (by rw [HLEN.out]; exact hlt)⟩
      have hg := markN_get (v := k) hq
      rw [← HV.out] at hg
      obtain ⟨ad, rfl, hb, hc0⟩ := HI.out.at_ hg
      have hl := (HI.out.row_ hg).1
      rw [mkn_sl] at hc0
      rw [(mkn_fl v q).1, marks_length] at hl
      have hmv := mvN_next k hq
      rw [← HV.out] at hmv
      have hmb := Int.le_trans (mvN_take_le k qs (j + 1)) HM.out
      have hml : q.ps.length ≤ 1000000000 := by omega
      have HMV := hide hmv
      have hv2 : v + ((q.ps.length : Nat) : Int) ≤ 1000000000 := by omega
      have hl' : Ints w B q.addr (q.ps.length) (marks v (q.ps.length)) := hl
      have HHD := hide (held_any q.addr q.ps.length q.cap B v w hl' hv0 (by omega) hml)
      unfold Nq.sl at hc0
      have k0 : (0 : Int) ≤ (j : Int) := by omega
      have k1 : (j : Int) < (n : Int) := by omega
      clear hg hq hl hl' hmv hmb
      go_wp2_with fail
      refine HHD.out.mono ?_
      rintro e w2 ⟨rfl, rfl⟩
      clear HHD
      generalize v + ((q.ps.length : Nat) : Int) = v2 at HMV hv2 ⊢
      have hv20 : 0 ≤ v2 := by
        have h1 := HMV.out
        have h2 := mvN_ge k (qs.take (j + 1))
        omega
      have hneg : ¬ v2 < 0 := by omega
      go_wp2
      go_round
      case rel => exact ⟨j + 1, _, by omega, by go_num, rfl, hv20, hv2, HMV.out.symm⟩
      case measure => simp [intOf]; omega
    · obtain rfl : j = n := by omega
      have hj2 : qs.take j = qs := List.take_of_length_le (by rw [HLEN.out]; exact Nat.le_refl _)
      have h2 := HV.out
      rw [hj2] at h2
      have H2 := hide h2
      clear h2 hj2
      go_wp2
      go_ret
      exact ⟨ret_int H2.out, rfl⟩
end Go.Proofs.Ytiopbgenkalfaaa
