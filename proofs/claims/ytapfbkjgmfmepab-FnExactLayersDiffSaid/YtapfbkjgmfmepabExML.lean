/-
  The exact laws' marks on lists of layers: markPairSS, heldPairSS.
-/
import Derived.Test.YtapfbkjgmfmepabExHL
namespace Go.Proofs.Ytapfbkjgmfmepab
open Go.RowKit
set_option linter.unusedVariables false
set_option maxRecDepth 100000

/-- a layer marked from v on -/
def mkl (v : Int) (q : Lq) : Lq := ⟨unfl (marks v (q.ps.length * 2)), q.addr, q.cap⟩
theorem mkl_fl (v : Int) (q : Lq) : fl (mkl v q).ps = marks v (q.ps.length * 2) ∧ (mkl v q).ps.length = q.ps.length := fl_unfl q.ps.length (marks v (q.ps.length * 2)) (marks_length _ _)
theorem mkl_sl (v : Int) (q : Lq) : (mkl v q).sl = q.sl := by
  unfold Lq.sl
  rw [(mkl_fl v q).2]
  rfl
def markL : Int → List Lq → List Lq
  | _, [] => []
  | v, q :: qs => mkl v q :: markL (v + ((q.ps.length * 2 : Nat) : Int)) qs
theorem markL_length (v : Int) (qs : List Lq) : (markL v qs).length = qs.length := by
  induction qs generalizing v with
  | nil => rfl
  | cons q qs ih => simp only [markL, List.length_cons, ih]
theorem markL_append (v : Int) (qs rs : List Lq) : markL v (qs ++ rs) = markL v qs ++ markL (mvL v qs) rs := by
  induction qs generalizing v with
  | nil => rfl
  | cons q qs ih => simp only [List.cons_append, markL, mvL, ih]
def markLto (v : Int) (qs : List Lq) (j : Nat) : List Lq := markL v (qs.take j) ++ qs.drop j
theorem markLto_get {v : Int} {qs : List Lq} {j : Nat} {q : Lq} (h : qs[j]? = some q) : (markLto v qs j)[j]? = some q := by
  have hl : j < qs.length := (List.getElem?_eq_some_iff.1 h).1
  unfold markLto
  rw [List.getElem?_append_right (by rw [markL_length, List.length_take]; omega), markL_length, List.length_take, Nat.min_eq_left (by omega), Nat.sub_self, List.getElem?_drop, Nat.add_zero, h]
theorem markLto_set {v : Int} {qs : List Lq} {j : Nat} {q : Lq} (h : qs[j]? = some q) : (markLto v qs j).set j (mkl (mvL v (qs.take j)) q) = markLto v qs (j + 1) := by
  have hl : j < qs.length := (List.getElem?_eq_some_iff.1 h).1
  have e : qs[j] = q := (List.getElem?_eq_some_iff.1 h).2
  have hlen : (markL v (qs.take j)).length = j := by rw [markL_length, List.length_take]; omega
  unfold markLto
  rw [List.set_append_right _ _ (by omega), hlen, Nat.sub_self, List.drop_eq_getElem_cons hl, e, List.set_cons_zero, take_nextL h, markL_append]
  simp [markL]
theorem markL_get {v : Int} {qs : List Lq} {j : Nat} {q : Lq} (h : qs[j]? = some q) : (markL v qs)[j]? = some (mkl (mvL v (qs.take j)) q) := by
  have hl : j < qs.length := (List.getElem?_eq_some_iff.1 h).1
  have e : qs[j] = q := (List.getElem?_eq_some_iff.1 h).2
  have hlen : (markL v (qs.take j)).length = j := by rw [markL_length, List.length_take]; omega
  have : markL v qs = markL v (qs.take j) ++ mkl (mvL v (qs.take j)) q :: markL (mvL v (qs.take j) + ((q.ps.length * 2 : Nat) : Int)) (qs.drop (j + 1)) := by
    conv => lhs; rw [← List.take_append_drop j qs, List.drop_eq_getElem_cons hl, e]
    rw [markL_append]
    rfl
  rw [this, List.getElem?_append_right (by omega), hlen, Nat.sub_self]
  rfl

/-- a layer's pairs are turned in place -/
theorem OwnL.reval {w w' : World} {base n c k : Nat} {A : Option Addr} {qs : List Lq} {q : Lq} {row : Option Nat} (h : OwnL w base A n c qs) (hk : qs[k]? = some q) (hg : w.grownBy w' row)
    (hrow : ∀ b, row = some b → (Value.slice A n c).ownBlock ≠ some b ∧ ∀ i r, qs[i]? = some r → i ≠ k → r.sl.ownBlock ≠ some b) (q' : Lq) (hsl : q'.sl = q.sl) (hq' : PrR w' base q'.addr q'.ps.length q'.cap q'.ps) :
    OwnL w' base A n c (qs.set k q') := by
  have hs : slL (qs.set k q') = slL qs := by
    rw [← slL_set, hsl]
    apply List.ext_getElem?
    intro i
    rw [List.getElem?_set]
    by_cases e : k = i
    · subst e
      rw [if_pos rfl, slL_get hk, if_pos ((List.getElem?_eq_some_iff.1 (slL_get hk)).1)]
    · rw [if_neg e]
  have get : ∀ {i : Nat} {a : Lq}, (qs.set k q')[i]? = some a → ∃ a0, qs[i]? = some a0 ∧ a0.sl = a.sl := by
    intro i a ha
    rw [List.getElem?_set] at ha
    split at ha
    · rename_i e
      subst e
      split at ha
      · injection ha with ha
        subst ha
        exact ⟨q, hk, hsl.symm⟩
      · cases ha
    · exact ⟨a, ha, rfl⟩
  refine ⟨by rw [List.length_set]; exact h.len, ?_, fun j a ha => ?_, fun i j a b hi hj hij g hg2 => ?_⟩
  · rw [hs]
    exact h.row.kept hg (by
      rcases hv : (Value.slice A n c).ownBlock with _ | g
      · exact .inl rfl
      · right; intro e; exact (hrow g e.symm).1 hv)
  · rw [List.getElem?_set] at ha
    split at ha
    · split at ha
      · injection ha with ha; subst ha; exact hq'
      · cases ha
    · rename_i hne
      exact (h.own j a ha).kept hg fun g hr => (hrow g hr).2 j a ha (fun e => hne e.symm)
  · obtain ⟨a0, h1, e1⟩ := get hi
    obtain ⟨b0, h2, e2⟩ := get hj
    rw [← e2]
    exact h.sep i j a0 b0 h1 h2 hij g (by rw [e1]; exact hg2)

/-- own rows lie below hi -/
structure Lim_ExML (A : Option Addr) (n c : Nat) (qs : List Lq) (hi : Nat) : Prop where
  row : ∀ b, (Value.slice A n c).ownBlock = some b → b < hi
  words : ∀ q ∈ qs, ∀ b, q.sl.ownBlock = some b → b < hi
theorem OwnL.lim {w : World} {base n c : Nat} {A : Option Addr} {qs : List Lq} (h : OwnL w base A n c qs) : Lim_ExML A n c qs w.heap.size :=
  ⟨fun b hb => (h.block b hb).2, fun q hq b hb => by obtain ⟨k, hk⟩ := List.getElem?_of_mem hq; exact (h.wblock hk b hb).2⟩
/-- only blocks from lo on, below hi, and new ones are turned -/
structure Chg_ExML (lo hi : Nat) (w w' : World) : Prop where
  below : Below lo w w'
  above : ∀ b, hi ≤ b → b < w.heap.size → w'.heap[b]? = w.heap[b]?
theorem Chg_ExML.refl (lo hi : Nat) (w : World) : Chg_ExML lo hi w w := ⟨Below.refl _ _, fun _ _ _ => rfl⟩
theorem Chg_ExML.grown {lo hi : Nat} {w0 w w' : World} {row : Option Nat} (h : Chg_ExML lo hi w0 w) (hg : w.grownBy w' row) (hlo : lo ≤ w.heap.size) (hr : ∀ b, row = some b → lo ≤ b ∧ b < hi) : Chg_ExML lo hi w0 w' :=
  ⟨h.below.grown hg hlo (fun b hb => (hr b hb).1), fun b h1 h2 => (hg.block b (Nat.lt_of_lt_of_le h2 h.below.size) (fun e => by have := (hr b e.symm).2; omega)).trans (h.above b h1 h2)⟩

set_option maxHeartbeats 3200000 in
theorem markPairSS_any (A : Option Addr) (n c base hi : Nat) (k : Int) (qs : List Lq) (w : World) (ho : OwnL w base A n c qs) (hlim : Lim_ExML A n c qs hi) (hb : base ≤ w.heap.size) (hk0 : 0 ≤ k) (hm : mvL k qs ≤ 1000000000) (hn : n ≤ 1000000000) :
    Calls Try.prog 10 #[.slice A n c, .int .i64 k] w fun e w' => e = .returned (.int .i64 (mvL k qs)) ∧ OwnL w' base A n c (markL k qs) ∧ Chg_ExML base hi w w' := by
  by_cases hn0 : n = 0
  · subst hn0
    have hx : qs = [] := List.eq_nil_of_length_eq_zero ho.len
    subst hx
    go_enter Try.func10, Try.ntmps10
    go_wp2
    refine wp_loop_rounds 1 ?_
    rw [rounds_succ]
    go_wp2
    go_ret
    exact ⟨rfl, ho, Chg_ExML.refl _ _ _⟩
  · obtain ⟨g, rfl, hgb, hgl⟩ := ho.shape (by omega)
    have HLEN := hide ho.len
    have HM := hide hm
    have HLIM := hide hlim
    have HO0 := hide ho
    clear hlim ho hm
    go_enter Try.func10, Try.ntmps10
    go_wp2
    go_loopw [1, 5] (fun kk i wr => ∃ (j : Nat) (v : Int), j ≤ n ∧ i = .int .i64 j ∧ kk = .int .i64 v ∧ 0 ≤ v ∧ v ≤ 1000000000 ∧ Hid (v = mvL k (qs.take j)) ∧ Hid (OwnL wr base (some ⟨g, 0, none⟩) n c (markLto k qs j)) ∧ Hid (Chg_ExML base hi w wr)) (fun _ i _ => n - (intOf i).toNat)
    case atStart => exact ⟨0, k, Nat.zero_le _, rfl, rfl, hk0, Int.le_trans (mvL_ge k qs) HM.out, rfl, by show OwnL _ _ _ _ _ _; unfold markLto; simpa [markL] using HO0.out, Chg_ExML.refl _ _ _⟩
    case round =>
      obtain ⟨j, v, hj, rfl, rfl, hv0, hv1, HV, HO, HC⟩ := hrel
      by_cases hlt : j < n
      · obtain ⟨q, hq⟩ : ∃ q, qs[j]? = some q := ⟨_, List.getElem?_eq_getElem (by rw [HLEN.out]; exact hlt)⟩
        have hr := markLto_get (v := k) hq
        have hset := markLto_set (v := k) hq
        rw [← HV.out] at hset
        have hc0 := HO.out.cell hr
        have hmv := mvL_next k hq
        rw [← HV.out] at hmv
        have hmb := Int.le_trans (mvL_take_le k qs (j + 1)) HM.out
        have hml : q.ps.length ≤ 1000000000 := by omega
        have HMV := hide hmv
        have hv2 : v + ((q.ps.length * 2 : Nat) : Int) ≤ 1000000000 := by omega
        have HMK := hide (markPairS_any q.addr q.ps.length q.cap base v (fl q.ps) wr (HO.out.own j q hr).2 hv0 hv1 hml)
        have HWB := hide (HO.out.wblock hr)
        have HWL := hide (HLIM.out.words q (List.mem_of_getElem? hq))
        have HR := hide hr
        have HSET := hide hset
        unfold Lq.sl at hc0
        have k0 : (0 : Int) ≤ (j : Int) := by omega
        have k1 : (j : Int) < (n : Int) := by omega
        clear hr hset hq hmv hmb
        go_wp2_with fail
        refine HMK.out.mono ?_
        rintro e w2 ⟨rfl, ho2, hg2⟩
        have hfl := mkl_fl v q
        have p2 := HO.out.reval HR.out hg2 (fun b hb => ⟨fun e => HO.out.far HR.out e hb, fun i r hi hij hrb => HO.out.sep i j r q hi HR.out hij b hrb hb⟩) (mkl v q) (mkl_sl v q) (by
          refine ⟨rfl, ?_⟩
          rw [hfl.1, hfl.2]
          exact ho2)
        rw [HSET.out] at p2
        have HP := hide p2
        have HC2 := hide (HC.out.grown hg2 (Nat.le_trans hb HC.out.below.size) (fun b hb => ⟨(HWB.out b hb).1, HWL.out b hb⟩))
        clear p2 hfl ho2 hg2 hc0 HMK
        generalize v + ((q.ps.length * 2 : Nat) : Int) = v2 at HMV hv2 ⊢
        have hv20 : 0 ≤ v2 := by
          have h1 := HMV.out
          have h2 := mvL_ge k (qs.take (j + 1))
          omega
        go_wp2
        go_roundw
        case rel => exact ⟨j + 1, _, by omega, by go_num, rfl, hv20, hv2, HMV.out.symm, HP.out, HC2.out⟩
        case measure => simp [intOf]; omega
      · obtain rfl : j = n := by omega
        have hj2 : qs.take j = qs := List.take_of_length_le (by rw [HLEN.out]; exact Nat.le_refl _)
        have h1 := HO.out
        have h2 := HV.out
        unfold markLto at h1
        rw [hj2, List.drop_of_length_le (by rw [HLEN.out]; exact Nat.le_refl _), List.append_nil] at h1
        rw [hj2] at h2
        have H1 := hide h1
        have H2 := hide h2
        clear h1 h2 hj2
        go_wp2
        go_ret
        exact ⟨ret_int H2.out, H1.out, HC.out⟩

set_option maxHeartbeats 3200000 in
theorem heldPairSS_any (A : Option Addr) (n c B : Nat) (k : Int) (qs : List Lq) (w : World) (hi : LyI w B A n (markL k qs)) (hk0 : 0 ≤ k) (hm : mvL k qs ≤ 1000000000) (hn : n ≤ 1000000000) :
    Calls Try.prog 11 #[.slice A n c, .int .i64 k] w fun e w' => e = .returned (.int .i64 (mvL k qs)) ∧ w = w' := by
  have HI := hide hi
  have hlen : qs.length = n := by have := hi.1; rwa [markL_length] at this
  have HLEN := hide hlen
  have HM := hide hm
  clear hi hlen hm
  go_enter Try.func11, Try.ntmps11
  go_wp2
  go_loop [1, 5] (fun kk i => ∃ (j : Nat) (v : Int), j ≤ n ∧ i = .int .i64 j ∧ kk = .int .i64 v ∧ 0 ≤ v ∧ v ≤ 1000000000 ∧ Hid (v = mvL k (qs.take j))) (fun _ i => n - (intOf i).toNat)
  case atStart => exact ⟨0, k, Nat.zero_le _, rfl, rfl, hk0, Int.le_trans (mvL_ge k qs) HM.out, rfl⟩
  case round =>
    obtain ⟨j, v, hj, rfl, rfl, hv0, hv1, HV⟩ := hrel
    by_cases hlt : j < n
    · obtain ⟨q, hq⟩ : ∃ q, qs[j]? = some q := ⟨_, List.getElem?_eq_getElem (by rw [HLEN.out]; exact hlt)⟩
      have hg := markL_get (v := k) hq
      rw [← HV.out] at hg
      obtain ⟨ad, rfl, hb, hc0⟩ := HI.out.at_ hg
      have hl := (HI.out.layer hg).1.2
      rw [mkl_sl] at hc0
      rw [(mkl_fl v q).1, (mkl_fl v q).2] at hl
      have hmv := mvL_next k hq
      rw [← HV.out] at hmv
      have hmb := Int.le_trans (mvL_take_le k qs (j + 1)) HM.out
      have hml : q.ps.length ≤ 1000000000 := by omega
      have HMV := hide hmv
      have hv2 : v + ((q.ps.length * 2 : Nat) : Int) ≤ 1000000000 := by omega
      have hl' : Ints w B q.addr (q.ps.length * 2) (marks v (q.ps.length * 2)) := hl
      have HHD := hide (heldPairS_any q.addr q.ps.length q.cap B v w hl' hv0 hv1 hml)
      unfold Lq.sl at hc0
      have k0 : (0 : Int) ≤ (j : Int) := by omega
      have k1 : (j : Int) < (n : Int) := by omega
      clear hg hq hl hl' hmv hmb
      go_wp2_with fail
      refine HHD.out.mono ?_
      rintro e w2 ⟨rfl, rfl⟩
      clear HHD
      generalize v + ((q.ps.length * 2 : Nat) : Int) = v2 at HMV hv2 ⊢
      have hv20 : 0 ≤ v2 := by
        have h1 := HMV.out
        have h2 := mvL_ge k (qs.take (j + 1))
        omega
      have hneg : ¬ v2 < 0 := by omega
      go_wp2
      go_round
      case rel => exact ⟨j + 1, _, by omega, by go_num, rfl, hv20, hv2, HMV.out.symm⟩
      case measure => simp [intOf]; omega
    · obtain rfl : j = n := by omega
      have hj2 : qs.take j = qs := List.take_of_length_le (by rw [HLEN.out]; exact Nat.le_refl _)
      have h2 := HV.out
      rw [hj2] at h2
      have H2 := hide h2
      clear h2 hj2
      go_wp2
      go_ret
      exact ⟨ret_int H2.out, rfl⟩
end Go.Proofs.Ytapfbkjgmfmepab
