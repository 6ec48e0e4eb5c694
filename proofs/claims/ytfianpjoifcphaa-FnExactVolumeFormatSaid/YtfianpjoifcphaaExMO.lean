/-
  The exact laws' marks on stores: markObjectS, heldObjectS.
-/
import Derived.Test.YtfianpjoifcphaaExIO
import Derived.Test.YtfianpjoifcphaaMarks
namespace Go.Proofs.Ytfianpjoifcphaa
open Go.RowKit
set_option linter.unusedVariables false
set_option maxRecDepth 100000

/-- an object marked from v on -/
def mko (v : Int) (q : Oq) : Oq := ⟨v, marks (v + 1) q.vals.length, q.addr, q.cap⟩
def markO : Int → List Oq → List Oq
  | _, [] => []
  | v, q :: qs => mko v q :: markO (v + 1 + (q.vals.length : Int)) qs
def mvO : Int → List Oq → Int
  | v, [] => v
  | v, q :: qs => mvO (v + 1 + (q.vals.length : Int)) qs
theorem markO_length (v : Int) (qs : List Oq) : (markO v qs).length = qs.length := by
  induction qs generalizing v with
  | nil => rfl
  | cons q qs ih => simp only [markO, List.length_cons, ih]
theorem markO_append (v : Int) (qs rs : List Oq) : markO v (qs ++ rs) = markO v qs ++ markO (mvO v qs) rs := by
  induction qs generalizing v with
  | nil => rfl
  | cons q qs ih => simp only [List.cons_append, markO, mvO, ih]
theorem mvO_append (v : Int) (qs rs : List Oq) : mvO v (qs ++ rs) = mvO (mvO v qs) rs := by
  induction qs generalizing v with
  | nil => rfl
  | cons q qs ih => simp only [List.cons_append, mvO, ih]
theorem mvO_le (v : Int) (qs : List Oq) (h : ∀ q ∈ qs, q.vals.length ≤ 1048576) : v ≤ mvO v qs ∧ mvO v qs ≤ v + (qs.length : Int) * 1048578 := by
  induction qs generalizing v with
  | nil => simp [mvO]
  | cons q qs ih =>
    have h1 := ih (v + 1 + (q.vals.length : Int)) fun r hr => h r (by simp [hr])
    have h2 := h q (by simp)
    simp only [mvO, List.length_cons]
    omega
theorem take_nextO {qs : List Oq} {j : Nat} {q : Oq} (h : qs[j]? = some q) : qs.take (j + 1) = qs.take j ++ [q] := by rw [List.take_add_one, h]; rfl
def markOto (v : Int) (qs : List Oq) (j : Nat) : List Oq := markO v (qs.take j) ++ qs.drop j
theorem markOto_get {v : Int} {qs : List Oq} {j : Nat} {q : Oq} (h : qs[j]? = some q) : (markOto v qs j)[j]? = some q := by
  have hl : j < qs.length := (List.getElem?_eq_some_iff.1 h).1
  unfold markOto
  rw [List.getElem?_append_right (by rw [markO_length, List.length_take]; omega), markO_length, List.length_take, Nat.min_eq_left (by omega), Nat.sub_self, List.getElem?_drop, Nat.add_zero, h]
theorem markOto_set {v : Int} {qs : List Oq} {j : Nat} {q : Oq} (h : qs[j]? = some q) : (markOto v qs j).set j (mko (mvO v (qs.take j)) q) = markOto v qs (j + 1) := by
  have hl : j < qs.length := (List.getElem?_eq_some_iff.1 h).1
  have e : qs[j] = q := (List.getElem?_eq_some_iff.1 h).2
  have hlen : (markO v (qs.take j)).length = j := by rw [markO_length, List.length_take]; omega
  unfold markOto
  rw [List.set_append_right _ _ (by omega), hlen, Nat.sub_self, List.drop_eq_getElem_cons hl, e, List.set_cons_zero, take_nextO h, markO_append]
  simp [markO]
theorem markO_get {v : Int} {qs : List Oq} {j : Nat} {q : Oq} (h : qs[j]? = some q) : (markO v qs)[j]? = some (mko (mvO v (qs.take j)) q) := by
  have hl : j < qs.length := (List.getElem?_eq_some_iff.1 h).1
  have e : qs[j] = q := (List.getElem?_eq_some_iff.1 h).2
  have hlen : (markO v (qs.take j)).length = j := by rw [markO_length, List.length_take]; omega
  have : markO v qs = markO v (qs.take j) ++ mko (mvO v (qs.take j)) q :: markO (mvO v (qs.take j) + 1 + (q.vals.length : Int)) (qs.drop (j + 1)) := by
    conv => lhs; rw [← List.take_append_drop j qs, List.drop_eq_getElem_cons hl, e]
    rw [markO_append]
    rfl
  rw [this, List.getElem?_append_right (by omega), hlen, Nat.sub_self]
  rfl

/-- own rows lie below hi -/
structure Lim_ExMO (A : Option Addr) (n c : Nat) (qs : List Oq) (hi : Nat) : Prop where
  row : ∀ b, (Value.slice A n c).ownBlock = some b → b < hi
  words : ∀ q ∈ qs, ∀ b, q.sl.ownBlock = some b → b < hi
theorem OwnO.lim {w : World} {base n c : Nat} {A : Option Addr} {qs : List Oq} (h : OwnO w base A n c qs) : Lim_ExMO A n c qs w.heap.size :=
  ⟨fun b hb => (h.block b hb).2, fun q hq b hb => by obtain ⟨k, hk⟩ := List.getElem?_of_mem hq; exact (h.wblock hk b hb).2⟩
/-- only blocks from lo on, below hi, and new ones are turned -/
structure Chg_ExMO (lo hi : Nat) (w w' : World) : Prop where
  below : Below lo w w'
  above : ∀ b, hi ≤ b → b < w.heap.size → w'.heap[b]? = w.heap[b]?
theorem Chg_ExMO.refl (lo hi : Nat) (w : World) : Chg_ExMO lo hi w w := ⟨Below.refl _ _, fun _ _ _ => rfl⟩
theorem Chg_ExMO.grown {lo hi : Nat} {w0 w w' : World} {row : Option Nat} (h : Chg_ExMO lo hi w0 w) (hg : w.grownBy w' row) (hlo : lo ≤ w.heap.size) (hr : ∀ b, row = some b → lo ≤ b ∧ b < hi) : Chg_ExMO lo hi w0 w' :=
  ⟨h.below.grown hg hlo (fun b hb => (hr b hb).1), fun b h1 h2 => (hg.block b (Nat.lt_of_lt_of_le h2 h.below.size) (fun e => by have := (hr b e.symm).2; omega)).trans (h.above b h1 h2)⟩

set_option maxHeartbeats 3200000 in
theorem markObjectS_any (A : Option Addr) (n c base hi : Nat) (k : Int) (qs : List Oq) (w : World) (ho : OwnO w base A n c qs) (hlim : Lim_ExMO A n c qs hi) (hb : base ≤ w.heap.size) (hk0 : 0 ≤ k) (hk : k ≤ 1000) (hn : n ≤ 1000000000) (hl : ∀ q ∈ qs, q.vals.length ≤ 1048576) :
    Calls Try.prog 23 #[.slice A n c, .int .i64 k] w fun e w' => e = .returned (.int .i64 (mvO k qs)) ∧ OwnO w' base A n c (markO k qs) ∧ Chg_ExMO base hi w w' := by
  by_cases hn0 : n = 0
  · subst hn0
    have hx : qs = [] := List.eq_nil_of_length_eq_zero ho.len
    subst hx
    go_enter Try.func23, Try.ntmps23
    go_wp2
    refine wp_loop_rounds 1 ?_
    rw [rounds_succ]
    go_wp2
    go_ret
    exact ⟨rfl, ho, Chg_ExMO.refl _ _ _⟩
  · obtain ⟨g, rfl, hgb, hgl⟩ := ho.shape (by omega)
    have HLEN := hide ho.len
    have HL := hide hl
    have HLIM := hide hlim
    have HO0 := hide ho
    have hgh : g < hi := hlim.row g rfl
    clear hl hlim ho
    go_enter Try.func23, Try.ntmps23
    go_wp2
    go_loopw [1, 5] (fun kk i wr => ∃ (j : Nat) (v : Int), j ≤ n ∧ i = .int .i64 j ∧ kk = .int .i64 v ∧ 0 ≤ v ∧ v ≤ 2000000000000000 ∧ Hid (v = mvO k (qs.take j)) ∧ Hid (OwnO wr base (some ⟨g, 0, none⟩) n c (markOto k qs j)) ∧ Hid (Chg_ExMO base hi w wr)) (fun _ i _ => n - (intOf i).toNat)
    case atStart => exact ⟨0, k, Nat.zero_le _, rfl, rfl, hk0, by omega, rfl, by show OwnO _ _ _ _ _ _; unfold markOto; simpa [markO] using HO0.out, Chg_ExMO.refl _ _ _⟩
    case round =>
      obtain ⟨j, v, hj, rfl, rfl, hv0, hv1, HV, HO, HC⟩ := hrel
      by_cases hlt : j < n
      · obtain ⟨q, hq⟩ : ∃ q, qs[j]? = some q := ⟨_, List.getElem?_eq_getElem (by rw [HLEN.out]; exact hlt)⟩
        have hr := markOto_get (v := k) hq
        have hset := markOto_set (v := k) hq
        rw [← HV.out] at hset
        have hf0 := HO.out.free (j := j * 2)
        have hc0 := (HO.out.at_ hr).1
        have hql := HL.out q (List.mem_of_getElem? hq)
        have hwl := HLIM.out.words q (List.mem_of_getElem? hq)
        have hmv : Hid (mvO k (qs.take (j + 1)) = v + 1 + (q.vals.length : Int)) := by
          show _ = _
          rw [take_nextO hq, mvO_append, ← HV.out]
          rfl
        have hmb := mvO_le k (qs.take (j + 1)) (fun r hr => HL.out r (List.mem_of_mem_take hr))
        rw [hmv.out, List.length_take, Nat.min_eq_left (by have := HLEN.out; omega)] at hmb
        have hv2 : v + 1 + (q.vals.length : Int) ≤ 2000000000000000 := by omega
        have p1 := HO.out.put_in hr ⟨v, q.vals, q.addr, q.cap⟩ 0 (.int .i64 v) (by omega) rfl rfl rfl rfl
        have hj1 : ((markOto k qs j).set j (⟨v, q.vals, q.addr, q.cap⟩ : Oq))[j]? = some ⟨v, q.vals, q.addr, q.cap⟩ := by
          rw [List.getElem?_set, if_pos rfl, if_pos ((List.getElem?_eq_some_iff.1 hr).1)]
        rw [Nat.add_zero] at p1
        have hown := p1.1.own j _ hj1
        have hc1 := (p1.1.at_ hj1).2
        have hwb := p1.1.wblock hj1
        have hfar := p1.1.far hj1 (g := g) rfl
        have HSEP := hide (fun (i : Nat) (r : Oq) hi hij b hb => p1.1.sep i j r _ hi hj1 hij b hb)
        have HP1 := hide p1
        have HJ1 := hide hj1
        have HSET := hide hset
        clear hr hset hq hmb p1 hj1
        obtain ⟨id, ws, qa, qc⟩ := q
        simp only [Oq.sl] at hc1 hql hwl hwb hfar hv2 hown hmv
        obtain ⟨m, hm⟩ : ∃ m, ws.length = m := ⟨_, rfl⟩
        have HMM := hide hm
        simp only [hm] at hc1 hql hwl hwb hfar hv2 hown hmv
        have HM := hide (mark_any qa m qc base (v + 1) ws _ hown (by omega) (by omega) (by omega))
        have HWL := hide hwl
        have HWB := hide hwb
        have HFAR := hide hfar
        clear hown hm hwl hwb hfar
        have k0 : (0 : Int) ≤ (j : Int) := by omega
        have k1 : (j : Int) < (n : Int) := by omega
        go_wp2_with fail
        refine HM.out.mono ?_
        rintro e w2 ⟨rfl, ho2, hg2⟩
        have hsl : (Oq.sl ⟨v, ws, qa, qc⟩) = .slice qa m qc := by simp only [Oq.sl, HMM.out]
        have p2 := HP1.out.1.reval HJ1.out hg2 (fun b hb => ⟨fun e => HFAR.out (by rw [hb, e]), fun i r hi hij hrb => HSEP.out i r hi hij b hrb (by rw [hsl]; exact hb)⟩) (marks (v + 1) m) (by rw [marks_length]; exact HMM.out.symm) (by rw [HMM.out]; exact ho2)
        have hset := HSET.out
        unfold mko at hset
        simp only [HMM.out] at hset
        rw [List.set_set, hset] at p2
        have hbw : base ≤ wr.heap.size := Nat.le_trans hb HC.out.below.size
        have HP := hide p2
        have HC2 := hide ((HC.out.grown HP1.out.2 hbw (fun b hb => by injection hb with hb; subst hb; exact ⟨hgb, hgh⟩)).grown hg2 (Nat.le_trans hbw HP1.out.2.size) (fun b hb => ⟨(HWB.out b hb).1, HWL.out b hb⟩))
        have hm0 : (0 : Int) ≤ (m : Int) := by omega
        have hm1 : (m : Int) ≤ 1048576 := by omega
        generalize (m : Int) = mi at *
        clear p2 hset ho2 hg2 hc0 hc1 hf0 HM
        go_wp2
        go_roundw
        case rel => exact ⟨j + 1, _, by omega, by go_num, rfl, by omega, by omega, hmv.out.symm, HP.out, HC2.out⟩
        case measure => simp [intOf]; omega
      · obtain rfl : j = n := by omega
        have hj2 : qs.take j = qs := List.take_of_length_le (by rw [HLEN.out]; exact Nat.le_refl _)
        have h1 := HO.out
        have h2 := HV.out
        unfold markOto at h1
        rw [hj2, List.drop_of_length_le (by rw [HLEN.out]; exact Nat.le_refl _), List.append_nil] at h1
        rw [hj2] at h2
        have H1 := hide h1
        have H2 := hide h2
        clear h1 h2 hj2
        go_wp2
        go_ret
        exact ⟨ret_int H2.out, H1.out, HC.out⟩

set_option maxHeartbeats 3200000 in
theorem heldObjectS_any (A : Option Addr) (n c B : Nat) (k : Int) (qs : List Oq) (w : World) (hi : Objs w B A n (markO k qs)) (hk0 : 0 ≤ k) (hk : k ≤ 1000) (hn : n ≤ 1000000000) (hl : ∀ q ∈ qs, q.vals.length ≤ 1048576) :
    Calls Try.prog 26 #[.slice A n c, .int .i64 k] w fun e w' => e = .returned (.int .i64 (mvO k qs)) ∧ w = w' := by
  have HI := hide hi
  have hlen : qs.length = n := by have := hi.1; rwa [markO_length] at this
  have HLEN := hide hlen
  have HL := hide hl
  clear hi hl hlen
  go_enter Try.func26, Try.ntmps26
  go_wp2
  go_loop [1, 5] (fun kk i => ∃ (j : Nat) (v : Int), j ≤ n ∧ i = .int .i64 j ∧ kk = .int .i64 v ∧ 0 ≤ v ∧ v ≤ 2000000000000000 ∧ Hid (v = mvO k (qs.take j))) (fun _ i => n - (intOf i).toNat)
  case atStart => exact ⟨0, k, Nat.zero_le _, rfl, rfl, hk0, by omega, rfl⟩
  case round =>
    obtain ⟨j, v, hj, rfl, rfl, hv0, hv1, HV⟩ := hrel
    by_cases hlt : j < n
    · obtain ⟨q, hq⟩ : ∃ q, qs[j]? = some q := ⟨_, List.getElem?_eq_getElem (by rw [HLEN.out]; exact hlt)⟩
      have hg := markO_get (v := k) hq
      rw [← HV.out] at hg
      obtain ⟨ad, p, rfl, hp, hb, hc0, hc1⟩ := HI.out.at_ hg
      obtain ⟨hiw, hle, hcm, hnl⟩ := HI.out.words hg
      have hql := HL.out q (List.mem_of_getElem? hq)
      have hmv : Hid (mvO k (qs.take (j + 1)) = v + 1 + (q.vals.length : Int)) := by
        show _ = _
        rw [take_nextO hq, mvO_append, ← HV.out]
        rfl
      have hmb := mvO_le k (qs.take (j + 1)) (fun r hr => HL.out r (List.mem_of_mem_take hr))
      rw [hmv.out, List.length_take, Nat.min_eq_left (by have := HLEN.out; omega)] at hmb
      have hv2 : v + 1 + (q.vals.length : Int) ≤ 2000000000000000 := by omega
      simp only [mko, Oq.sl, marks_length] at hc0 hc1 hiw
      clear hg hq hmb hle hcm hnl
      generalize q.vals.length = m at hc1 hiw hql hv2 hmv
      have HHD := hide (held_any q.addr m q.cap B (v + 1) w hiw (by omega) (by omega) (by omega))
      have k0 : (0 : Int) ≤ (j : Int) := by omega
      have k1 : (j : Int) < (n : Int) := by omega
      clear hiw
      go_wp2_with fail
      refine HHD.out.mono ?_
      rintro e w2 ⟨rfl, rfl⟩
      have hm0 : (0 : Int) ≤ (m : Int) := by omega
      have hm1 : (m : Int) ≤ 1048576 := by omega
      have hneg : ¬ (v + 1 + (m : Int) < 0) := by omega
      clear HHD
      generalize (m : Int) = mi at *
      go_wp2
      go_round
      case rel => exact ⟨j + 1, _, by omega, by go_num, rfl, by omega, by omega, hmv.out.symm⟩
      case measure => simp [intOf]; omega
    · obtain rfl : j = n := by omega
      have hj2 : qs.take j = qs := List.take_of_length_le (by rw [HLEN.out]; exact Nat.le_refl _)
      have h2 := HV.out
      rw [hj2] at h2
      have H2 := hide h2
      clear h2 hj2
      go_wp2
      go_ret
      exact ⟨ret_int H2.out, rfl⟩
end Go.Proofs.Ytfianpjoifcphaa
