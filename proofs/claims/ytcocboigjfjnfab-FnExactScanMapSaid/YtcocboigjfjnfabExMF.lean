/-
  The exact laws' marks on frames that were found: markFoundS, heldFoundS.
-/
import Derived.Test.YtcocboigjfjnfabMarks
import Derived.Test.YtcocboigjfjnfabFrameV
import Derived.Test.YtcocboigjfjnfabFPut
namespace Go.Proofs.Ytcocboigjfjnfab
open Go.RowKit
set_option linter.unusedVariables false
set_option maxRecDepth 100000

/-- an object marked from v on -/
def mkf (v : Int) (q : Fq) : Fq := ⟨v, v + 1, v + 1 + 1, v + 1 + 1 + 1, marks (v + 1 + 1 + 1 + 1) q.vals.length, q.addr, q.cap⟩
def markF : Int → List Fq → List Fq
  | _, [] => []
  | v, q :: qs => mkf v q :: markF (v + 1 + 1 + 1 + 1 + (q.vals.length : Int)) qs
def mvF : Int → List Fq → Int
  | v, [] => v
  | v, q :: qs => mvF (v + 1 + 1 + 1 + 1 + (q.vals.length : Int)) qs
theorem markF_length (v : Int) (qs : List Fq) : (markF v qs).length = qs.length := by
  induction qs generalizing v with
  | nil => rfl
  | cons q qs ih => simp only [markF, List.length_cons, ih]
theorem markF_append (v : Int) (qs rs : List Fq) : markF v (qs ++ rs) = markF v qs ++ markF (mvF v qs) rs := by
  induction qs generalizing v with
  | nil => rfl
  | cons q qs ih => simp only [List.cons_append, markF, mvF, ih]
theorem mvF_append (v : Int) (qs rs : List Fq) : mvF v (qs ++ rs) = mvF (mvF v qs) rs := by
  induction qs generalizing v with
  | nil => rfl
  | cons q qs ih => simp only [List.cons_append, mvF, ih]
theorem mvF_le (v : Int) (qs : List Fq) (h : ∀ q ∈ qs, q.vals.length ≤ 1048576) : v ≤ mvF v qs ∧ mvF v qs ≤ v + (qs.length : Int) * 1048580 := by
  induction qs generalizing v with
  | nil => simp [mvF]
  | cons q qs ih =>
    have h1 := ih (v + 1 + 1 + 1 + 1 + (q.vals.length : Int)) fun r hr => h r (by simp [hr])
    have h2 := h q (by simp)
    simp only [mvF, List.length_cons]
    omega
theorem take_nextFq {qs : List Fq} {j : Nat} {q : Fq} (h : qs[j]? = some q) : qs.take (j + 1) = qs.take j ++ [q] := by rw [List.take_add_one, h]; rfl
def markFto (v : Int) (qs : List Fq) (j : Nat) : List Fq := markF v (qs.take j) ++ qs.drop j
theorem markFto_get {v : Int} {qs : List Fq} {j : Nat} {q : Fq} (h : qs[j]? = some q) : (markFto v qs j)[j]? = some q := by
  have hl : j < qs.length := (List.getElem?_eq_some_iff.1 h).1
  unfold markFto
  rw [List.getElem?_append_right (by rw [markF_length, List.length_take]; omega), markF_length, List.length_take, Nat.min_eq_left (by omega), Nat.sub_self, List.getElem?_drop, Nat.add_zero, h]
theorem markFto_set {v : Int} {qs : List Fq} {j : Nat} {q : Fq} (h : qs[j]? = some q) : (markFto v qs j).set j (mkf (mvF v (qs.take j)) q) = markFto v qs (j + 1) := by
  have hl : j < qs.length := (List.getElem?_eq_some_iff.1 h).1
  have e : qs[j] = q := (List.getElem?_eq_some_iff.1 h).2
  have hlen : (markF v (qs.take j)).length = j := by rw [markF_length, List.length_take]; omega
  unfold markFto
  rw [List.set_append_right _ _ (by omega), hlen, Nat.sub_self, List.drop_eq_getElem_cons hl, e, List.set_cons_zero, take_nextFq h, markF_append]
  simp [markF]
theorem markF_get {v : Int} {qs : List Fq} {j : Nat} {q : Fq} (h : qs[j]? = some q) : (markF v qs)[j]? = some (mkf (mvF v (qs.take j)) q) := by
  have hl : j < qs.length := (List.getElem?_eq_some_iff.1 h).1
  have e : qs[j] = q := (List.getElem?_eq_some_iff.1 h).2
  have hlen : (markF v (qs.take j)).length = j := by rw [markF_length, List.length_take]; omega
  have : markF v qs = markF v (qs.take j) ++ mkf (mvF v (qs.take j)) q :: markF (mvF v (qs.take j) + 1 + 1 + 1 + 1 + (q.vals.length : Int)) (qs.drop (j + 1)) := by
    conv => lhs; rw [← List.take_append_drop j qs, List.drop_eq_getElem_cons hl, e]
    rw [markF_append]
    rfl
  rw [this, List.getElem?_append_right (by omega), hlen, Nat.sub_self]
  rfl

theorem OwnF.at_ {w : World} {base g n c k : Nat} {qs : List Fq} {q : Fq} (h : OwnF w base (some ⟨g, 0, none⟩) n c qs) (hk : qs[k]? = some q) :
    w.cell? ⟨g, k * 5, none⟩ = some (.int .i64 q.zone) ∧ w.cell? ⟨g, k * 5 + 1, none⟩ = some (.int .i64 q.word) ∧ w.cell? ⟨g, k * 5 + 2, none⟩ = some (.int .i64 q.kind) ∧ w.cell? ⟨g, k * 5 + 3, none⟩ = some (.int .i64 q.seq) ∧ w.cell? ⟨g, k * 5 + 4, none⟩ = some q.sl := by
  obtain ⟨ad, p, e, hp, _, h0, h1, h2, h3, h4⟩ := h.fnds.at_ hk
  injection e with e
  subst e
  rw [add_plain'] at hp
  subst hp
  exact ⟨h0, h1, h2, h3, h4⟩
theorem OwnF.reval {w w3 : World} {base g n c k : Nat} {qs : List Fq} {q : Fq} {row : Option Nat} (h : OwnF w base (some ⟨g, 0, none⟩) n c qs) (hk : qs[k]? = some q) (hg : w.grownBy w3 row)
    (hrow : ∀ b, row = some b → b ≠ g ∧ ∀ (i : Nat) (r : Fq), qs[i]? = some r → i ≠ k → r.sl.ownBlock ≠ some b) (ws : List Int) (hl : ws.length = q.vals.length) (hq' : Own w3 base q.addr q.vals.length q.cap ws) :
    OwnF w3 base (some ⟨g, 0, none⟩) n c (qs.set k ⟨q.zone, q.word, q.kind, q.seq, ws, q.addr, q.cap⟩) := by
  have hob : (Value.slice (some (⟨g, 0, none⟩ : Addr)) n c).ownBlock = some g := rfl
  have hr := h.row.kept hg (by
    rcases row with _ | b
    · exact .inr (by rw [hob]; simp)
    · exact .inr (by rw [hob]; intro e; injection e with e; exact (hrow b rfl).1 e.symm))
  have hsl : (Fq.sl ⟨q.zone, q.word, q.kind, q.seq, ws, q.addr, q.cap⟩) = q.sl := by unfold Fq.sl; simp only [hl]
  have he : flatF (qs.set k ⟨q.zone, q.word, q.kind, q.seq, ws, q.addr, q.cap⟩) = flatF qs := by
    rw [← flatF_set (q' := ⟨q.zone, q.word, q.kind, q.seq, ws, q.addr, q.cap⟩) hk 0 (.int .i64 q.zone) (by omega) (by unfold Fq.cells; rw [hsl]; rfl)]
    exact set_sameF (by rw [flatF_get hk 0 (by omega)]; rfl)
  refine ⟨by rw [List.length_set]; exact h.len, by rw [he]; exact hr, fun i r hi => ?_, fun i i' r r' hi hi' hii b hb => ?_⟩
  · rw [List.getElem?_set] at hi
    split at hi
    · split at hi
      · injection hi with hi
        subst hi
        simp only [hl]
        exact hq'
      · cases hi
    · next hne => exact (h.own i r hi).kept hg (fun b hb => (hrow b hb).2 i r hi (fun e => hne e.symm))
  · have back : ∀ {i : Nat} {r : Fq}, (qs.set k ⟨q.zone, q.word, q.kind, q.seq, ws, q.addr, q.cap⟩)[i]? = some r → ∃ r0, qs[i]? = some r0 ∧ r.sl = r0.sl := by
      intro i r hi
      rw [List.getElem?_set] at hi
      split at hi
      · next e =>
        split at hi
        · injection hi with hi
          subst hi
          subst e
          exact ⟨q, hk, hsl⟩
        · cases hi
      · exact ⟨r, hi, rfl⟩
    obtain ⟨r0, hr0, e0⟩ := back hi
    obtain ⟨r1, hr1, e1⟩ := back hi'
    rw [e0] at hb
    rw [e1]
    exact h.sep i i' r0 r1 hr0 hr1 hii b hb

/-- own rows lie below hi -/
structure LimF (A : Option Addr) (n c : Nat) (qs : List Fq) (hi : Nat) : Prop where
  row : ∀ b, (Value.slice A n c).ownBlock = some b → b < hi
  words : ∀ q ∈ qs, ∀ b, q.sl.ownBlock = some b → b < hi
theorem OwnF.lim {w : World} {base n c : Nat} {A : Option Addr} {qs : List Fq} (h : OwnF w base A n c qs) : LimF A n c qs w.heap.size :=
  ⟨fun b hb => (h.block b hb).2, fun q hq b hb => by obtain ⟨k, hk⟩ := List.getElem?_of_mem hq; exact (h.wblock hk b hb).2⟩
/-- only blocks from lo on, below hi, and new ones are turned -/
structure Chg (lo hi : Nat) (w w' : World) : Prop where
  below : Below lo w w'
  above : ∀ b, hi ≤ b → b < w.heap.size → w'.heap[b]? = w.heap[b]?
theorem Chg.refl (lo hi : Nat) (w : World) : Chg lo hi w w := ⟨Below.refl _ _, fun _ _ _ => rfl⟩
theorem Chg.grown {lo hi : Nat} {w0 w w' : World} {row : Option Nat} (h : Chg lo hi w0 w) (hg : w.grownBy w' row) (hlo : lo ≤ w.heap.size) (hr : ∀ b, row = some b → lo ≤ b ∧ b < hi) : Chg lo hi w0 w' :=
  ⟨h.below.grown hg hlo (fun b hb => (hr b hb).1), fun b h1 h2 => (hg.block b (Nat.lt_of_lt_of_le h2 h.below.size) (fun e => by have := (hr b e.symm).2; omega)).trans (h.above b h1 h2)⟩

set_option maxHeartbeats 3200000 in
theorem markFoundS_any (A : Option Addr) (n c base hi : Nat) (k : Int) (qs : List Fq) (w : World) (ho : OwnF w base A n c qs) (hlim : LimF A n c qs hi) (hb : base ≤ w.heap.size) (hk0 : 0 ≤ k) (hk : k ≤ 1000) (hn : n ≤ 1000000000) (hl : ∀ q ∈ qs, q.vals.length ≤ 1048576) :
    Calls Try.prog 18 #[.slice A n c, .int .i64 k] w fun e w' => e = .returned (.int .i64 (mvF k qs)) ∧ OwnF w' base A n c (markF k qs) ∧ Chg base hi w w' := by
  by_cases hn0 : n = 0
  · subst hn0
    have hx : qs = [] := List.eq_nil_of_length_eq_zero ho.len
    subst hx
    go_enter Try.func18, Try.ntmps18
    go_wp2
    refine wp_loop_rounds 1 ?_
    rw [rounds_succ]
    go_wp2
    go_ret
    exact ⟨rfl, ho, Chg.refl _ _ _⟩
  · obtain ⟨g, rfl, hgb, hgl⟩ := ho.shape (by omega)
    have HLEN := hide ho.len
    have HL := hide hl
    have HLIM := hide hlim
    have HO0 := hide ho
    have hgh : g < hi := hlim.row g rfl
    clear hl hlim ho
    go_enter Try.func18, Try.ntmps18
    go_wp2
    go_loopw [1, 5] (fun kk i wr => ∃ (j : Nat) (v : Int), j ≤ n ∧ i = .int .i64 j ∧ kk = .int .i64 v ∧ 0 ≤ v ∧ v ≤ 2000000000000000 ∧ Hid (v = mvF k (qs.take j)) ∧ Hid (OwnF wr base (some ⟨g, 0, none⟩) n c (markFto k qs j)) ∧ Hid (Chg base hi w wr)) (fun _ i _ => n - (intOf i).toNat)
    case atStart => exact ⟨0, k, Nat.zero_le _, rfl, rfl, hk0, by omega, rfl, by show OwnF _ _ _ _ _ _; unfold markFto; simpa [markF] using HO0.out, Chg.refl _ _ _⟩
    case round =>
      obtain ⟨j, v, hj, rfl, rfl, hv0, hv1, HV, HO, HC⟩ := hrel
      by_cases hlt : j < n
      · obtain ⟨q, hq⟩ : ∃ q, qs[j]? = some q := ⟨_, List.getElem?_eq_getElem (by rw [HLEN.out]; exact hlt)⟩
        have hr := markFto_get (v := k) hq
        have hset := markFto_set (v := k) hq
        rw [← HV.out] at hset
        have hf0 := HO.out.free (j := j * 5)
        have hf1 := HO.out.free (j := j * 5 + 1)
        have hf2 := HO.out.free (j := j * 5 + 2)
        have hf3 := HO.out.free (j := j * 5 + 3)
        obtain ⟨ha0, ha1, ha2, ha3, hc0⟩ := HO.out.at_ hr
        have hql := HL.out q (List.mem_of_getElem? hq)
        have hwl := HLIM.out.words q (List.mem_of_getElem? hq)
        have hmv : Hid (mvF k (qs.take (j + 1)) = v + 1 + 1 + 1 + 1 + (q.vals.length : Int)) := by
          show _ = _
          rw [take_nextFq hq, mvF_append, ← HV.out]
          rfl
        have hmb := mvF_le k (qs.take (j + 1)) (fun r hr => HL.out r (List.mem_of_mem_take hr))
        rw [hmv.out, List.length_take, Nat.min_eq_left (by have := HLEN.out; omega)] at hmb
        have hv2 : v + 1 + 1 + 1 + 1 + (q.vals.length : Int) ≤ 2000000000000000 := by omega
        have hjl := (List.getElem?_eq_some_iff.1 hr).1
        have p1 := HO.out.put_in hr ⟨v, q.word, q.kind, q.seq, q.vals, q.addr, q.cap⟩ 0 (.int .i64 v) (by omega) rfl rfl rfl rfl
        have hj1 : ((markFto k qs j).set j (⟨v, q.word, q.kind, q.seq, q.vals, q.addr, q.cap⟩ : Fq))[j]? = some ⟨v, q.word, q.kind, q.seq, q.vals, q.addr, q.cap⟩ := by
          rw [List.getElem?_set, if_pos rfl, if_pos hjl]
        rw [Nat.add_zero] at p1
        have p2 := p1.1.put_in hj1 ⟨v, v + 1, q.kind, q.seq, q.vals, q.addr, q.cap⟩ 1 (.int .i64 (v + 1)) (by omega) rfl rfl rfl rfl
        rw [List.set_set] at p2
        have hj2 : ((markFto k qs j).set j (⟨v, v + 1, q.kind, q.seq, q.vals, q.addr, q.cap⟩ : Fq))[j]? = some ⟨v, v + 1, q.kind, q.seq, q.vals, q.addr, q.cap⟩ := by
          rw [List.getElem?_set, if_pos rfl, if_pos hjl]
        have p3 := p2.1.put_in hj2 ⟨v, v + 1, v + 1 + 1, q.seq, q.vals, q.addr, q.cap⟩ 2 (.int .i64 (v + 1 + 1)) (by omega) rfl rfl rfl rfl
        rw [List.set_set] at p3
        have hj3 : ((markFto k qs j).set j (⟨v, v + 1, v + 1 + 1, q.seq, q.vals, q.addr, q.cap⟩ : Fq))[j]? = some ⟨v, v + 1, v + 1 + 1, q.seq, q.vals, q.addr, q.cap⟩ := by
          rw [List.getElem?_set, if_pos rfl, if_pos hjl]
        have p4 := p3.1.put_in hj3 ⟨v, v + 1, v + 1 + 1, v + 1 + 1 + 1, q.vals, q.addr, q.cap⟩ 3 (.int .i64 (v + 1 + 1 + 1)) (by omega) rfl rfl rfl rfl
        rw [List.set_set] at p4
        have hj4 : ((markFto k qs j).set j (⟨v, v + 1, v + 1 + 1, v + 1 + 1 + 1, q.vals, q.addr, q.cap⟩ : Fq))[j]? = some ⟨v, v + 1, v + 1 + 1, v + 1 + 1 + 1, q.vals, q.addr, q.cap⟩ := by
          rw [List.getElem?_set, if_pos rfl, if_pos hjl]
        have HG := hide (grown_trans' (grown_trans' (grown_trans' p1.2 p2.2) p3.2) p4.2)
        have hown := p4.1.own j _ hj4
        have hc1 := (p4.1.at_ hj4).2.2.2.2
        have hwb := p4.1.wblock hj4
        have hfar := p4.1.far hj4 (g := g) rfl
        have HSEP := hide (fun (i : Nat) (r : Fq) hi hij b hb => p4.1.sep i j r _ hi hj4 hij b hb)
        have HP1 := hide p4.1
        have HJ1 := hide hj4
        have HSET := hide hset
        clear hr hset hq hmb p1 p2 p3 p4 hj1 hj2 hj3 hj4 hjl
        obtain ⟨zo, wo, kd, sq, ws, qa, qc⟩ := q
        simp only [Fq.sl] at hc0 hc1 hql hwl hwb hfar hv2 hown hmv
        obtain ⟨m, hm⟩ : ∃ m, ws.length = m := ⟨_, rfl⟩
        have HMM := hide hm
        simp only [hm] at hc0 hc1 hql hwl hwb hfar hv2 hown hmv
        have HM := hide (mark_any qa m qc base (v + 1 + 1 + 1 + 1) ws _ hown (by omega) (by omega) (by omega))
        have HWL := hide hwl
        have HWB := hide hwb
        have HFAR := hide hfar
        clear hown hm hwl hwb hfar
        have k0 : (0 : Int) ≤ (j : Int) := by omega
        have k1 : (j : Int) < (n : Int) := by omega
        go_wp2_with fail
        refine HM.out.mono ?_
        rintro e w2 ⟨rfl, ho2, hg2⟩
        have hsl : (Fq.sl ⟨v, v + 1, v + 1 + 1, v + 1 + 1 + 1, ws, qa, qc⟩) = .slice qa m qc := by simp only [Fq.sl, HMM.out]
        have p2 := HP1.out.reval HJ1.out hg2 (fun b hb => ⟨fun e => HFAR.out (by rw [hb, e]), fun i r hi hij hrb => HSEP.out i r hi hij b hrb (by rw [hsl]; exact hb)⟩) (marks (v + 1 + 1 + 1 + 1) m) (by rw [marks_length]; exact HMM.out.symm) (by rw [HMM.out]; exact ho2)
        have hset := HSET.out
        unfold mkf at hset
        simp only [HMM.out] at hset
        rw [List.set_set, hset] at p2
        have hbw : base ≤ wr.heap.size := Nat.le_trans hb HC.out.below.size
        have HP := hide p2
        have HC2 := hide ((HC.out.grown HG.out hbw (fun b hb => by injection hb with hb; subst hb; exact ⟨hgb, hgh⟩)).grown hg2 (Nat.le_trans hbw HG.out.size) (fun b hb => ⟨(HWB.out b hb).1, HWL.out b hb⟩))
        have hm0 : (0 : Int) ≤ (m : Int) := by omega
        have hm1 : (m : Int) ≤ 1048576 := by omega
        generalize (m : Int) = mi at *
        clear p2 hset ho2 hg2 ha0 ha1 ha2 ha3 hc0 hc1 hf0 hf1 hf2 hf3 HM
        go_wp2
        go_roundw
        case rel => exact ⟨j + 1, _, by omega, by go_num, rfl, by omega, by omega, hmv.out.symm, HP.out, HC2.out⟩
        case measure => simp [intOf]; omega
      · obtain rfl : j = n := by omega
        have hj2 : qs.take j = qs := List.take_of_length_le (by rw [HLEN.out]; exact Nat.le_refl _)
        have h1 := HO.out
        have h2 := HV.out
        unfold markFto at h1
        rw [hj2, List.drop_of_length_le (by rw [HLEN.out]; exact Nat.le_refl _), List.append_nil] at h1
        rw [hj2] at h2
        have H1 := hide h1
        have H2 := hide h2
        clear h1 h2 hj2
        go_wp2
        go_ret
        exact ⟨ret_int H2.out, H1.out, HC.out⟩

end Go.Proofs.Ytcocboigjfjnfab
