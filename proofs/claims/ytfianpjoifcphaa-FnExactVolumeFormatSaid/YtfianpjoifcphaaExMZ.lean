/-
  The exact laws' marks on zones: markZoneS, heldZoneS.
-/
import Derived.Test.YtfianpjoifcphaaExIZ
import Derived.Test.YtfianpjoifcphaaMarks
import Derived.Test.YtfianpjoifcphaaSpecZ3
namespace Go.Proofs.Ytfianpjoifcphaa
open Go.RowKit
set_option linter.unusedVariables false
set_option maxRecDepth 100000

/-- a zone marked from v on -/
def mkz (v : Int) (q : Zq) : Zq := ⟨marks v q.words.length, v + (q.words.length : Int), ((v + (q.words.length : Int) + 1) % 3 == 0), q.addr, q.cap⟩
def markZ : Int → List Zq → List Zq
  | _, [] => []
  | v, q :: qs => mkz v q :: markZ (v + (q.words.length : Int) + 1 + 1) qs
def mvZ : Int → List Zq → Int
  | v, [] => v
  | v, q :: qs => mvZ (v + (q.words.length : Int) + 1 + 1) qs
theorem markZ_length (v : Int) (qs : List Zq) : (markZ v qs).length = qs.length := by
  induction qs generalizing v with
  | nil => rfl
  | cons q qs ih => simp only [markZ, List.length_cons, ih]
theorem markZ_append (v : Int) (qs rs : List Zq) : markZ v (qs ++ rs) = markZ v qs ++ markZ (mvZ v qs) rs := by
  induction qs generalizing v with
  | nil => rfl
  | cons q qs ih => simp only [List.cons_append, markZ, mvZ, ih]
theorem mvZ_append (v : Int) (qs rs : List Zq) : mvZ v (qs ++ rs) = mvZ (mvZ v qs) rs := by
  induction qs generalizing v with
  | nil => rfl
  | cons q qs ih => simp only [List.cons_append, mvZ, ih]
theorem mvZ_le (v : Int) (qs : List Zq) (h : ∀ q ∈ qs, q.words.length ≤ 1048576) : v ≤ mvZ v qs ∧ mvZ v qs ≤ v + (qs.length : Int) * 1048578 := by
  induction qs generalizing v with
  | nil => simp [mvZ]
  | cons q qs ih =>
    have h1 := ih (v + (q.words.length : Int) + 1 + 1) fun r hr => h r (by simp [hr])
    have h2 := h q (by simp)
    simp only [mvZ, List.length_cons]
    omega
theorem take_next {qs : List Zq} {j : Nat} {q : Zq} (h : qs[j]? = some q) : qs.take (j + 1) = qs.take j ++ [q] := by rw [List.take_add_one, h]; rfl
def markZto (v : Int) (qs : List Zq) (j : Nat) : List Zq := markZ v (qs.take j) ++ qs.drop j
theorem markZto_get {v : Int} {qs : List Zq} {j : Nat} {q : Zq} (h : qs[j]? = some q) : (markZto v qs j)[j]? = some q := by
  have hl : j < qs.length := (List.getElem?_eq_some_iff.1 h).1
  unfold markZto
  rw [List.getElem?_append_right (by rw [markZ_length, List.length_take]; omega), markZ_length, List.length_take, Nat.min_eq_left (by omega), Nat.sub_self, List.getElem?_drop, Nat.add_zero, h]
theorem markZto_set {v : Int} {qs : List Zq} {j : Nat} {q : Zq} (h : qs[j]? = some q) : (markZto v qs j).set j (mkz (mvZ v (qs.take j)) q) = markZto v qs (j + 1) := by
  have hl : j < qs.length := (List.getElem?_eq_some_iff.1 h).1
  have e : qs[j] = q := (List.getElem?_eq_some_iff.1 h).2
  have hlen : (markZ v (qs.take j)).length = j := by rw [markZ_length, List.length_take]; omega
  unfold markZto
  rw [List.set_append_right _ _ (by omega), hlen, Nat.sub_self, List.drop_eq_getElem_cons hl, e, List.set_cons_zero, take_next h, markZ_append]
  simp [markZ]
theorem markZ_get {v : Int} {qs : List Zq} {j : Nat} {q : Zq} (h : qs[j]? = some q) : (markZ v qs)[j]? = some (mkz (mvZ v (qs.take j)) q) := by
  have hl : j < qs.length := (List.getElem?_eq_some_iff.1 h).1
  have e : qs[j] = q := (List.getElem?_eq_some_iff.1 h).2
  have hlen : (markZ v (qs.take j)).length = j := by rw [markZ_length, List.length_take]; omega
  have : markZ v qs = markZ v (qs.take j) ++ mkz (mvZ v (qs.take j)) q :: markZ (mvZ v (qs.take j) + (q.words.length : Int) + 1 + 1) (qs.drop (j + 1)) := by
    conv => lhs; rw [← List.take_append_drop j qs, List.drop_eq_getElem_cons hl, e]
    rw [markZ_append]
    rfl
  rw [this, List.getElem?_append_right (by omega), hlen, Nat.sub_self]
  rfl

/-- own rows lie below hi -/
structure Lim (A : Option Addr) (n c : Nat) (qs : List Zq) (hi : Nat) : Prop where
  row : ∀ b, (Value.slice A n c).ownBlock = some b → b < hi
  words : ∀ q ∈ qs, ∀ b, q.sl.ownBlock = some b → b < hi
theorem OwnZ.lim {w : World} {base n c : Nat} {A : Option Addr} {qs : List Zq} (h : OwnZ w base A n c qs) : Lim A n c qs w.heap.size :=
  ⟨fun b hb => (h.block b hb).2, fun q hq b hb => by obtain ⟨k, hk⟩ := List.getElem?_of_mem hq; exact (h.wblock hk b hb).2⟩
/-- only blocks from lo on, below hi, and new ones are turned -/
structure Chg (lo hi : Nat) (w w' : World) : Prop where
  below : Below lo w w'
  above : ∀ b, hi ≤ b → b < w.heap.size → w'.heap[b]? = w.heap[b]?
theorem Chg.refl (lo hi : Nat) (w : World) : Chg lo hi w w := ⟨Below.refl _ _, fun _ _ _ => rfl⟩
theorem Chg.grown {lo hi : Nat} {w0 w w' : World} {row : Option Nat} (h : Chg lo hi w0 w) (hg : w.grownBy w' row) (hlo : lo ≤ w.heap.size) (hr : ∀ b, row = some b → lo ≤ b ∧ b < hi) : Chg lo hi w0 w' :=
  ⟨h.below.grown hg hlo (fun b hb => (hr b hb).1), fun b h1 h2 => (hg.block b (Nat.lt_of_lt_of_le h2 h.below.size) (fun e => by have := (hr b e.symm).2; omega)).trans (h.above b h1 h2)⟩

set_option maxHeartbeats 3200000 in
theorem markZoneS_any (A : Option Addr) (n c base hi : Nat) (k : Int) (qs : List Zq) (w : World) (ho : OwnZ w base A n c qs) (hlim : Lim A n c qs hi) (hb : base ≤ w.heap.size) (hk0 : 0 ≤ k) (hk : k ≤ 1000) (hn : n ≤ 1000000000) (hl : ∀ q ∈ qs, q.words.length ≤ 1048576) :
    Calls Try.prog 10 #[.slice A n c, .int .i64 k] w fun e w' => e = .returned (.int .i64 (mvZ k qs)) ∧ OwnZ w' base A n c (markZ k qs) ∧ Chg base hi w w' := by
  by_cases hn0 : n = 0
  · subst hn0
    have hx : qs = [] := List.eq_nil_of_length_eq_zero ho.len
    subst hx
    go_enter Try.func10, Try.ntmps10
    go_wp2
    refine wp_loop_rounds 1 ?_
    rw [rounds_succ]
    go_wp2
    go_ret
    exact ⟨rfl, ho, Chg.refl _ _ _⟩
  · obtain ⟨g, rfl, hgb, hgl⟩ := ho.shape (by omega)
    have HLEN := hide ho.len
    have HL := hide hl
    have HLIM := hide hlim
    have HO0 := hide ho
    have hgh : g < hi := hlim.row g rfl
    clear hl hlim ho
    go_enter Try.func10, Try.ntmps10
    go_wp2
    go_loopw [1, 5] (fun kk i wr => ∃ (j : Nat) (v : Int), j ≤ n ∧ i = .int .i64 j ∧ kk = .int .i64 v ∧ 0 ≤ v ∧ v ≤ 2000000000000000 ∧ Hid (v = mvZ k (qs.take j)) ∧ Hid (OwnZ wr base (some ⟨g, 0, none⟩) n c (markZto k qs j)) ∧ Hid (Chg base hi w wr)) (fun _ i _ => n - (intOf i).toNat)
    case atStart => exact ⟨0, k, Nat.zero_le _, rfl, rfl, hk0, by omega, rfl, by show OwnZ _ _ _ _ _ _; unfold markZto; simpa [markZ] using HO0.out, Chg.refl _ _ _⟩
    case round =>
      obtain ⟨j, v, hj, rfl, rfl, hv0, hv1, HV, HO, HC⟩ := hrel
      by_cases hlt : j < n
      · obtain ⟨q, hq⟩ : ∃ q, qs[j]? = some q := ⟨_, List.getElem?_eq_getElem (by rw [HLEN.out]; exact hlt)⟩
        have hr := markZto_get (v := k) hq
        have hset := markZto_set (v := k) hq
        rw [← HV.out] at hset
        have hown := HO.out.own j q hr
        obtain ⟨hc0, hc1, hc2⟩ := HO.out.at_ hr
        have hql := HL.out q (List.mem_of_getElem? hq)
        have hqmem := List.mem_of_getElem? hq
        have HQ := hide hq
        have hf1 := HO.out.free (j := j * 3 + 1)
        have hf2 := HO.out.free (j := j * 3 + 2)
        have HR := hide hr
        have HSET := hide hset
        have hwl := HLIM.out.words q hqmem
        have hwb := HO.out.wblock hr
        have hfar := HO.out.far hr (g := g) rfl
        have HSEP := hide (fun (i : Nat) (r : Zq) hi hij b hb => HO.out.sep i j r q hi hr hij b hb)
        have hmv : Hid (mvZ k (qs.take (j + 1)) = v + (q.words.length : Int) + 1 + 1) := by
          show _ = _
          rw [take_next hq, mvZ_append, ← HV.out]
          rfl
        have hmb := mvZ_le k (qs.take (j + 1)) (fun r hr => HL.out r (List.mem_of_mem_take hr))
        rw [hmv.out, List.length_take, Nat.min_eq_left (by have := HLEN.out; omega)] at hmb
        have hv2 : v + (q.words.length : Int) + 1 + 1 ≤ 2000000000000000 := by omega
        clear hr hset hq hqmem hmb
        have HM := hide (mark_any q.addr q.words.length q.cap base v q.words wr hown hv0 (by omega) (by omega))
        obtain ⟨ws, sy, fu, qa, qc⟩ := q
        simp only [Zq.sl] at hc0 hc1 hc2 hql hwl hwb hfar hv2
        obtain ⟨m, hm⟩ : ∃ m, ws.length = m := ⟨_, rfl⟩
        have HMM := hide hm
        simp only [hm] at hc0 hql hwl hwb hfar hv2
        have HWL := hide hwl
        have HWB := hide hwb
        have HFAR := hide hfar
        clear hown hm hwl hwb hfar
        have k0 : (0 : Int) ≤ (j : Int) := by omega
        have k1 : (j : Int) < (n : Int) := by omega
        go_wp2_with fail
        have HM' := HM.out
        simp only [HMM.out] at HM'
        refine HM'.mono ?_
        rintro e w2 ⟨rfl, ho2, hg2⟩
        have hsl : (Zq.sl ⟨ws, sy, fu, qa, qc⟩) = .slice qa m qc := by simp only [Zq.sl, HMM.out]
        have hgw : g < wr.heap.size := by
          obtain ⟨g', e, _, h⟩ := HO.out.shape (by omega)
          injection e with e
          injection e with e
          omega
        have hbg := hg2.block g hgw (fun e => HFAR.out e.symm)
        have hd1 : w2.cell? ⟨g, j * 3 + 1, none⟩ = some (.int .i64 sy) := (World.cell?_of_block (a := ⟨g, j * 3 + 1, none⟩) hbg).trans hc1
        have hd2 : w2.cell? ⟨g, j * 3 + 2, none⟩ = some (.bool fu) := (World.cell?_of_block (a := ⟨g, j * 3 + 2, none⟩) hbg).trans hc2
        have he1 : w2.frozen? ⟨g, j * 3 + 1, none⟩ = false := (World.frozen?_of_block (a := ⟨g, j * 3 + 1, none⟩) hbg).trans hf1
        have he2 : w2.frozen? ⟨g, j * 3 + 2, none⟩ = false := (World.frozen?_of_block (a := ⟨g, j * 3 + 2, none⟩) hbg).trans hf2
        have p1 := HO.out.put HR.out hg2 (fun b hb => ⟨fun e => HFAR.out (by rw [hb, e]), fun i r hi hij hrb => HSEP.out i r hi hij b hrb (by rw [hsl]; exact hb)⟩) ⟨marks v m, v + (m : Int), fu, qa, qc⟩ 1 (.int .i64 (v + (m : Int))) (by omega)
          (by simp only [Zq.vals, Zq.sl, marks_length, HMM.out]; rfl) (by simp only [marks_length]; exact ho2)
          (fun i r hi hij b hb => by simp only [Zq.sl, marks_length]; have := HSEP.out i r hi hij b hb; rw [hsl] at this; exact this)
        have hj1 : ((markZto k qs j).set j (⟨marks v m, v + (m : Int), fu, qa, qc⟩ : Zq))[j]? = some ⟨marks v m, v + (m : Int), fu, qa, qc⟩ := by
          rw [List.getElem?_set, if_pos rfl, if_pos ((List.getElem?_eq_some_iff.1 HR.out).1)]
        have p2 := p1.1.put_in hj1 ⟨marks v m, v + (m : Int), ((v + (m : Int) + 1) % 3 == 0), qa, qc⟩ 2 (.bool (((v + (m : Int) + 1) % 3 == 0))) (by omega) rfl rfl rfl rfl
        have hset := HSET.out
        unfold mkz at hset
        simp only [HMM.out] at hset
        rw [List.set_set, hset] at p2
        have hbw : base ≤ wr.heap.size := Nat.le_trans hb HC.out.below.size
        have HP := hide p2.1
        have HC2 := hide (((HC.out.grown hg2 hbw (fun b hb => ⟨(HWB.out b hb).1, HWL.out b hb⟩)).grown p1.2 (Nat.le_trans hbw hg2.size) (fun b hb => by injection hb with hb; subst hb; exact ⟨hgb, hgh⟩)).grown p2.2
          (Nat.le_trans (Nat.le_trans hbw hg2.size) p1.2.size) (fun b hb => by injection hb with hb; subst hb; exact ⟨hgb, hgh⟩))
        have HMV : Hid (mvZ k (qs.take (j + 1)) = v + (m : Int) + 1 + 1) := by
          have h := hmv.out
          rw [HMM.out] at h
          exact h
        have hm0 : (0 : Int) ≤ (m : Int) := by omega
        have hm1 : (m : Int) ≤ 1048576 := by omega
        generalize (m : Int) = mi at *
        clear p1 p2 hj1 hset hbg ho2 hg2 hc0 hc1 hc2 hf1 hf2 HM HM'
        go_wp2
        go_roundw
        case rel => exact ⟨j + 1, _, by omega, by go_num, rfl, by omega, by omega, HMV.out.symm, HP.out, HC2.out⟩
        case measure => simp [intOf]; omega
      · obtain rfl : j = n := by omega
        have hj2 : qs.take j = qs := List.take_of_length_le (by rw [HLEN.out]; exact Nat.le_refl _)
        have h1 := HO.out
        have h2 := HV.out
        unfold markZto at h1
        rw [hj2, List.drop_of_length_le (by rw [HLEN.out]; exact Nat.le_refl _), List.append_nil] at h1
        rw [hj2] at h2
        have H1 := hide h1
        have H2 := hide h2
        clear h1 h2 hj2
        go_wp2
        go_ret
        exact ⟨ret_int H2.out, H1.out, HC.out⟩

set_option maxHeartbeats 3200000 in
theorem heldZoneS_any (A : Option Addr) (n c B : Nat) (k : Int) (qs : List Zq) (w : World) (hi : Zns w B A n (markZ k qs)) (hk0 : 0 ≤ k) (hk : k ≤ 1000) (hn : n ≤ 1000000000) (hl : ∀ q ∈ qs, q.words.length ≤ 1048576) :
    Calls Try.prog 25 #[.slice A n c, .int .i64 k] w fun e w' => e = .returned (.int .i64 (mvZ k qs)) ∧ w = w' := by
  have HI := hide hi
  have hlen : qs.length = n := by have := hi.1; rwa [markZ_length] at this
  have HLEN := hide hlen
  have HL := hide hl
  clear hi hl hlen
  go_enter Try.func25, Try.ntmps25
  go_wp2
  go_loop [1, 5] (fun kk i => ∃ (j : Nat) (v : Int), j ≤ n ∧ i = .int .i64 j ∧ kk = .int .i64 v ∧ 0 ≤ v ∧ v ≤ 2000000000000000 ∧ Hid (v = mvZ k (qs.take j))) (fun _ i => n - (intOf i).toNat)
  case atStart => exact ⟨0, k, Nat.zero_le _, rfl, rfl, hk0, by omega, rfl⟩
  case round =>
    obtain ⟨j, v, hj, rfl, rfl, hv0, hv1, HV⟩ := hrel
    by_cases hlt : j < n
    · obtain ⟨q, hq⟩ : ∃ q, qs[j]? = some q := ⟨_, List.getElem?_eq_getElem (by rw [HLEN.out]; exact hlt)⟩
      have hg := markZ_get (v := k) hq
      rw [← HV.out] at hg
      obtain ⟨ad, p, rfl, hp, hb, hc0, hc1, hc2⟩ := HI.out.at_ hg
      obtain ⟨hiw, hle, hcm⟩ := HI.out.words hg
      have hql := HL.out q (List.mem_of_getElem? hq)
      have hmv : Hid (mvZ k (qs.take (j + 1)) = v + (q.words.length : Int) + 1 + 1) := by
        show _ = _
        rw [take_next hq, mvZ_append, ← HV.out]
        rfl
      have hmb := mvZ_le k (qs.take (j + 1)) (fun r hr => HL.out r (List.mem_of_mem_take hr))
      rw [hmv.out, List.length_take, Nat.min_eq_left (by have := HLEN.out; omega)] at hmb
      have hv2 : v + (q.words.length : Int) + 1 + 1 ≤ 2000000000000000 := by omega
      simp only [mkz, Zq.sl, marks_length] at hc0 hc1 hc2 hiw
      clear hg hq hmb hle hcm
      generalize q.words.length = m at hc0 hc1 hc2 hiw hql hv2 hmv
      have HHD := hide (held_any q.addr m q.cap B v w hiw hv0 (by omega) (by omega))
      have k0 : (0 : Int) ≤ (j : Int) := by omega
      have k1 : (j : Int) < (n : Int) := by omega
      clear hiw
      go_wp2_with fail
      refine HHD.out.mono ?_
      rintro e w2 ⟨rfl, rfl⟩
      have hm0 : (0 : Int) ≤ (m : Int) := by omega
      have hm1 : (m : Int) ≤ 1048576 := by omega
      clear HHD
      generalize (m : Int) = mi at *
      go_wp2
      go_round
      case rel => exact ⟨j + 1, _, by omega, by go_num, rfl, by omega, by omega, hmv.out.symm⟩
      case measure => simp [intOf]; omega
    · obtain rfl : j = n := by omega
      have hj2 : qs.take j = qs := List.take_of_length_le (by rw [HLEN.out]; exact Nat.le_refl _)
      have h2 := HV.out
      rw [hj2] at h2
      have H2 := hide h2
      clear h2 hj2
      go_wp2
      go_ret
      exact ⟨ret_int H2.out, rfl⟩
end Go.Proofs.Ytfianpjoifcphaa
