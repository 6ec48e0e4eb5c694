/-
  The merger's add and take.
-/
import Derived.Test.YtcocboigjfjnfacHeapP
namespace Go.Proofs.Ytcocboigjfjnfac
open Go.RowKit
set_option linter.unusedVariables false
set_option maxRecDepth 100000

set_option maxHeartbeats 3200000 in
theorem add_none (b c : Nat) (A : Option Addr) (w : World) : Calls Try.prog 27 #[.pointer (some ⟨b, 0, none⟩), .slice A 0 c] w fun e w' => e = .returned (.tuple #[]) ∧ w' = w := by
  go_enter Try.func27, Try.ntmps27
  go_wp2
  exact bodyPost_end (results_none Try.results27 _ _ _) rfl ⟨rfl, rfl⟩
set_option maxHeartbeats 3200000 in
theorem add_any (base b n c : Nat) (A : Option Addr) (hs : List Hq) (x : Hq) (w : World) (hm : Mg w base b A n c hs) (hx : LstOk w base x) (hn : n < 1000) (hk : HpOk (keyL (fnH hs)) n) :
    Calls Try.prog 27 #[.pointer (some ⟨b, 0, none⟩), x.sl] w fun e w' => e = .returned (.tuple #[]) ∧ ∃ A2 c2 hs', HeapPost w base b (n + 1) A2 c2 (hs ++ [x]) (n + 1) w' hs' := by
  have HP := hide (hpush_any base b n c A hs x w hm hx hn hk)
  have hl : 0 < x.qs.length := List.length_pos_iff.2 hx.full
  unfold hpV at HP
  clear hm hx hk
  unfold Hq.sl at *
  generalize x.addr = xa at *
  generalize x.cap = xc at *
  obtain ⟨l, hl2⟩ : ∃ l, x.qs.length = l := ⟨_, rfl⟩
  rw [hl2] at hl HP ⊢
  clear hl2
  have hl0 : (0 : Int) < (l : Int) := by omega
  go_enter Try.func27, Try.ntmps27
  go_wp2_with fail
  refine HP.out.mono ?_
  rintro e w1 ⟨rfl, A2, c2, hs', h⟩
  have HH := hide h
  clear h
  go_wp2
  exact bodyPost_end (results_none Try.results27 _ _ _) rfl ⟨rfl, A2, c2, hs', HH.out⟩

/-- all frames of the lists -/
def poolH (hs : List Hq) : List Fq := (hs.map Hq.qs).flatten
theorem poolH_perm {hs hs' : List Hq} (h : hs.Perm hs') : (poolH hs).Perm (poolH hs') := (h.map Hq.qs).flatten
theorem poolH_cons (h : Hq) (hs : List Hq) : poolH (h :: hs) = h.qs ++ poolH hs := rfl
theorem poolH_append (hs hs2 : List Hq) : poolH (hs ++ hs2) = poolH hs ++ poolH hs2 := by unfold poolH; rw [List.map_append, List.flatten_append]
/-- the blocks of lists -/
def inBlk (hs : List Hq) (x : Hq) : Prop := ∃ y ∈ hs, ∃ ad ad' : Addr, x.addr = some ad ∧ y.addr = some ad' ∧ ad.block = ad'.block

/-- what take does: the first frame is q -/
structure TookPost (w : World) (base b n : Nat) (hs : List Hq) (q : Fq) (w' : World) (A2 : Option Addr) (n2 c2 : Nat) (hs2 : List Hq) : Prop where
  mg : Mg w' base b A2 n2 c2 hs2
  heap : HpOk (keyL (fnH hs2)) n2
  trn : Trn base w w'
  pool : (q :: poolH hs2).Perm (poolH hs)
  blks : ∀ x ∈ hs2, inBlk hs x
  mrg : ∀ out all, Mrg out (fnH hs) all → Mrg (out ++ [q.fn]) (fnH hs2) all

theorem mrg_took {hs hs' : List Hq} {x : Hq} {q : Fq} {t : List Fq} (hq : x.qs = q :: t) (hp : (x :: hs').Perm hs) (hlow : ∀ y ∈ hs', leF (hdF x.fs) (hdF y.fs)) {out all : List Fn} (h : Mrg out (fnH hs) all) :
    Mrg (out ++ [q.fn]) (if fns t = [] then fnH hs' else fnH hs' ++ [fns t]) all := by
  have h2 := h.perms (ls' := fnH (x :: hs')) (by unfold fnH; exact hp.map _)
  have e : fnH (x :: hs') = (q.fn :: fns t) :: fnH hs' := by unfold fnH Hq.fs; simp [hq, fns]
  rw [e] at h2
  refine h2.take (fun g hg y hy => ?_)
  unfold fnH at hg
  obtain ⟨z, hz, rfl⟩ := List.mem_map.1 hg
  have := hlow z hz
  have e1 : hdF x.fs = q.fn := by unfold Hq.fs; exact hd_of hq
  have e2 : hdF z.fs = y := by
    unfold hdF
    rw [List.headD_eq_head?_getD, hy]
    rfl
  rw [e1, e2] at this
  exact this

theorem res_cell (w : World) : Blk (w.alloc (.cells #[.int .i64 0, .int .i64 0, .int .i64 0, .int .i64 0, .slice none 0 0] 35)) w.heap.size 35 #[.int .i64 0, .int .i64 0, .int .i64 0, .int .i64 0, .slice none 0 0] := Blk.new w _ _

theorem LstOk.head_at {w : World} {base : Nat} {h : Hq} {q : Fq} {t : List Fq} {ad : Addr} (hl : LstOk w base h) (hq : h.qs = q :: t) (ha : h.addr = some ad) : w.cell? ad = some (.int .i64 q.zone) ∧
    w.cell? ⟨ad.block, ad.off + 1, none⟩ = some (.int .i64 q.word) ∧ w.cell? ⟨ad.block, ad.off + 2, none⟩ = some (.int .i64 q.kind) ∧ w.cell? ⟨ad.block, ad.off + 3, none⟩ = some (.int .i64 q.seq) ∧ w.cell? ⟨ad.block, ad.off + 4, none⟩ = some q.sl := by
  obtain ⟨p, q', t', hp, hq', _, _, b0, b1, b2, b3, b4⟩ := hl.head
  rw [ha] at hp
  injection hp with hp
  subst hp
  rw [hq] at hq'
  injection hq' with hq' _
  subst hq'
  exact ⟨b0, b1, b2, b3, b4⟩
theorem LstOk.spot {w : World} {base : Nat} {h : Hq} {ad : Addr} (hl : LstOk w base h) (ha : h.addr = some ad) : ad.add 5 = ⟨ad.block, ad.off + 5, none⟩ := by
  obtain ⟨ad', _, e, _⟩ := hl.mem
  rw [ha] at e
  injection e with e
  subst e
  simp [Addr.add]

/-- the result's variable is set: five stores -/
def res5 (w : World) (R : Nat) (v0 v1 v2 v3 v4 : Value) : World := ((((w.setCell ⟨R, 0, none⟩ v0).setCell ⟨R, 1, none⟩ v1).setCell ⟨R, 2, none⟩ v2).setCell ⟨R, 3, none⟩ v3).setCell ⟨R, 4, none⟩ v4
theorem box5 {w : World} {R : Nat} {t : TypeId} {u0 u1 u2 u3 u4 : Value} (h : Blk w R t #[u0, u1, u2, u3, u4]) (v0 v1 v2 v3 v4 : Value) :
    w.cell? ⟨R, 0, none⟩ = some u0 ∧ w.frozen? ⟨R, 0, none⟩ = false ∧ (w.setCell ⟨R, 0, none⟩ v0).cell? ⟨R, 1, none⟩ = some u1 ∧ (w.setCell ⟨R, 0, none⟩ v0).frozen? ⟨R, 1, none⟩ = false ∧
      ((w.setCell ⟨R, 0, none⟩ v0).setCell ⟨R, 1, none⟩ v1).cell? ⟨R, 2, none⟩ = some u2 ∧ ((w.setCell ⟨R, 0, none⟩ v0).setCell ⟨R, 1, none⟩ v1).frozen? ⟨R, 2, none⟩ = false ∧
      (((w.setCell ⟨R, 0, none⟩ v0).setCell ⟨R, 1, none⟩ v1).setCell ⟨R, 2, none⟩ v2).cell? ⟨R, 3, none⟩ = some u3 ∧ (((w.setCell ⟨R, 0, none⟩ v0).setCell ⟨R, 1, none⟩ v1).setCell ⟨R, 2, none⟩ v2).frozen? ⟨R, 3, none⟩ = false ∧
      ((((w.setCell ⟨R, 0, none⟩ v0).setCell ⟨R, 1, none⟩ v1).setCell ⟨R, 2, none⟩ v2).setCell ⟨R, 3, none⟩ v3).cell? ⟨R, 4, none⟩ = some u4 ∧ ((((w.setCell ⟨R, 0, none⟩ v0).setCell ⟨R, 1, none⟩ v1).setCell ⟨R, 2, none⟩ v2).setCell ⟨R, 3, none⟩ v3).frozen? ⟨R, 4, none⟩ = false ∧
      Blk (res5 w R v0 v1 v2 v3 v4) R t #[v0, v1, v2, v3, v4] ∧ w.grownBy (res5 w R v0 v1 v2 v3 v4) (some R) := by
  have h1 := h.set_ 0 v0
  have h2 := h1.set_ 1 v1
  have h3 := h2.set_ 2 v2
  have h4 := h3.set_ 3 v3
  have h5 := h4.set_ 4 v4
  simp at h1 h2 h3 h4 h5
  refine ⟨h.cell 0, h.frozen 0, h1.cell 1, h1.frozen 1, h2.cell 2, h2.frozen 2, h3.cell 3, h3.frozen 3, h4.cell 4, h4.frozen 4, h5, ?_⟩
  unfold res5
  exact ((((grown1M _ _ _ _).trans (grown1M _ _ _ _)).trans (grown1M _ _ _ _)).trans (grown1M _ _ _ _)).trans (grown1M _ _ _ _)
theorem Trn.turn_new {base R : Nat} {w w1 w2 : World} (h : Trn base w w1) (hg : w1.grownBy w2 (some R)) (hR : w.heap.size ≤ R) (hb : base ≤ w.heap.size) : Trn base w w2 :=
  ⟨h.below.grown hg (Nat.le_trans hb h.size) (by intro q hq; injection hq with hq; omega), fun k cs t e h1 h2 => (h.keep k cs t e h1 h2).grown hg (by intro e2; injection e2 with e2; have := e.lt; omega)⟩
theorem Mg.turn_new {base b n c R : Nat} {A : Option Addr} {hs : List Hq} {w w2 : World} {cs : Array Value} (h : Mg w base b A n c hs) (hg : w.grownBy w2 (some R)) (hR : Blk w R 35 cs) (hl : ∀ x ∈ hs, ∀ ad, x.addr = some ad → ad.block ≠ R) : Mg w2 base b A n c hs := by
  have ne : ∀ {k : Nat} {t : TypeId} {cs' : Array Value}, Blk w k t cs' → t ≠ 35 → k ≠ R := by
    intro k t cs' hk ht e
    subst e
    unfold Blk at hk hR
    rw [hR] at hk
    injection hk with hk
    injection hk with _ e4
    exact ht e4.symm
  refine ⟨h.cell.grown hg (by intro e; injection e with e; exact ne h.cell (by decide) e), ⟨h.row.1, ?_⟩, h.len, h.bb, fun x hx => ?_, h.small⟩
  · rcases h.row.2 with h0 | ⟨g, cap, cur, e1, e2, e3, e4⟩
    · exact .inl h0
    · have hb : Blk w g 25 cur := e3
      exact .inr ⟨g, cap, cur, e1, e2, hb.grown hg (by intro e; injection e with e; exact ne hb (by decide) e), e4⟩
  · obtain ⟨ad, cs', e, e2, hb, hk, hc⟩ := (h.lst x hx).mem
    have hne := hl x hx ad e
    have hk' := hk.grown hg (by intro e3; injection e3 with e3; exact hne e3)
    exact ⟨(h.lst x hx).full, (h.lst x hx).cap, ad, cs', e, e2, hb, hk', fun j u hu => (World.cell?_of_block (by rw [block_of_add]; unfold Blk at hk hk'; rw [hk, hk'])).trans (hc j u hu)⟩

/-- all of it together: behind the first frame's list the others, with what is left of it -/
theorem took_of {w w2 w3 : World} {base b n n2 c2 R : Nat} {A2 : Option Addr} {hs hs' hs2 : List Hq} {x : Hq} {q : Fq} {t : List Fq} {cs : Array Value} (hw : ∀ y ∈ hs, LstOk w base y) (hbw : base ≤ w.heap.size) (hq : x.qs = q :: t) (hp : (x :: hs').Perm hs) (hR : w.heap.size ≤ R)
    (hm : Mg w2 base b A2 n2 c2 hs2) (hk : HpOk (keyL (fnH hs2)) n2) (ht : Trn base w w2) (hRb : Blk w2 R 35 cs) (hg : w2.grownBy w3 (some R))
    (hmr : ∀ out all, Mrg out (fnH hs) all → Mrg (out ++ [q.fn]) (if fns t = [] then fnH hs' else fnH hs' ++ [fns t]) all)
    (hcase : (t = [] ∧ hs2 = hs') ∨ (t ≠ [] ∧ ∃ x' : Hq, hs2.Perm (hs' ++ [x']) ∧ x'.qs = t ∧ inBlk [x] x')) : TookPost w base b n hs q w3 A2 n2 c2 hs2 := by
  have hxs : ∀ y ∈ x :: hs', y ∈ hs := fun y hy => hp.mem_iff.1 hy
  have self : ∀ y ∈ hs, inBlk hs y := fun y hy => by
    obtain ⟨ad, _, e, _⟩ := (hw y hy).mem
    exact ⟨y, hy, ad, ad, e, e, rfl⟩
  have hblk : ∀ y ∈ hs2, inBlk hs y := by
    rcases hcase with ⟨_, rfl⟩ | ⟨_, x', hp2, _, z, hz, ad, ad', e1, e2, e3⟩
    · exact fun y hy => self y (hxs y (List.mem_cons_of_mem _ hy))
    · intro y hy
      have := hp2.mem_iff.1 hy
      simp only [List.mem_append, List.mem_singleton] at this
      rcases this with h | rfl
      · exact self y (hxs y (List.mem_cons_of_mem _ h))
      · simp only [List.mem_singleton] at hz
        subst hz
        exact ⟨z, hxs z List.mem_cons_self, ad, ad', e1, e2, e3⟩
  have hpool : (q :: poolH hs2).Perm (poolH hs) := by
    refine List.Perm.trans ?_ (poolH_perm hp)
    rw [poolH_cons, hq]
    rcases hcase with ⟨rfl, rfl⟩ | ⟨_, x', hp2, rfl, _⟩
    · exact List.Perm.refl _
    · refine List.Perm.cons q ((poolH_perm hp2).trans ?_)
      rw [poolH_append]
      have e : poolH [x'] = x'.qs := by simp [poolH]
      rw [e]
      exact List.perm_append_comm
  refine ⟨hm.turn_new hg hRb (fun y hy ad e => ?_), hk, ht.turn_new hg hR hbw, hpool, hblk, fun out all h => ?_⟩
  · obtain ⟨z, hz, ad1, ad2, e1, e2, e3⟩ := hblk y hy
    obtain ⟨ad3, e4, hlt⟩ := (hw z hz).lt
    rw [e] at e1
    injection e1 with e1
    rw [e2] at e4
    injection e4 with e4
    rw [e1, e3, e4]
    omega
  · have h2 := hmr out all h
    rcases hcase with ⟨rfl, rfl⟩ | ⟨hne, x', hp2, rfl, _⟩
    · rw [if_pos (show fns [] = [] from rfl)] at h2; exact h2
    · rw [if_neg (by unfold fns; simpa using hne)] at h2
      refine h2.perms ?_
      have e : fnH hs' ++ [fns x'.qs] = fnH (hs' ++ [x']) := by rw [fnH_append]; rfl
      rw [e]
      unfold fnH
      exact hp2.map _

set_option maxHeartbeats 6400000 in
theorem take_any (base b n c : Nat) (A : Option Addr) (hs : List Hq) (x : Hq) (q : Fq) (t : List Fq) (w : World) (hm : Mg w base b A (n + 1) c hs) (hx : hs[0]? = some x) (hk : HpOk (keyL (fnH hs)) (n + 1)) (hq : x.qs = q :: t) :
    Calls Try.prog 28 #[.pointer (some ⟨b, 0, none⟩)] w fun e w' => e = .returned (.agg #[.int .i64 q.zone, .int .i64 q.word, .int .i64 q.kind, .int .i64 q.seq, q.sl]) ∧ ∃ A2 n2 c2 hs2, TookPost w base b n hs q w' A2 n2 c2 hs2 := by
  obtain ⟨W0, hW0⟩ : ∃ W0, w.alloc (.cells #[.int .i64 0, .int .i64 0, .int .i64 0, .int .i64 0, .slice none 0 0] 35) = W0 := ⟨_, rfl⟩
  have HB0 := hide (show Below w.heap.size w W0 by rw [← hW0]; exact below_new w _)
  have HRC := hide (show Blk W0 w.heap.size 35 #[.int .i64 0, .int .i64 0, .int .i64 0, .int .i64 0, .slice none 0 0] by rw [← hW0]; exact res_cell w)
  have HM0 := hide (hm.below HB0.out hm.bw)
  have HT0 := hide (Trn.of_below HB0.out hm.bw)
  have HWL := hide hm.lst
  have HLX := hide ((hm.lst x (List.mem_of_getElem? hx)).trn HT0.out)
  have HPOP := hide (hpop_any base b n c A hs x W0 HM0.out hx hk)
  have hsm := hm.small
  have HQ := hide hq
  have HXI := hide (List.mem_of_getElem? hx)
  have hbw := hm.bw
  clear hm hx hk hq
  obtain ⟨ad, hxa⟩ : ∃ ad, x.addr = some ad := by obtain ⟨ad, _, e, _⟩ := HLX.out.mem; exact ⟨ad, e⟩
  have HXA := hide hxa
  have hTA : ∀ W, Sem.run Try.prog (Instr.typeAssert (.iface 25 (.slice (some ad) x.qs.length x.cap)) 20 25 false) W = .ok (.slice (some ad) x.qs.length x.cap) W := fun W => by kernel_rfl
  unfold hpV at HPOP
  unfold Hq.sl at HPOP
  rw [hxa] at HPOP
  have hcap := HLX.out.cap
  have hlq : x.qs.length = t.length + 1 := by rw [HQ.out]; rfl
  clear hxa
  have c1 : (1 : Int) ≤ (x.qs.length : Int) := by omega
  have c2' : (x.qs.length : Int) ≤ (x.cap : Int) := by omega
  have c3 : (1 : Int) ≤ (x.cap : Int) := by omega
  have HLQ := hide hlq
  have HCAP := hide hcap
  clear hlq hcap
  obtain ⟨L, hL⟩ : ∃ L, x.qs.length = L := ⟨_, rfl⟩
  obtain ⟨C, hC⟩ : ∃ C, x.cap = C := ⟨_, rfl⟩
  rw [hL, hC] at hTA
  rw [hL, hC] at HPOP
  rw [hL] at c1
  rw [hL, hC] at c2'
  rw [hC] at c3
  have HLL := hide hL
  have HCC := hide hC
  clear hL hC
  go_enter Try.func28, Try.ntmps28
  go_wp2_with fail
  refine HPOP.out.mono ?_
  rintro e w1 ⟨rfl, A2, c2, hs', hp⟩
  have HTP := hide hp
  have HT1 := hide (HT0.out.trans hp.trn)
  have HX1 := hide (HLX.out.trn hp.trn)
  have HR1 := hide (hp.trn.blk HRC.out (by decide) (by decide))
  have HMR := hide fun (out all : List Fn) (h : Mrg out (fnH hs) all) => mrg_took HQ.out hp.perm hp.low h
  have hsz : w.heap.size + 1 ≤ w1.heap.size := by have := hp.trn.size; have e : W0.heap.size = w.heap.size + 1 := (by rw [← hW0]; simp)
                                                  omega
  clear hp
  rcases t with _ | ⟨q2, t⟩
  · have hL1 : L = 1 := by rw [← HLL.out, HLQ.out]; rfl
    subst hL1
    go_wp2_with fail
    all_goals
      refine (add_none _ _ _ _).mono ?_
      rintro e w2 ⟨rfl, rfl⟩
      have HX2 := hide HX1.out
      have HR2 := hide HR1.out
      have HM2 := hide HTP.out.mg
      have HK2 := hide HTP.out.heap
      have HT2 := hide HT1.out
      have HCASE : Hid ((([] : List Fq) = [] ∧ hs' = hs') ∨ (([] : List Fq) ≠ [] ∧ ∃ x' : Hq, hs'.Perm (hs' ++ [x']) ∧ x'.qs = [] ∧ inBlk [x] x')) := .inl ⟨rfl, rfl⟩
      have hx2 := (HX2.out.head_at HQ.out HXA.out)
      obtain ⟨d0, d1, d2, d3, d4⟩ := hx2
      have HF := hide (fun v0 v1 v2 v3 v4 => box5 HR2.out v0 v1 v2 v3 v4)
      obtain ⟨qz, qa, qk, qs, qv, qp, qc⟩ := q
      simp only [Fq.sl] at d0 d1 d2 d3 d4
      obtain ⟨ql, hql⟩ : ∃ l, qv.length = l := ⟨_, rfl⟩
      rw [hql] at d4
      obtain ⟨r0, f0, r1, f1, r2, f2, r3, f3, r4, f4, hfb, hfg⟩ := HF.out (.int .i64 qz) (.int .i64 qa) (.int .i64 qk) (.int .i64 qs) (.slice qp ql qc)
      have HFB := hide hfb
      have z0 := hfb.cell 0
      have z1 := hfb.cell 1
      have z2 := hfb.cell 2
      have z3 := hfb.cell 3
      have z4 := hfb.cell 4
      simp only [List.getElem?_toArray, List.getElem?_cons_zero, List.getElem?_cons_succ] at z0 z1 z2 z3 z4
      have HTOOK := hide (took_of (n := n) HWL.out hbw HQ.out HTP.out.perm (Nat.le_refl _) HM2.out HK2.out HT2.out HR2.out hfg HMR.out HCASE.out)
      unfold res5 at z0 z1 z2 z3 z4 HTOOK
      have HQL := hide hql
      clear hfb hfg hql HF
      go_wp2
      refine bodyPost_ret (v := .agg #[.int .i64 qz, .int .i64 qa, .int .i64 qk, .int .i64 qs, .slice qp ql qc]) (by simp [results, Try.results28, go_sem, z0, z1, z2, z3, z4]) rfl ?_
      exact ⟨by rw [← HQL.out]; rfl, _, _, _, _, HTOOK.out⟩
  · have hL2 : 1 < L := by rw [← HLL.out, HLQ.out]; simp
    have hC2 : C ≠ 1 := by have := HCAP.out.1; rw [HLL.out, HCC.out] at this; omega
    have hl2 : (q2 :: t).length = L - 1 := by rw [← HLL.out, HLQ.out]; rfl
    have HAD := hide (add_any base b n c2 A2 hs' ⟨some (ad.add 5), x.cap - 1, q2 :: t⟩ w1 HTP.out.mg (HX1.out.tail HQ.out ad HXA.out) (by omega) HTP.out.heap)
    unfold Hq.sl at HAD
    simp only at HAD
    rw [hl2, HCC.out, HX1.out.spot HXA.out] at HAD
    clear hl2
    go_wp2_with fail
    refine HAD.out.mono ?_
    rintro e w2 ⟨rfl, A3, c4, hs3, h3⟩
    have HM2 := hide h3.mg
    have HK2 := hide h3.heap
    have HT2 := hide (HT1.out.trans h3.trn)
    have HX2 := hide (HX1.out.trn h3.trn)
    have HR2 := hide (h3.trn.blk HR1.out (by decide) (by decide))
    have HCASE : Hid (((q2 :: t : List Fq) = [] ∧ hs3 = hs') ∨ ((q2 :: t : List Fq) ≠ [] ∧ ∃ x' : Hq, hs3.Perm (hs' ++ [x']) ∧ x'.qs = q2 :: t ∧ inBlk [x] x')) :=
      .inr ⟨by simp, ⟨some ⟨ad.block, ad.off + 5, none⟩, C - 1, q2 :: t⟩, h3.perm, rfl, x, List.mem_singleton.2 rfl, ⟨ad.block, ad.off + 5, none⟩, ad, rfl, HXA.out, rfl⟩
    clear h3 HAD
    have hx2 := (HX2.out.head_at HQ.out HXA.out)
    obtain ⟨d0, d1, d2, d3, d4⟩ := hx2
    have HF := hide (fun v0 v1 v2 v3 v4 => box5 HR2.out v0 v1 v2 v3 v4)
    obtain ⟨qz, qa, qk, qs, qv, qp, qc⟩ := q
    simp only [Fq.sl] at d0 d1 d2 d3 d4
    obtain ⟨ql, hql⟩ : ∃ l, qv.length = l := ⟨_, rfl⟩
    rw [hql] at d4
    obtain ⟨r0, f0, r1, f1, r2, f2, r3, f3, r4, f4, hfb, hfg⟩ := HF.out (.int .i64 qz) (.int .i64 qa) (.int .i64 qk) (.int .i64 qs) (.slice qp ql qc)
    have HFB := hide hfb
    have z0 := hfb.cell 0
    have z1 := hfb.cell 1
    have z2 := hfb.cell 2
    have z3 := hfb.cell 3
    have z4 := hfb.cell 4
    simp only [List.getElem?_toArray, List.getElem?_cons_zero, List.getElem?_cons_succ] at z0 z1 z2 z3 z4
    have HTOOK := hide (took_of (n := n) HWL.out hbw HQ.out HTP.out.perm (Nat.le_refl _) HM2.out HK2.out HT2.out HR2.out hfg HMR.out HCASE.out)
    unfold res5 at z0 z1 z2 z3 z4 HTOOK
    have HQL := hide hql
    clear hfb hfg hql HF
    go_wp2
    refine bodyPost_ret (v := .agg #[.int .i64 qz, .int .i64 qa, .int .i64 qk, .int .i64 qs, .slice qp ql qc]) (by simp [results, Try.results28, go_sem, z0, z1, z2, z3, z4]) rfl ?_
    exact ⟨by rw [← HQL.out]; rfl, _, _, _, _, HTOOK.out⟩
end Go.Proofs.Ytcocboigjfjnfac
