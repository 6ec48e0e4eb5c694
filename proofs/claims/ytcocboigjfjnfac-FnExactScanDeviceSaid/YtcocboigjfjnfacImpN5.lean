/-
  The program's ScanDevice: the frames of all zones, merged by the heap.
-/
import Derived.Test.YtcocboigjfjnfacHeapT
import Derived.Test.YtcocboigjfjnfacSortF
import Derived.Test.YtcocboigjfjnfacImpN1
import Derived.Test.YtcocboigjfjnfacSpecN3
namespace Go.Proofs.Ytcocboigjfjnfac
open Go.RowKit
set_option linter.unusedVariables false
set_option maxRecDepth 100000

/-! ### Plain: the order of the scans is the document's -/
theorem scan_ah (z : Int) (xs : List Int) : ∀ a, (scanW z xs a).1.Pairwise ahF ∧ ∀ f ∈ (scanW z xs a).1, f.1 = z ∧ (a : Int) ≤ f.2.1 :=
  scan_ind (fun a h => by rw [scanW_no z h]; exact ⟨List.Pairwise.nil, by simp⟩) (fun a h ih => by
    rw [scanW_yes z h]
    refine ⟨List.pairwise_cons.2 ⟨fun g hg => ?_, ih.1⟩, fun f hf => ?_⟩
    · have := ih.2 g hg
      exact .inr ⟨this.1.symm, by show ((a : Nat) : Int) < g.2.1; have := this.2; omega⟩
    · simp only [List.mem_cons] at hf
      rcases hf with rfl | hf
      · exact ⟨rfl, Int.le_refl _⟩
      · have := ih.2 f hf; exact ⟨this.1, by omega⟩)
theorem scansZ_at (d : Dev) {k i : Nat} {g : List Fn} (h : (scansZ d k)[i]? = some g) : i < k ∧ g = (scanW (i : Int) (d.getD i ([], 0, false)).1 0).1 := by
  unfold scansZ at h
  rw [List.getElem?_map] at h
  rcases hr : (List.range k)[i]? with _ | j
  · rw [hr] at h; cases h
  · rw [hr] at h
    obtain ⟨hl, e⟩ := List.getElem?_eq_some_iff.1 hr
    rw [List.getElem_range] at e
    subst e
    rw [List.length_range] at hl
    injection h with h
    exact ⟨hl, h.symm⟩
theorem devF_le (d : Dev) : (devF d).Pairwise leF := by
  refine orderF_le _ (fun i j a b hij ha hb f hf g hg => ?_) (fun g hg => ?_)
  · obtain ⟨_, rfl⟩ := scansZ_at d ha
    obtain ⟨_, rfl⟩ := scansZ_at d hb
    have h1 := ((scan_ah _ _ 0).2 f hf).1
    have h2 := ((scan_ah _ _ 0).2 g hg).1
    omega
  · obtain ⟨k, hk⟩ := List.getElem?_of_mem hg
    obtain ⟨_, rfl⟩ := scansZ_at d hk
    exact (scan_ah _ _ 0).1
theorem scan_key (d : Dev) (k : Nat) : ∀ f ∈ (scansZ d k).flatten, ∀ g ∈ (scansZ d k).flatten, f.1 = g.1 → f.2.1 = g.2.1 → f = g := by
  intro f hf g hg h1 h2
  obtain ⟨a, ha, hfa⟩ := List.mem_flatten.1 hf
  obtain ⟨b, hb, hgb⟩ := List.mem_flatten.1 hg
  obtain ⟨i, hi⟩ := List.getElem?_of_mem ha
  obtain ⟨j, hj⟩ := List.getElem?_of_mem hb
  obtain ⟨_, rfl⟩ := scansZ_at d hi
  obtain ⟨_, rfl⟩ := scansZ_at d hj
  have e1 := ((scan_ah _ _ 0).2 f hfa).1
  have e2 := ((scan_ah _ _ 0).2 g hgb).1
  obtain rfl : i = j := by omega
  obtain ⟨x, _, rfl⟩ := scan_mem _ _ _ f hfa
  obtain ⟨y, _, rfl⟩ := scan_mem _ _ _ g hgb
  have : (x : Int) = (y : Int) := h2
  obtain rfl : x = y := by omega
  rfl
theorem mrg_devF {out : List Fn} {d : Dev} {all : List Fn} (h : Mrg out [] all) (ha : all.Perm (scansZ d d.length).flatten) : out = devF d := by
  obtain ⟨h1, h2⟩ := h.end_
  exact orderF_eq (devF_le d) (scan_key d d.length) (h1.trans ha) h2

/-! ### What ScanDevice knows -/
/-- frames with bodies of their own, apart from each other -/
def Apart (qs : List Fq) : Prop := qs.Pairwise fun q r => ∀ g, q.sl.ownBlock = some g → r.sl.ownBlock ≠ some g
theorem Apart.perm {qs rs : List Fq} (h : Apart qs) (hp : rs.Perm qs) : Apart rs := (hp.symm.pairwise_iff (fun {a b} hab g hb e => hab g e hb)).1 h
theorem OwnF.apart {w : World} {base n c : Nat} {A : Option Addr} {qs : List Fq} (h : OwnF w base A n c qs) : Apart qs := by
  unfold Apart
  rw [List.pairwise_iff_getElem]
  intro i j hi hj hij g1 hg1
  exact h.sep i j _ _ (List.getElem?_eq_getElem hi) (List.getElem?_eq_getElem hj) (by omega) g1 hg1
theorem OwnF.owns {w : World} {base n c : Nat} {A : Option Addr} {qs : List Fq} (h : OwnF w base A n c qs) : ∀ q ∈ qs, Own w base q.addr q.vals.length q.cap q.vals := fun q hq => by
  obtain ⟨k, hk⟩ := List.getElem?_of_mem hq
  exact h.own k q hk

/-- the lists that are in the heap: their bodies are the call's own -/
structure Pool (w : World) (base b : Nat) (A : Option Addr) (n c : Nat) (hs : List Hq) : Prop where
  mg : Mg w base b A n c hs
  heap : HpOk (keyL (fnH hs)) n
  own : ∀ q ∈ poolH hs, Own w base q.addr q.vals.length q.cap q.vals
  apart : Apart (poolH hs)
theorem Pool.below {w w' : World} {base b n c : Nat} {A : Option Addr} {hs : List Hq} (h : Pool w base b A n c hs) (hb : Below w.heap.size w w') : Pool w' base b A n c hs :=
  ⟨h.mg.below hb h.mg.bw, h.heap, fun q hq => (h.own q hq).below hb, h.apart⟩

/-- a row of the call's own as a list of the heap -/
theorem OwnF.lst {w : World} {base n c : Nat} {A : Option Addr} {qs : List Fq} (h : OwnF w base A n c qs) (hn : 0 < n) : LstOk w base ⟨A, c, qs⟩ := by
  rcases h.row.2 with ⟨hv, h0⟩ | ⟨g, cap, cur, hv, hb, hh, hc, hm, hs, ht⟩
  · omega
  · injection hv with h1 h2 h3
    subst h1
    refine ⟨fun e => ?_, ⟨by show qs.length ≤ c; rw [h.len]; exact h.cap.1, h.cap.2⟩, ⟨g, 0, none⟩, cur, rfl, rfl, hb, hh, fun j u hu => h.row.cells rfl j u hu⟩
    have hl := h.len
    have e' : qs = [] := e
    rw [e'] at hl
    simp at hl
    omega
theorem HeapPost.pool {w w' : World} {base b n c : Nat} {A : Option Addr} {hs hs' : List Hq} {x : Hq} (h : HeapPost w base b n A c (hs ++ [x]) n w' hs') (hown : ∀ q ∈ poolH hs ++ x.qs, Own w base q.addr q.vals.length q.cap q.vals) (hap : Apart (poolH hs ++ x.qs)) :
    Pool w' base b A n c hs' ∧ (poolH hs').Perm (poolH hs ++ x.qs) := by
  have e : (poolH hs').Perm (poolH hs ++ x.qs) := by
    have h1 := poolH_perm h.perm
    rw [poolH_append] at h1
    have e2 : poolH [x] = x.qs := by simp [poolH]
    rwa [e2] at h1
  exact ⟨⟨h.mg, h.heap, fun q hq => h.trn.own (hown q (e.mem_iff.1 hq)), hap.perm e⟩, e⟩

theorem poolH_none : poolH [] = [] := rfl
/-- a new heap: its cell alone -/
theorem Mg.new (w : World) : Mg (w.alloc (.cells #[.slice none 0 0] 53)) w.heap.size w.heap.size none 0 0 [] :=
  ⟨Blk.new w _ _, World.ownsRow_nil _ _ _ _, rfl, Nat.le_refl _, by simp, by omega⟩

/-- what the second loop knows: what is in the heap, what was taken -/
structure Run (wr : World) (b : Nat) (A2 : Option Addr) (m2 c2 : Nat) (hs : List Hq) (A8 : Option Addr) (j c8 : Nat) (rs : List Fq) (all : List Fn) (N : Nat) : Prop where
  pool : Pool wr b b A2 m2 c2 hs
  own : OwnF wr b A8 j c8 rs
  apart : Apart (rs ++ poolH hs)
  far : ∀ x ∈ hs, ∀ ad, x.addr = some ad → (Value.slice A8 j c8).ownBlock ≠ some ad.block
  mrg : Mrg (fns rs) (fnH hs) all
  num : j + (poolH hs).length = N
section
variable {wr w1 w2 : World} {b m2 c2 j c8 N n n3 c3 c9 : Nat} {A2 A3 A8 A9 : Option Addr} {hs hs2 : List Hq} {rs : List Fq} {all : List Fn} {q : Fq}
theorem Run.news (h : Run wr b A2 m2 c2 hs A8 j c8 rs all N) (ht : TookPost wr b b n hs q w1 A3 n3 c3 hs2) :
    NewF (w1.alloc (.cells #[.int .i64 q.zone, .int .i64 q.word, .int .i64 q.kind, .int .i64 q.seq, q.sl] 35)) b j A8 c8 rs (some ⟨w1.heap.size, 0, none⟩) 1 [q] := by
  have hq : q ∈ poolH hs := ht.pool.mem_iff.1 List.mem_cons_self
  refine NewF.one ((ht.trn.ownF h.own).alloc _) (fnd_cells w1 q) ((ht.trn.own (h.pool.own q hq)).alloc _) (fun k r hk g hg => ?_)
  have hp := List.pairwise_append.1 h.apart
  exact hp.2.2 r (List.mem_of_getElem? hk) q hq g hg
theorem Mg.app {w w' : World} {base b n c j c8 : Nat} {A A8 : Option Addr} {hs : List Hq} {rs : List Fq} (h : Mg w base b A n c hs) (ho : OwnF w base A8 j c8 rs) (hg : w.grownBy w' (Value.slice A8 j c8).ownBlock)
    (far : ∀ x ∈ hs, ∀ ad, x.addr = some ad → (Value.slice A8 j c8).ownBlock ≠ some ad.block) : Mg w' base b A n c hs := by
  rcases ho.row.2 with ⟨hv, h0⟩ | ⟨g, cap, cur, hv, hb, hh, hc, hm, hs', ht⟩
  · rw [hv] at hg
    refine h.below ⟨hg.os, hg.tape, hg.output, hg.size, fun k hk => hg.block k hk (by simp [Value.ownBlock])⟩ h.bw
  · have hbl : Blk w g 35 cur := hh
    rw [hv] at hg far
    exact h.turn_new hg hbl (fun x hx ad e e2 => far x hx ad e (by rw [e2]; rfl))
theorem Run.step (h : Run wr b A2 m2 c2 hs A8 j c8 rs all N) (ht : TookPost wr b b n hs q w1 A3 n3 c3 hs2) {o : Obj} (ho : OwnF w2 b A9 (j + 1) c9 (rs ++ [q])) (hg : (w1.alloc o).grownBy w2 (Value.slice A8 j c8).ownBlock)
    (hat : (Value.slice A9 (j + 1) c9).ownBlock = (Value.slice A8 j c8).ownBlock ∨ (Value.slice A9 (j + 1) c9).ownBlock = some (w1.alloc o).heap.size) : Run w2 b A3 n3 c3 hs2 A9 (j + 1) c9 (rs ++ [q]) all N := by
  have hb1 : Below w1.heap.size w1 (w1.alloc o) := (Below.refl _ w1).alloc (Nat.le_refl _) o
  have ho1 : OwnF (w1.alloc o) b A8 j c8 rs := (ht.trn.ownF h.own).alloc o
  have hfar : ∀ x ∈ hs2, ∀ ad, x.addr = some ad → (Value.slice A8 j c8).ownBlock ≠ some ad.block ∧ ad.block < wr.heap.size := by
    intro x hx ad e
    obtain ⟨y, hy, a1, a2, e1, e2, e3⟩ := ht.blks x hx
    rw [e] at e1
    injection e1 with e1
    subst e1
    obtain ⟨a3, e4, hlt⟩ := (h.pool.mg.lst y hy).lt
    rw [e2] at e4
    injection e4 with e4
    subst e4
    exact ⟨by rw [e3]; exact h.far y hy _ e2, by rw [e3]; exact hlt⟩
  have hmg := (ht.mg.below hb1 ht.mg.bw).app ho1 hg (fun x hx ad e => (hfar x hx ad e).1)
  have hmem : ∀ r ∈ poolH hs2, r ∈ poolH hs := fun r hr => ht.pool.mem_iff.1 (List.mem_cons_of_mem _ hr)
  have hpp : (rs ++ [q] ++ poolH hs2).Perm (rs ++ poolH hs) := by
    rw [List.append_assoc]
    exact List.Perm.append_left rs ht.pool
  have hap := h.apart.perm hpp
  have hlen := ht.pool.length_eq
  refine ⟨⟨hmg, ht.heap, fun r hr => ((ht.trn.own (h.pool.own r (hmem r hr))).alloc o).kept hg (fun g hg2 => ?_), (List.pairwise_append.1 hap).2.1⟩, ho, hap, fun x hx ad e => ?_, ?_, ?_⟩
  · have hb := (ht.trn.own (h.pool.own r (hmem r hr))).alloc o
    exact rows_neF ho1.row hb.2 (by decide) hg2
  · obtain ⟨h1, h2⟩ := hfar x hx ad e
    rcases hat with h3 | h3
    · rw [h3]; exact h1
    · rw [h3]
      intro e2
      injection e2 with e2
      have := ht.trn.size
      have := hb1.size
      omega
  · rw [fns_append]
    exact ht.mrg _ _ h.mrg
  · have := h.num
    simp only [List.length_cons] at hlen
    omega
end
theorem sum_leN {zs : List (List Fn)} {K : Nat} (h : ∀ g ∈ zs, g.length ≤ K) : sumL zs ≤ zs.length * K := by
  induction zs with
  | nil => exact Nat.zero_le _
  | cons g gs ih =>
    have h1 := h g List.mem_cons_self
    have h2 := ih fun x hx => h x (List.mem_cons_of_mem _ hx)
    simp only [sumL, List.length_cons, Nat.succ_mul]
    omega
def sliceLen : Value → Nat
  | .slice _ n _ => n
  | _ => 0

set_option maxHeartbeats 12800000 in
theorem implDeviceF (A : Option Addr) (n c B : Nat) (qs : List Zq) (w : World) (hr : Zns w B A n qs) (hB : B ≤ w.heap.size) (hn : n ≤ 1000000000000) (hv : devV (zns qs) = true) :
    Calls Try.prog 7 #[.slice A n c] w fun e w' => ∃ A2 c2 m rs, e = .returned (.slice A2 m c2) ∧ OwnF w' w.heap.size A2 m c2 rs ∧ fns rs = devF (zns qs) ∧ Below w.heap.size w w' := by
  have HR := hide hr
  have HBB := hide hB
  have hd := implDV A n c B qs w hr hB hn
  rw [hv] at hd
  have HD := hide hd
  obtain rfl : n = 4 := devV_is4 hv hr.1
  have HL4 : Hid ((zns qs).length = 4) := by show _ = _; rw [zns, List.length_map]; exact hr.1
  have HV := hide fun (k : Nat) (q : Zq) (h : qs[k]? = some q) => devV_words hv h
  clear hr hd hv hn
  go_enter Try.func7, Try.ntmps7
  go_wp2_with fail
  refine HD.out.mono ?_
  rintro e w1 ⟨rfl, hb1⟩
  have HB1 := hide hb1
  clear hb1
  have HNEW := hide (Mg.new w1)
  obtain ⟨W0, hW0⟩ : ∃ W0, w1.alloc (.cells #[.slice none 0 0] 53) = W0 := ⟨_, rfl⟩
  obtain ⟨b, hb⟩ : ∃ b, w1.heap.size = b := ⟨_, rfl⟩
  rw [hW0, hb] at HNEW
  have HW0 := hide (show Below w.heap.size w W0 by rw [← hW0]; exact HB1.out.alloc HB1.out.size _)
  have HWB := hide (show w.heap.size ≤ b by rw [← hb]; exact HB1.out.size)
  have HWS := hide (show W0.heap.size = b + 1 by rw [← hW0, ← hb]; simp)
  go_wp2
  go_loopw [14] (fun zv wr => ∃ (k m2 c2 : Nat) (A2 : Option Addr) (hs : List Hq), k ≤ 4 ∧ m2 ≤ k ∧ zv = .int .i64 k ∧ Hid (Pool wr b b A2 m2 c2 hs) ∧ Hid (∃ all, Mrg [] (fnH hs) all ∧ all.Perm (scansZ (zns qs) k).flatten) ∧ Hid (Below w.heap.size w wr) ∧ Hid (b + 1 ≤ wr.heap.size)) (fun zv _ => 4 - (intOf zv).toNat)
  case atStart => exact ⟨0, 0, 0, none, [], Nat.zero_le _, Nat.le_refl _, rfl, ⟨HNEW.out, fun c h0 hc => by omega, by simp [poolH], List.Pairwise.nil⟩, ⟨[], Mrg.none, List.Perm.refl _⟩, HW0.out, by show _ ≤ _; rw [HWS.out]; exact Nat.le_refl _⟩
  case round =>
    obtain ⟨k, m2, c2, A2, hs, hk, hmk, rfl, HPL, HMR, HB, HBS⟩ := hrel
    have hs1 := HB.out.size
    have hbs := HBS.out
    by_cases hlt : k < 4
    · obtain ⟨q, hq⟩ : ∃ q, qs[k]? = some q := ⟨_, List.getElem?_eq_getElem (by rw [HR.out.1]; exact hlt)⟩
      have hql := HV.out k q hq
      have HZ := hide (scansZ_succ hq)
      have hR := HR.out.below HB.out HBB.out
      obtain ⟨ad, p, rfl, hp, hpb, d0, d1, d2⟩ := hR.at_ hq
      obtain ⟨hi, hle, hcm⟩ := hR.words hq
      unfold maxLen at hcm
      have k0 : (0 : Int) ≤ (k : Int) := by omega
      have k1 : (k : Int) < ((4 : Nat) : Int) := by omega
      obtain ⟨W1, hW1⟩ : ∃ W1, wr.alloc (.cells #[q.sl, .int .i64 q.synced, .bool q.full] 40) = W1 := ⟨_, rfl⟩
      have HW1 := hide (show Below wr.heap.size wr W1 by rw [← hW1]; exact below_new wr _)
      have HX := hide (show Blk W1 wr.heap.size 40 #[q.sl, .int .i64 q.synced, .bool q.full] by rw [← hW1]; exact Blk.new wr _ _)
      have x0 : W1.cell? ⟨wr.heap.size, 0, none⟩ = some q.sl := HX.out.cell 0
      have hBw : B ≤ wr.heap.size := Nat.le_trans HBB.out hs1
      have HSC := hide (implScanL q.addr q.words.length q.cap (k : Int) q.words W1 ((hi.below HW1.out hBw).more (Nat.le_trans hBw HW1.out.size)) hle (by omega) (by omega))
      unfold ScanPost at HSC
      clear hR hi hle hcm hq
      unfold Zq.sl at *
      go_wp2_with fail
      refine HSC.out.mono ?_
      rintro e w2 ⟨A6, c6, m6, rs6, rfl, ho6, hf6, hb6⟩
      have HO6 := hide ho6
      have HB6 := hide hb6
      have hm6 : m6 ≤ 64 := by
        have := scan_count (k : Int) q.words 0
        rw [← hf6, fns_length, ho6.len] at this
        omega
      have HF6 := hide hf6
      have HSO := hide (sortF_any W1.heap.size m6 c6 A6 rs6 w2 ho6 hb6.size (by omega))
      clear ho6 hb6 hf6 HSC x0 d0 d1 d2 hW1
      go_wp2_with fail
      refine HSO.out.mono ?_
      rintro e w3 ⟨rfl, rs7, ho7, hp7, hso7, hb7⟩
      have HO7 := hide ho7
      have HP7 := hide hp7
      have HS7 := hide hso7
      have hb3 : Below wr.heap.size wr w3 := HW1.out.trans ((HB6.out.trans hb7).mono HW1.out.size)
      have HB3 := hide hb3
      have HBW3 := hide (HB.out.trans (hb3.mono hs1))
      have HPL3 := hide (HPL.out.below hb3)
      have hws : wr.heap.size ≤ W1.heap.size := HW1.out.size
      clear ho7 hp7 hso7 hb7 hb3 HSO
      by_cases hm0 : m6 = 0
      · subst hm0
        go_wp2_with fail
        refine (add_none _ _ _ _).mono ?_
        rintro e w4 ⟨rfl, rfl⟩
        go_wp2
        go_roundw
        case rel => exact ⟨k + 1, m2, c2, A2, hs, by omega, by omega, by go_num, HPL3.out, by
          obtain ⟨all, h1, h2⟩ := HMR.out
          refine ⟨all, h1, ?_⟩
          rw [HZ.out, List.flatten_append, ← HF6.out, List.eq_nil_of_length_eq_zero HO6.out.len]
          simpa [fns] using h2, HBW3.out, Nat.le_trans hbs HB3.out.size⟩
        case measure => simp [intOf]; omega
      · have HLS := hide ((HO7.out.mono (show b ≤ W1.heap.size by omega)).lst (by omega))
        have HAD := hide (add_any b b m2 c2 A2 hs ⟨A6, c6, rs7⟩ w3 HPL3.out.mg HLS.out (by omega) HPL3.out.heap)
        unfold Hq.sl at HAD
        simp only [HO7.out.len] at HAD
        go_wp2_with fail
        refine HAD.out.mono ?_
        rintro e w4 ⟨rfl, A4, c4, hs', h4⟩
        have HPOOL := hide (h4.pool (fun r hr => by
            simp only [List.mem_append] at hr
            rcases hr with hr | hr
            · exact HPL3.out.own r hr
            · exact (HO7.out.owns r hr).mono (by omega)) (List.pairwise_append.2 ⟨HPL3.out.apart, HO7.out.apart, fun r hr t ht g hg e2 => by
              have h1 := ((HPL.out.own r hr).block g hg).2
              have h2 := ((HO7.out.owns t ht).block g e2).1
              omega⟩))
        have HM4 : Hid (∃ all, Mrg [] (fnH hs') all ∧ all.Perm (scansZ (zns qs) (k + 1)).flatten) := by
          obtain ⟨all, h1, h2⟩ := HMR.out
          have hne : fns rs7 ≠ [] := fun e => by
            have := congrArg List.length e
            rw [fns_length, HO7.out.len] at this
            simp at this
            omega
          refine ⟨all ++ fns rs7, (h1.add hne HS7.out).perms ?_, ?_⟩
          · have e : fnH hs ++ [fns rs7] = fnH (hs ++ [⟨A6, c6, rs7⟩]) := by rw [fnH_append]; rfl
            rw [e]
            unfold fnH
            exact h4.perm.map _
          · rw [HZ.out, List.flatten_append, ← HF6.out]
            simp only [List.flatten_cons, List.flatten_nil, List.append_nil]
            exact h2.append (HP7.out.map _)
        have HB4 := hide (HBW3.out.trans (h4.trn.below.mono (by have := HWB.out; omega)))
        have hsz4 := h4.trn.size
        have HSZ4 := hide (show b + 1 ≤ w4.heap.size by have := HB3.out.size; omega)
        clear h4 HAD
        go_wp2
        go_roundw
        case rel => exact ⟨k + 1, m2 + 1, c4, A4, hs', by omega, by omega, by go_num, HPOOL.out.1, HM4.out, HB4.out, HSZ4.out⟩
        case measure => simp [intOf]; omega
    · have HK4 := hide (show k = 4 by omega)
      have hk4n : ¬ (k : Int) < 4 := by omega
      obtain ⟨all, hM1, hM2'⟩ := HMR.out
      have hM2 : all.Perm (scansZ (zns qs) 4).flatten := by rw [← HK4.out]; exact hM2'
      have HM1 := hide hM1
      have HM2 := hide (show all.Perm (scansZ (zns qs) (zns qs).length).flatten by rw [HL4.out]; exact hM2)
      obtain ⟨N, hN⟩ : ∃ N, 0 + (poolH hs).length = N := ⟨_, rfl⟩
      have HNB : Hid (N ≤ 10000000) := by
        show N ≤ _
        have e1 : (poolH hs).length = ((fnH hs).flatten).length := by
          unfold poolH fnH Hq.fs
          rw [List.length_flatten, List.length_flatten, List.map_map, List.map_map]
          congr 1
          exact List.map_congr_left fun x _ => by simp [fns]
        have e2 : ((fnH hs).flatten).length = all.length := by simpa using hM1.perm.length_eq
        have e3 := hM2.length_eq
        have e4 := (orderF_perm (scansZ (zns qs) 4)).length_eq
        rw [orderF_length] at e4
        have h1 : ∀ g ∈ scansZ (zns qs) 4, g.length ≤ 20 := by
          intro g hg
          obtain ⟨i, hi⟩ := List.getElem?_of_mem hg
          obtain ⟨hi4, rfl⟩ := scansZ_at _ hi
          have h2 := scan_count (i : Int) ((zns qs).getD i ([], 0, false)).1 0
          obtain ⟨q, hq⟩ : ∃ q, qs[i]? = some q := ⟨_, List.getElem?_eq_getElem (by rw [HR.out.1]; exact hi4)⟩
          have h3 := HV.out i q hq
          have h4 : (zns qs).getD i ([], 0, false) = q.zn := by simp [zns, List.getD, hq]
          rw [h4] at h2
          have h5 : q.zn.1 = q.words := rfl
          rw [h4, h5]
          rw [h5] at h2
          omega
        have h2 := sum_leN h1
        have h3 : (scansZ (zns qs) 4).length = 4 := by unfold scansZ; rw [List.length_map, List.length_range]
        omega
      have HRUN := hide (show Run wr b A2 m2 c2 hs none 0 0 [] all N from ⟨HPL.out, OwnF.nil_ _ _, by simpa using HPL.out.apart, fun x hx ad e => by simp [Value.ownBlock], by simpa [fns] using hM1, hN⟩)
      clear hM1 hM2 hM2' hN HPL HMR
      go_wp2
      go_loopw [8] (fun lv w5 => ∃ (j c8 m3 c3 : Nat) (A8 A3 : Option Addr) (hs3 : List Hq) (rs : List Fq), lv = .slice A8 j c8 ∧ Hid (Run w5 b A3 m3 c3 hs3 A8 j c8 rs all N) ∧ Hid (Below w.heap.size w w5)) (fun lv _ => N - sliceLen lv)
      case atStart => exact ⟨0, 0, m2, c2, none, A2, hs, [], rfl, HRUN.out, HB.out⟩
      case round =>
        clear HRUN HB
        obtain ⟨j, c8, m3, c3, A8, A3, hs3, rs, rfl, HRUN, HB⟩ := hrel
        have hs5 := HB.out.size
        have hnum := HRUN.out.num
        have hNB := HNB.out
        have c0 := mg_cell HRUN.out.pool.mg
        have hml := HRUN.out.pool.mg.len
        rcases m3 with _ | m3
        · have HE : Hid (fns rs = devF (zns qs)) := by
            have h := HRUN.out.mrg
            rw [List.eq_nil_of_length_eq_zero hml] at h
            exact mrg_devF h HM2.out
          have HO := hide (HRUN.out.own.mono HWB.out)
          clear hml
          go_wp2
          go_ret
          exact ⟨A8, c8, j, rs, rfl, HO.out, HE.out, HB.out⟩
        · obtain ⟨x, hx⟩ : ∃ x, hs3[0]? = some x := ⟨_, List.getElem?_eq_getElem (by omega)⟩
          obtain ⟨q, t, hqt⟩ := List.exists_cons_of_ne_nil (HRUN.out.pool.mg.lst x (List.mem_of_getElem? hx)).full
          have HTK := hide (take_any b b m3 c3 A3 hs3 x q t wr HRUN.out.pool.mg hx HRUN.out.pool.heap hqt)
          have hjN : j < N := by
            have h1 : q ∈ poolH hs3 := List.mem_flatten.2 ⟨x.qs, List.mem_map.2 ⟨x, List.mem_of_getElem? hx, rfl⟩, by rw [hqt]; exact List.mem_cons_self⟩
            have := List.length_pos_of_mem h1
            omega
          obtain ⟨M, hM⟩ : ∃ M, m3 + 1 = M := ⟨_, rfl⟩
          have hM0 : (0 : Int) < (M : Int) := by omega
          rw [hM] at c0
          clear hx hqt hml hM
          go_wp2_with fail
          refine HTK.out.mono ?_
          rintro e w6 ⟨rfl, A5, n5, c5, hs5', ht⟩
          have HNW := hide (HRUN.out.news ht)
          have HT := hide ht
          have hbw : b ≤ (w6.alloc (.cells #[.int .i64 q.zone, .int .i64 q.word, .int .i64 q.kind, .int .i64 q.seq, q.sl] 35)).heap.size := by
            have h1 := HRUN.out.pool.mg.bw
            have h2 := ht.trn.size
            simp
            omega
          have hj9 : j + 1 ≤ 100000000000 := by omega
          have HW6 := hide (HB.out.trans (ht.trn.below.mono HWB.out))
          clear ht HTK
          go_wp2_with (at_builtin; refine wpList_append_fnds rfl (.tmp 34) (.tmp 36) rfl b j c8 1 1 A8 (some ⟨w6.heap.size, 0, none⟩) rs [q] rfl rfl HNW.out hj9 hbw ?_; intro A9 c9 w7 ho7 hg7 hat7)
          have HRUN7 := hide (HRUN.out.step HT.out ho7 hg7 hat7)
          have HW7 := hide ((HW6.out.alloc HW6.out.size _).grown hg7 (by have := HW6.out.size; simp; omega) (fun g e => by have := (HRUN.out.own.block g e).1; have := HWB.out; omega))
          clear ho7 hg7 hat7
          go_roundw
          case rel => exact ⟨j + 1, c9, n5, c5, A9, A5, hs5', rs ++ [q], rfl, HRUN7.out, HW7.out⟩
          case measure => simp [sliceLen]; omega

set_option maxHeartbeats 1600000 in
theorem implScanD (A : Option Addr) (n c B : Nat) (qs : List Zq) (w : World) (hr : Zns w B A n qs) (hB : B ≤ w.heap.size) (hn : n ≤ 1000000000000) :
    Calls Try.prog 7 #[.slice A n c] w fun e w' => ∃ A2 c2 m rs, e = .returned (.slice A2 m c2) ∧ OwnF w' w.heap.size A2 m c2 rs ∧ fns rs = scanD (zns qs) ∧ Below w.heap.size w w' := by
  rcases hv : devV (zns qs) with _ | _
  · have hd := implDV A n c B qs w hr hB hn
    rw [hv] at hd
    have HD := hide hd
    have HE := hide (show scanD (zns qs) = [] by unfold scanD; rw [hv]; rfl)
    clear hd hr hv
    go_enter Try.func7, Try.ntmps7
    go_wp2_with fail
    refine HD.out.mono ?_
    rintro e w1 ⟨rfl, hb1⟩
    have HB1 := hide hb1
    clear hb1
    go_wp2
    go_ret
    exact ⟨none, 0, 0, [], rfl, OwnF.nil_ _ _, by rw [HE.out]; rfl, HB1.out⟩
  · have e : scanD (zns qs) = devF (zns qs) := by unfold scanD; rw [hv]; rfl
    rw [e]
    exact implDeviceF A n c B qs w hr hB hn hv
end Go.Proofs.Ytcocboigjfjnfac
