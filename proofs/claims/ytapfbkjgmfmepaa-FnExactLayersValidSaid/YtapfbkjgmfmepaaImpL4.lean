/-
  The program's trees: treeOf.
-/
import Derived.Test.YtapfbkjgmfmepaaImpL3
namespace Go.Proofs.Ytapfbkjgmfmepaa
open Go.RowKit
set_option linter.unusedVariables false
set_option maxRecDepth 100000

theorem PrI.firsts {w : World} {B n : Nat} {A : Option Addr} {ps : Ly} (h : PrI w B A n ps) {m : Nat} (hm : m ≤ n) : PrI w B A m (ps.take m) := by
  refine ⟨by rw [List.length_take, h.1]; omega, ?_⟩
  rw [fl_take]
  exact h.2.firsts (Nat.mul_le_mul_right _ hm)
/-- behind treeOf -/
def NewT (w : World) (ps : Ly) (x : Ending) (w' : World) : Prop := ∃ t : Tr, x = .returned (.pointer t.pt) ∧ New w.heap.size t w' ps ∧ Below w.heap.size w w'
theorem PrI.cut {w : World} {B n c : Nat} {A : Option Addr} {ps : Ly} (h : PrI w B A n ps) {k m : Nat} (hk : k ≤ m) (hm : m ≤ n) (hc : n ≤ c) : PrI w B (if c = k then A else A.map fun a => a.add (k * 2)) (m - k) ((ps.take m).drop k) := by
  refine ⟨by rw [List.length_drop, List.length_take, h.1]; omega, ?_⟩
  refine ⟨by rw [fl_length, List.length_drop, List.length_take, h.1]; omega, fun hn => ?_⟩
  obtain ⟨ad, rfl, hb, hcell⟩ := h.2.2 (by omega)
  rw [if_neg (by omega)]
  refine ⟨ad.add (k * 2), rfl, by rw [block_of_add]; exact hb, fun j hj => ?_⟩
  rw [add_of_add, fl_drop, fl_take, getD_drop', getD_take' _ _ _ (by omega)]
  exact hcell (k * 2 + j) (by omega)
theorem node_new {W : World} {base : Nat} {t1 t2 : Tr} {p1 p2 : Ly} {e : Int × Int} (hb : base ≤ W.heap.size) (h1 : New base t1 W p1) (h2 : New base t2 W p2) (hd : ∀ i ∈ t1.ids, i ∉ t2.ids) :
    New base (.node W.heap.size t1 e t2) (W.alloc (.cells #[.int .i64 e.1, .int .i64 e.2, .pointer t1.pt, .pointer t2.pt] 92)) (p1 ++ e :: p2) := by
  refine ⟨⟨Blk.new W _ _, h1.1.alloc _, h2.1.alloc _⟩, by rw [vals_mid, h1.2.1, h2.2.1], fun i hi => ?_, nodup_node (fun hm => ?_) (fun hm => ?_) h1.2.2.2 h2.2.2.2 hd⟩
  · rcases mem_node.1 hi with rfl | hi | hi
    · exact hb
    · exact h1.2.2.1 i hi
    · exact h2.2.2.1 i hi
  · exact Nat.lt_irrefl _ (h1.1.lt _ hm)
  · exact Nat.lt_irrefl _ (h2.1.lt _ hm)
theorem New.below {w w' : World} {base : Nat} {t : Tr} {ps : Ly} (h : New base t w ps) (hb : Below w.heap.size w w') : New base t w' ps := ⟨h.1.below hb, h.2⟩
theorem New.mono {w : World} {base b' : Nat} {t : Tr} {ps : Ly} (h : New base t w ps) (hb : b' ≤ base) : New b' t w ps := ⟨h.1, h.2.1, fun g hg => Nat.le_trans hb (h.2.2.1 g hg), h.2.2.2⟩
theorem two_news {w w1 w2 : World} {t1 t2 : Tr} {p1 p2 : Ly} {e : Int × Int} (h1 : New w.heap.size t1 w1 p1) (b1 : Below w.heap.size w w1) (h2 : New w1.heap.size t2 w2 p2) (b2 : Below w1.heap.size w1 w2) :
    NewT w (p1 ++ e :: p2) (.returned (.pointer (some ⟨w2.heap.size, 0, none⟩))) (w2.alloc (.cells #[.int .i64 e.1, .int .i64 e.2, .pointer t1.pt, .pointer t2.pt] 92)) :=
  ⟨_, rfl, node_new (Nat.le_trans b1.size b2.size) (h1.below b2) (h2.mono b1.size) fun i hi hm => by
      have := h1.1.lt i hi
      have := h2.2.2.1 i hm
      omega, (b1.trans (b2.mono b1.size)).alloc (Nat.le_trans b1.size b2.size) _⟩
theorem two_news' {w w1 w2 : World} {t1 t2 : Tr} {p1 p2 : Ly} {e : Int × Int} (h2 : New w.heap.size t2 w1 p2) (b1 : Below w.heap.size w w1) (h1 : New w1.heap.size t1 w2 p1) (b2 : Below w1.heap.size w1 w2) :
    NewT w (p1 ++ e :: p2) (.returned (.pointer (some ⟨w2.heap.size, 0, none⟩))) (w2.alloc (.cells #[.int .i64 e.1, .int .i64 e.2, .pointer t1.pt, .pointer t2.pt] 92)) :=
  ⟨_, rfl, node_new (Nat.le_trans b1.size b2.size) (h1.mono b1.size) (h2.below b2) fun i hi hm => by
      have := h2.1.lt i hm
      have := h1.2.2.1 i hi
      omega, (b1.trans (b2.mono b1.size)).alloc (Nat.le_trans b1.size b2.size) _⟩

set_option maxHeartbeats 3200000 in
theorem treeOf_any (N : Nat) : ∀ (w : World) (B n c : Nat) (A : Option Addr) (ps : Ly), n ≤ N → PrI w B A n ps → B ≤ w.heap.size → n ≤ c → c ≤ maxLen →
    Calls Try.prog 63 #[.slice A n c] w (NewT w ps) := by
  induction N with
  | zero =>
    intro w B n c A ps hN hp hB hc hm
    obtain rfl : n = 0 := by omega
    obtain rfl : ps = [] := List.eq_nil_of_length_eq_zero hp.1
    clear hp
    go_enter Try.func63, Try.ntmps63
    go_wp2
    go_ret
    exact ⟨.nil, rfl, ⟨trivial, rfl, by simp [Tr.ids], by simp [Tr.ids]⟩, Below.refl _ _⟩
  | succ N ih =>
    intro w B n c A ps hN hp hB hc hm
    by_cases h0 : n = 0
    · exact ih w B n c A ps (by omega) hp hB hc hm
    · obtain ⟨mid, hmid⟩ : ∃ mid, n / 2 = mid := ⟨_, rfl⟩
      have hlt : mid < n := by omega
      have e2 : ((n : Int)).tdiv 2 = (mid : Int) := by rw [← hmid]; rfl
      have hl : mid < ps.length := by rw [hp.1]; exact hlt
      obtain ⟨e, he⟩ : ∃ e, ps[mid]? = some e := ⟨_, List.getElem?_eq_getElem hl⟩
      obtain ⟨ad, p, rfl, hq, hb, hc0, hc1⟩ := hp.at_ he
      have hsp : ps.take mid ++ e :: (ps.take n).drop (mid + 1) = ps := by
        have e3 : ps.take n = ps := List.take_of_length_le (by rw [hp.1]; exact Nat.le_refl _)
        rw [e3, ← (List.getElem?_eq_some_iff.1 he).2, ← List.drop_eq_getElem_cons hl, List.take_append_drop]
      have HL := hide fun (W : World) (h : Below w.heap.size w W) => ih W B mid c (some ad) _ (by omega) ((hp.firsts (m := mid) (by omega)).below h hB) (Nat.le_trans hB h.size) (by omega) hm
      have HR := hide fun (W : World) (h : Below w.heap.size w W) => ih W B (n - (mid + 1)) (c - (mid + 1)) (if c = mid + 1 then some ad else (some ad).map fun a => a.add ((mid + 1) * 2)) _ (by omega) ((hp.cut (k := mid + 1) (m := n) (by omega) (by omega) hc).below h hB) (Nat.le_trans hB h.size) (by omega) (by omega)
      have HSP := hide hsp
      obtain ⟨D, hD⟩ : ∃ D, (if c = mid + 1 then some ad else (some ad).map fun a => a.add ((mid + 1) * 2)) = D := ⟨_, rfl⟩
      rw [hD] at HR
      simp only [Option.map_some] at hD
      have hpb : p.block < w.heap.size := by omega
      have i0 : (0 : Int) ≤ (mid : Int) := by omega
      have i1 : (mid : Int) < (n : Int) := by omega
      have i2 : (mid : Int) ≤ (c : Int) := by omega
      have w1 : IntKind.i64.wrap ((mid : Int) + 1) = (mid : Int) + 1 := IntWalk.i64_in _ (by unfold maxLen at hm; omega)
      have w2 : IntKind.i64.wrap (mid : Int) = (mid : Int) := IntWalk.i64_in _ (by unfold maxLen at hm; omega)
      have i3 : (0 : Int) ≤ (mid : Int) + 1 := by omega
      have i4 : (mid : Int) + 1 ≤ (n : Int) := by omega
      have t1 : ((mid : Int) + 1).toNat = mid + 1 := by omega
      have t2 : ((n : Int) - ((mid : Int) + 1)).toNat = n - (mid + 1) := by omega
      have t3 : ((c : Int) - ((mid : Int) + 1)).toNat = c - (mid + 1) := by omega
      have hne : ((n : Int) == 0) = false := by simp; omega
      clear ih hp hsp he hmid
      go_enter Try.func63, Try.ntmps63
      go_wp2_with fail
      go_region_held3 (fun W => W.cell? p = some (.int .i64 e.1) ∧ W.cell? ⟨p.block, p.off + 1, none⟩ = some (.int .i64 e.2))
        (first
          | (exact ⟨(hB1'.cell hpb).trans hc0, (hB1'.cell (p := ⟨p.block, p.off + 1, none⟩) hpb).trans hc1⟩)
          | (exact ⟨(hB2'.cell hpb).trans hc0, (hB2'.cell (p := ⟨p.block, p.off + 1, none⟩) hpb).trans hc1⟩)
          | go_keep)
        ((first
          | (go_at_call 63; refine (HL.out _ hB2').mono ?_; rintro x1 u1 ⟨s1, rfl, hN1, hB1⟩; have hB1' : Below w.heap.size w u1 := hB2'.trans (hB1.mono hB2'.size))
          | (go_at_call 63; refine (HR.out _ hB1').mono ?_; rintro x2 u2 ⟨s2, rfl, hN2, hB2⟩; have hB2' : Below w.heap.size w u2 := hB1'.trans (hB2.mono hB1'.size))
          | (go_at_call 63; refine (HL.out _ (below_drewN (Below.refl _ w) 1)).mono ?_; rintro x1 u1 ⟨s1, rfl, hN1, hB1⟩; have hB1' : Below w.heap.size w u1 := ⟨hB1.os, hB1.tape, hB1.output, hB1.size, hB1.block⟩)
          | (go_at_call 63; refine (HR.out _ (below_drewN (Below.refl _ w) 1)).mono ?_; rintro x2 u2 ⟨s2, rfl, hN2, hB2⟩; have hB2' : Below w.heap.size w u2 := ⟨hB2.os, hB2.tape, hB2.output, hB2.size, hB2.block⟩)))
      all_goals
        first
          | (have HX := hide (two_news (w := w) (e := e) hN1 hB1' hN2 hB2))
          | (have HX := hide (two_news' (w := w) (e := e) hN2 hB2' hN1 hB1))
        rw [HSP.out] at HX
        clear hN1 hN2 hB1 hB2 hB1' hB2' HL HR HSP
        go_wp2
        go_ret
        exact HX.out

/-- behind putAll -/
def PutsT (w : World) (t : Tr) (q : Ly) (x : Ending) (w' : World) : Prop :=
  ∃ t' : Tr, x = .returned (.pointer t'.pt) ∧ TrI w' t' ∧ t'.vals = putsL t.vals q ∧ (∀ g ∈ t'.ids, g ∈ t.ids ∨ w.heap.size ≤ g) ∧ t'.ids.Nodup ∧ But t.ids w w'
def PutsK (w : World) (t : Tr) (q : Ly) (t' : Tr) (w' : World) : Prop := TrI w' t' ∧ t'.vals = putsL t.vals q ∧ (∀ g ∈ t'.ids, g ∈ t.ids ∨ w.heap.size ≤ g) ∧ t'.ids.Nodup ∧ But t.ids w w'

set_option maxHeartbeats 3200000 in
theorem putAll_any (t : Tr) (w : World) (B n c : Nat) (A : Option Addr) (q : Ly) (h : TrI w t) (hv : layV t.vals = true) (hn : t.ids.Nodup) (hq : PrI w B A n q) (hlq : layV q = true) (hB : B ≤ w.heap.size) (hoff : ∀ g ∈ t.ids, B ≤ g) :
    Calls Try.prog 53 #[.pointer t.pt, .slice A n c] w (PutsT w t q) := by
  have hn9 := hq.1
  have hl12 := layV_len hlq
  have H0 := hide (show PutsK w t (q.take 0) t w from ⟨h, rfl, fun g hg => .inl hg, hn, But.refl _ _⟩)
  have HQ := hide hq
  have HPV := hide fun (k : Nat) => putsL_valid (q := q.take k) hv (lyV_take hlq k) (Int.le_refl _)
  have HQL := hide fun (e : Int × Int) (he : e ∈ q) => (lyV_mem hlq e he).2
  have HO := hide hoff
  clear h hn hq
  generalize htp : t.pt = tp
  have HTP := hide htp
  clear htp
  go_enter Try.func53, Try.ntmps53
  go_wp2
  go_loopw [0, 9] (fun o i wr => ∃ (k : Nat) (t' : Tr), k ≤ n ∧ i = .int .i64 k ∧ o = .pointer t'.pt ∧ Hid (PutsK w t (q.take k) t' wr)) (fun _ i _ => n - (intOf i).toNat)
  case atStart => exact ⟨0, t, Nat.zero_le _, rfl, by rw [HTP.out], H0.out⟩
  case round =>
    obtain ⟨k, t', hk, rfl, rfl, HK⟩ := hrel
    by_cases hlt : k < n
    · obtain ⟨e, he⟩ : ∃ e, q[k]? = some e := ⟨_, List.getElem?_eq_getElem (by omega)⟩
      have hBw := (HK.out.2.2.2.2.below hB HO.out)
      obtain ⟨ad, p, rfl, hp, hb, hc0, hc1⟩ := (HQ.out.below hBw (Nat.le_refl _)).at_ he
      obtain ⟨x, y⟩ := e
      have HS := hide (putsL_step (p := t.vals) he)
      obtain ⟨k1, k2, k3, k4, k5⟩ := HK.out
      have HPT := hide (put_any x y t' (wr.alloc (.cells #[.int .i64 x, .int .i64 y] 29)) (-1) (k1.alloc _) (by rw [k2]; exact HPV.out k) k4)
      have hszw := k5.size
      clear he k1 k2 k3 k4 k5 hBw
      generalize t'.pt = tp' at HPT ⊢
      go_wp2_with fail
      refine HPT.out.mono ?_
      rintro x1 w2 ⟨t2, rfl, i1, i2, i3, i4, i5⟩
      have HK2 := hide (show PutsK w t (q.take (k + 1)) t2 w2 from by
        refine ⟨i1, by rw [i2, HS.out, HK.out.2.1], fun g hg => ?_, i4, ?_⟩
        · rcases i3 g hg with h1 | h1
          · exact HK.out.2.2.1 g h1
          · simp at h1; right; omega
        · exact (HK.out.2.2.2.2.trans (But.new [] _ _) (by simp)).trans i5 HK.out.2.2.1)
      clear i1 i2 i3 i4 i5 HPT HK HS
      go_wp2
      go_roundw
      case rel => exact ⟨k + 1, t2, by omega, by go_num, rfl, HK2.out⟩
      case measure => simp [intOf]; omega
    · obtain rfl : k = n := by omega
      go_wp2
      go_ret
      have hk := HK.out
      rw [List.take_of_length_le (by omega)] at hk
      exact ⟨t', rfl, hk⟩
end Go.Proofs.Ytapfbkjgmfmepaa
