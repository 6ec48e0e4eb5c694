/-
  A drawn layer: l93Layer.
-/
import Derived.Test.YtapfbkjgmfmepaaRdE
import Derived.Test.YtapfbkjgmfmepaaDrawA
import Derived.Test.YtapfbkjgmfmepaaSpecY3
import Derived.Deep.RegionHeld3
namespace Go.Proofs.Ytapfbkjgmfmepaa
open Go.RowKit
set_option linter.unusedVariables false
set_option maxRecDepth 100000

/-- what l93Layer knows at each step -/
structure KL (w0 w : World) (R : Nat) (p : Int) (A : Option Addr) (n c : Nat) (ps : Ly) : Prop where
  rd : Rd w R p
  rlt : R < w0.heap.size
  own : PrR w w0.heap.size A n c ps
  grown : w0.grownBy w (some R)
theorem KL.pick {w0 w w' : World} {R n c : Nat} {p p' : Int} {A : Option Addr} {ps : Ly} (h : KL w0 w R p A n c ps) (hr : Rd w' R p') (hg : w.grownBy w' (some R)) : KL w0 w' R p' A n c ps :=
  { rd := hr, rlt := h.rlt, own := h.own.kept hg (by intro q hq; injection hq with hq; subst hq; intro e; have := (h.own.block _ e).1; have := h.rlt; omega), grown := grown_trans' h.grown hg }
theorem KL.alloc {w0 w : World} {R n c : Nat} {p : Int} {A : Option Addr} {ps : Ly} (h : KL w0 w R p A n c ps) (o : Obj) : KL w0 (w.alloc o) R p A n c ps :=
  { rd := h.rd.alloc o, rlt := h.rlt, own := h.own.alloc o, grown := grown_alloc h.grown o }
theorem KL.app {w0 w w8 : World} {R n c c8 : Nat} {p : Int} {A A8 : Option Addr} {ps qs : Ly} {o : Obj} (h : KL w0 w R p A n c ps) (ho : PrR w8 w0.heap.size A8 (n + 1) c8 qs) (hg : (w.alloc o).grownBy w8 (Value.slice A n c).ownBlock) : KL w0 w8 R p A8 (n + 1) c8 qs := by
  have hb := h.own.block
  exact { rd := (h.rd.alloc o).grown hg (fun b hb' => by have := (hb b hb').1; have := h.rlt; omega), rlt := h.rlt, own := ho, grown := grown_own (grown_alloc h.grown o) hg (fun b hb' => (hb b hb').1) }
theorem KL.drewN {w0 w : World} {R n c : Nat} {p : Int} {A : Option Addr} {ps : Ly} (h : KL w0 w R p A n c ps) (k : Nat) : KL w0 (w.drewN k) R p A n c ps :=
  { rd := h.rd.drewN k, rlt := h.rlt, own := h.own.drewN k, grown := grown_drewN h.grown k }
theorem KL.put2 {w0 w : World} {R n c g J : Nat} {p : Int} {ps : Ly} {e : Int × Int} (h : KL w0 w R p (some ⟨g, 0, none⟩) n c ps) (he : ps[J]? = some e) (y1 y2 : Int) :
    w.cell? ⟨g, J * 2, none⟩ = some (.int .i64 e.1) ∧ w.cell? ⟨g, J * 2 + 1, none⟩ = some (.int .i64 e.2) ∧ w.frozen? ⟨g, J * 2, none⟩ = false ∧ w.frozen? ⟨g, J * 2 + 1, none⟩ = false ∧
      KL w0 ((w.setCell ⟨g, J * 2, none⟩ (.int .i64 y1)).setCell ⟨g, J * 2 + 1, none⟩ (.int .i64 y2)) R p (some ⟨g, 0, none⟩) n c (ps.set J (y1, y2)) := by
  have hl : J < n := by rw [← h.own.1]; exact (List.getElem?_eq_some_iff.1 he).1
  have hg0 := (h.own.block g rfl).1
  have h0 := h.own.2.stored (g := g) (j := J * 2) y1
  have h1 := h0.1.stored (g := g) (j := J * 2 + 1) y2
  have e1 : fl (ps.set J (y1, y2)) = ((fl ps).set (J * 2) y1).set (J * 2 + 1) y2 := by
    have he2 : (ps.set J (y1, e.2))[J]? = some (y1, e.2) := by rw [List.getElem?_set_self (by rw [h.own.1]; exact hl)]
    rw [(fl_set he y1 0).1, (fl_set he2 0 y2).2, List.set_set]
  have hgr := grown_trans' h0.2 h1.2
  refine ⟨by rw [h.own.2.cell (j := J * 2) (by omega), (fl_getD he).1], by rw [h.own.2.cell (j := J * 2 + 1) (by omega), (fl_getD he).2], h.own.2.free, h.own.2.free, ?_⟩
  exact { rd := h.rd.grown hgr (fun b hb => by injection hb with hb; have := h.rlt; omega), rlt := h.rlt, own := ⟨by rw [List.length_set]; exact h.own.1, by rw [e1]; exact h1.1⟩, grown := grown_own h.grown hgr (fun b hb => by injection hb with hb; omega) }
def oddA (v : Int) : Int := ([-1, 3, 12] : List Int).getD v.toNat 0
def oddB (v : Int) : Int := ([-1, 99, 100] : List Int).getD v.toNat 0
theorem takeHY {P : Program} {md : Region.Mode} {ops : Array Oper} {Q : Exit → Act → World → Prop} {S : World → Prop} {i : Nat} (d : Tmp) {oi : Oper} {v : Value} {fuel : Nat} {listed : Array Bool} {a : Act} {w : World} (hi : ops[i]? = some oi) (hd : oi.dst = some d)
    (hs : Region.noSelect ops = true) (hf : Region.free md ops listed i = true) (hr : (Region.ready md ops listed).contains i = true) (hQ : ∀ c a w, Q (.panic c) (a.put oi.dst v) w → Q (.panic c) a w) (hy : YieldsIf P ops S oi v a) (hS : S w)
    (h : wpAnyH P md ops Q S fuel (listed.setIfInBounds i true) (a.put (some d) v) w) : wpAnyH P md ops Q S (fuel + 1) listed a w := wpAnyH_take hi hs hf hr hQ hy hS (by rw [hd]; exact h)
theorem with_opsY {P : Program} {md : Region.Mode} {ops : Array Oper} {Q : Exit → Act → World → Prop} {S : World → Prop} {fuel : Nat} {listed : Array Bool} {a : Act} {w : World}
    (h : ∀ ops9 Q9, ops9 = ops → Q9 = Q → wpAnyH P md ops9 Q9 S fuel listed a w) : wpAnyH P md ops Q S fuel listed a w := h _ _ rfl rfl
/-- what is handed back -/
def DrawnLy (w0 : World) (R : Nat) (p : Int) (e : Ending) (w' : World) : Prop :=
  ∃ (A : Option Addr) (n c : Nat) (ps : Ly) (p' : Int), e = .returned (.slice A n c) ∧ n ≤ 12 ∧ p ≤ p' ∧ p' ≤ p + 40 ∧ KL w0 w' R p' A n c ps

set_option maxHeartbeats 6400000 in
theorem layer93_any (R : Nat) (p : Int) (w : World) (hr : Rd w R p) (hp : p < 20000) :
    Calls Try.prog 51 #[.pointer (some ⟨R, 0, none⟩)] w (DrawnLy w R p) := by
  have HK0 : Hid (KL w (w.alloc (.cells #[] 29)) R p (some ⟨w.heap.size, 0, none⟩) 0 0 []) :=
    { rd := hr.alloc _, rlt := hr.lt, own := PrR.lit0 w _ (Nat.le_refl _), grown := grown_alloc (grown_refl w _) _ }
  have hp0 := hr.1
  clear hr
  go_enter Try.func51, Try.ntmps51
  go_wp2_with fail
  go_loopw [3, 4] (fun s i wr => ∃ (k n c : Nat) (Ao : Option Addr) (ps : Ly) (q : Int), k ≤ 12 ∧ n ≤ k ∧ i = .int .i64 k ∧ s = .slice Ao n c ∧ p ≤ q ∧ q ≤ p + 2 * k ∧ Hid (KL w wr R q Ao n c ps)) (fun _ i _ => 12 - (intOf i).toNat)
  case atStart => exact ⟨0, 0, 0, _, [], p, by omega, Nat.le_refl _, rfl, rfl, by omega, by omega, HK0.out⟩
  case round =>
    clear HK0
    obtain ⟨k, n, c, Ao, ps, q, hk, hnk, rfl, rfl, hq0, hq1, HK⟩ := hrel
    by_cases hlt : k < 12
    · have k1 : (k : Int) < 12 := by omega
      go_wp2_with fail
      refine (pick_any R _ 3 _ HK.out.rd (by omega) (by omega)).mono ?_
      rintro e w4 ⟨u, rfl, hu0, hu1, hr4, hg4⟩
      have HK4 := hide (HK.out.pick hr4 hg4)
      clear hr4 hg4 HK
      by_cases hu : u = 0
      · subst hu
        go_wp2_with fail
        refine (pick_any R _ 12 _ HK4.out.rd (by omega) (by omega)).mono ?_
        rintro e w5 ⟨v, rfl, hv0, hv1, hr5, hg5⟩
        have HK5 := hide (HK4.out.pick hr5 hg5)
        have hs5 : w.heap.size ≤ w5.heap.size := HK5.out.grown.size
        clear hr5 hg5 HK4
        go_wp2_with (at_builtin; refine wpList_append_pairY rfl (.tmp 13) (.tmp 18) rfl w.heap.size n c (w5.heap.size + 1) 1 1 Ao _ _ [((k : Int), v)] rfl (HK5.out.own.alloc _) rfl (PrI.one w5 (k : Int) v) (by omega) (by simp; omega) ?_; intro A8 c8 w8 ho8 hg8; have HK8 := hide (HK5.out.app ho8 hg8); clear ho8 hg8)
        go_wp2
        go_roundw
        case rel => exact ⟨k + 1, n + 1, c8, A8, _, _, by omega, by omega, by go_num, rfl, by omega, by omega, HK8.out⟩
        case measure => simp [intOf]; omega
      · have hu' : (u == 0) = false := by simpa using hu
        go_wp2
        go_roundw
        case rel => exact ⟨k + 1, n, c, Ao, _, _, by omega, by omega, by go_num, rfl, by omega, by omega, HK4.out⟩
        case measure => simp [intOf]; omega
    · obtain rfl : k = 12 := by omega
      by_cases hk0 : n = 0
      · subst hk0
        have h00 : decide ((0 : Int) < 0) = false := by decide
        go_wp2
        go_ret
        exact ⟨_, _, _, _, _, rfl, by omega, by omega, by omega, HK.out⟩
      · have hkp : decide ((0 : Int) < (n : Int)) = true := by simp; omega
        have hkp' : 0 < n := by omega
        go_wp2_with fail
        refine (pick_any R _ 30 _ HK.out.rd (by omega) (by omega)).mono ?_
        rintro e w4 ⟨u, rfl, hu0, hu1, hr4, hg4⟩
        have HK4 := hide (HK.out.pick hr4 hg4)
        clear hr4 hg4 HK
        obtain ⟨g, rfl, hg0, hgl⟩ := HK4.out.own.2.shape hkp'
        by_cases hu : u = 0
        · subst hu
          go_wp2_with fail
          have HK5 := HK4.out.drewN 1
          rw [show q + 1 = q + 1 + 0 from by omega] at HK5
          clear HK4
          refine wp_region_held_drew (S := fun _ => True) (by kernel_rfl) trivial (fun _ => ?_)
          refine with_opsY fun ops9 Q9 hops hQ9 => ?_
          have HEND : Hid (∀ (x28 x29 x30 x31 x32 x33 x34 x35 x36 x37 x38 x39 x40 x41 x42 x43 x44 : Value) (ps2 : Ly) (W2 : World), KL w W2 R (q + 1 + 3) (some ⟨g, 0, none⟩) n c ps2 → Q9 .normal { tmps := #[.pointer (some ⟨R, 0, none⟩), undef, .slice none 0 0, .slice (some ⟨g, 0, none⟩) n c, .int .i64 12, .slice (some ⟨w.heap.size, 0, none⟩) 0 0, .int .i64 12, .bool false, u8, u9, u10, u11, u12, u13, u14, u15, u16, u17, u18, u19, .slice (some ⟨g, 0, none⟩) n c, .int .i64 (n : Int), .bool true, .bool true, .pointer (some ⟨R, 0, none⟩), .int .i64 0, .bool true, .bool true, x28, x29, x30, x31, x32, x33, x34, x35, x36, x37, x38, x39, x40, x41, x42, x43, x44, undef], defers := [] } W2) := by
            intro x28 x29 x30 x31 x32 x33 x34 x35 x36 x37 x38 x39 x40 x41 x42 x43 x44 ps2 W2 hk2
            subst hQ9
            clear hops
            have HK2 := hide hk2
            clear hk2
            go_wp2
            go_ret
            exact ⟨_, _, _, _, _, rfl, by omega, by omega, by omega, HK2.out⟩
          have L31111 : Hid (∀ (W : World) (hk : KL w W R (q + 1 + 3) (some ⟨g, 0, none⟩) n c ps) (J : Nat) (hJ : J < n) (v2 : Int) (h20 : 0 ≤ v2) (h21 : v2 < 3) (v3 : Int) (h30 : 0 ≤ v3) (h31 : v3 < 3) (b1 : Nat) (hb1 : Blk W b1 3 #[.int .i64 (-1), .int .i64 3, .int .i64 12]) (hn1 : b1 ≠ R) (b2 : Nat) (hb2 : Blk W b2 3 #[.int .i64 (-1), .int .i64 99, .int .i64 100]) (hn2 : b2 ≠ R) (y1 : Int) (y2 : Int), wpAnyH Try.prog .any ops9 Q9 (fun _ => True) 3 #[true, true, true, true, true, true, true, true, true, true, true, true, true, true, true, false, false, false] { tmps := #[.pointer (some ⟨R, 0, none⟩), undef, .slice none 0 0, .slice (some ⟨g, 0, none⟩) n c, .int .i64 12, .slice (some ⟨w.heap.size, 0, none⟩) 0 0, .int .i64 12, .bool false, u8, u9, u10, u11, u12, u13, u14, u15, u16, u17, u18, u19, .slice (some ⟨g, 0, none⟩) n c, .int .i64 (n : Int), .bool true, .bool true, .pointer (some ⟨R, 0, none⟩), .int .i64 0, .bool true, .bool true, .slice (some ⟨g, 0, none⟩) n c, .pointer (some ⟨R, 0, none⟩), .slice (some ⟨g, 0, none⟩) n c, .int .i64 (n : Int), .int .i64 (J : Int), .slice (some ⟨b1, 0, none⟩) 3 3, .pointer (some ⟨R, 0, none⟩), .int .i64 v2, .pointer (some ⟨b1, v2.toNat, none⟩), .int .i64 y1, .slice (some ⟨b2, 0, none⟩) 3 3, .pointer (some ⟨R, 0, none⟩), .int .i64 v3, .pointer (some ⟨b2, v3.toNat, none⟩), .int .i64 y2, undef, undef, undef], defers := [] } W) := by
            intro W hk J hJ v2 h20 h21 v3 h30 h31 b1 hb1 hn1 b2 hb2 hn2 y1 y2
            rw [hops, hQ9]
            have j0 : (0 : Int) ≤ (J : Int) := by omega
            have j1 : (J : Int) < (n : Int) := by omega
            refine takeHY (i := 15) 43 (v := .agg #[.int .i64 y1, .int .i64 y2]) rfl rfl (by kernel_rfl) (by kernel_rfl) (by kernel_rfl) (fun _ _ _ h => h) (Or.inl ⟨by kernel_rfl, fun w hSw => by (go_simp; done)⟩) trivial ?_
            refine takeHY (i := 16) 44 (v := .pointer (some ⟨g, J * 2, none⟩)) rfl rfl (by kernel_rfl) (by kernel_rfl) (by kernel_rfl) (fun _ _ _ h => h) (Or.inl ⟨by kernel_rfl, fun w hSw => by first | (go_simp; done) | (go_simp; simp [Addr.add]; done)⟩) trivial ?_
            simp only [Act.put, List.setIfInBounds_toArray, List.set_cons_zero, List.set_cons_succ]
            obtain ⟨e, he⟩ : ∃ e, ps[J]? = some e := ⟨_, List.getElem?_eq_getElem (by rw [hk.own.1]; exact hJ)⟩
            obtain ⟨z0, z1, z2, z3, z4⟩ := hk.put2 he y1 y2
            refine wpAnyH_ready (rs := [17]) (by kernel_rfl) (by simp) ?_
            refine AllReadyH.cons rfl (fun K hK => ?_) AllReadyH.nil
            go_simp
            refine hK.out _ _ trivial (fun _ => ?_)
            refine wpAnyH_done (by kernel_rfl) ?_ _
            have h9 := HEND.out (.slice (some ⟨g, 0, none⟩) n c) (.pointer (some ⟨R, 0, none⟩)) (.slice (some ⟨g, 0, none⟩) n c) (.int .i64 (n : Int)) (.int .i64 (J : Int)) (.slice (some ⟨b1, 0, none⟩) 3 3) (.pointer (some ⟨R, 0, none⟩)) (.int .i64 v2) (.pointer (some ⟨b1, v2.toNat, none⟩)) (.int .i64 y1) (.slice (some ⟨b2, 0, none⟩) 3 3) (.pointer (some ⟨R, 0, none⟩)) (.int .i64 v3) (.pointer (some ⟨b2, v3.toNat, none⟩)) (.int .i64 y2) (.agg #[.int .i64 y1, .int .i64 y2]) (.pointer (some ⟨g, J * 2, none⟩)) _ _ z4
            rw [hQ9] at h9
            exact h9
          have L31101 : Hid (∀ (W : World) (hk : KL w W R (q + 1 + 3) (some ⟨g, 0, none⟩) n c ps) (J : Nat) (hJ : J < n) (v2 : Int) (h20 : 0 ≤ v2) (h21 : v2 < 3) (v3 : Int) (h30 : 0 ≤ v3) (h31 : v3 < 3) (b1 : Nat) (hb1 : Blk W b1 3 #[.int .i64 (-1), .int .i64 3, .int .i64 12]) (hn1 : b1 ≠ R) (b2 : Nat) (hb2 : Blk W b2 3 #[.int .i64 (-1), .int .i64 99, .int .i64 100]) (hn2 : b2 ≠ R) (y2 : Int), wpAnyH Try.prog .any ops9 Q9 (fun _ => True) 4 #[true, true, true, true, true, true, true, true, true, false, true, true, true, true, true, false, false, false] { tmps := #[.pointer (some ⟨R, 0, none⟩), undef, .slice none 0 0, .slice (some ⟨g, 0, none⟩) n c, .int .i64 12, .slice (some ⟨w.heap.size, 0, none⟩) 0 0, .int .i64 12, .bool false, u8, u9, u10, u11, u12, u13, u14, u15, u16, u17, u18, u19, .slice (some ⟨g, 0, none⟩) n c, .int .i64 (n : Int), .bool true, .bool true, .pointer (some ⟨R, 0, none⟩), .int .i64 0, .bool true, .bool true, .slice (some ⟨g, 0, none⟩) n c, .pointer (some ⟨R, 0, none⟩), .slice (some ⟨g, 0, none⟩) n c, .int .i64 (n : Int), .int .i64 (J : Int), .slice (some ⟨b1, 0, none⟩) 3 3, .pointer (some ⟨R, 0, none⟩), .int .i64 v2, .pointer (some ⟨b1, v2.toNat, none⟩), undef, .slice (some ⟨b2, 0, none⟩) 3 3, .pointer (some ⟨R, 0, none⟩), .int .i64 v3, .pointer (some ⟨b2, v3.toNat, none⟩), .int .i64 y2, undef, undef, undef], defers := [] } W) := by
            intro W hk J hJ v2 h20 h21 v3 h30 h31 b1 hb1 hn1 b2 hb2 hn2 y2
            clear HEND
            rw [hops, hQ9]
            refine wpAnyH_ready (rs := [9]) (by kernel_rfl) (by simp) ?_
            refine AllReadyH.cons rfl (fun K hK => ?_) ?_
            · have hc : W.cell? ⟨b1, v2.toNat, none⟩ = some (.int .i64 (oddA v2)) := by
                rw [hb1.cell]
                have : v2 = 0 ∨ v2 = 1 ∨ v2 = 2 := by omega
                rcases this with rfl | rfl | rfl <;> rfl
              go_simp
              refine hK.out _ _ trivial (fun _ => ?_)
              clear hK K
              simp only [List.setIfInBounds_toArray, List.set_cons_zero, List.set_cons_succ]
              have h9 := L31111.out W hk J hJ v2 h20 h21 v3 h30 h31 b1 hb1 hn1 b2 hb2 hn2 (oddA v2) y2
              rw [hops, hQ9] at h9
              exact h9
            exact AllReadyH.nil
          have L31110 : Hid (∀ (W : World) (hk : KL w W R (q + 1 + 3) (some ⟨g, 0, none⟩) n c ps) (J : Nat) (hJ : J < n) (v2 : Int) (h20 : 0 ≤ v2) (h21 : v2 < 3) (v3 : Int) (h30 : 0 ≤ v3) (h31 : v3 < 3) (b1 : Nat) (hb1 : Blk W b1 3 #[.int .i64 (-1), .int .i64 3, .int .i64 12]) (hn1 : b1 ≠ R) (b2 : Nat) (hb2 : Blk W b2 3 #[.int .i64 (-1), .int .i64 99, .int .i64 100]) (hn2 : b2 ≠ R) (y1 : Int), wpAnyH Try.prog .any ops9 Q9 (fun _ => True) 4 #[true, true, true, true, true, true, true, true, true, true, true, true, true, true, false, false, false, false] { tmps := #[.pointer (some ⟨R, 0, none⟩), undef, .slice none 0 0, .slice (some ⟨g, 0, none⟩) n c, .int .i64 12, .slice (some ⟨w.heap.size, 0, none⟩) 0 0, .int .i64 12, .bool false, u8, u9, u10, u11, u12, u13, u14, u15, u16, u17, u18, u19, .slice (some ⟨g, 0, none⟩) n c, .int .i64 (n : Int), .bool true, .bool true, .pointer (some ⟨R, 0, none⟩), .int .i64 0, .bool true, .bool true, .slice (some ⟨g, 0, none⟩) n c, .pointer (some ⟨R, 0, none⟩), .slice (some ⟨g, 0, none⟩) n c, .int .i64 (n : Int), .int .i64 (J : Int), .slice (some ⟨b1, 0, none⟩) 3 3, .pointer (some ⟨R, 0, none⟩), .int .i64 v2, .pointer (some ⟨b1, v2.toNat, none⟩), .int .i64 y1, .slice (some ⟨b2, 0, none⟩) 3 3, .pointer (some ⟨R, 0, none⟩), .int .i64 v3, .pointer (some ⟨b2, v3.toNat, none⟩), undef, undef, undef, undef], defers := [] } W) := by
            intro W hk J hJ v2 h20 h21 v3 h30 h31 b1 hb1 hn1 b2 hb2 hn2 y1
            clear HEND L31101
            rw [hops, hQ9]
            refine wpAnyH_ready (rs := [14]) (by kernel_rfl) (by simp) ?_
            refine AllReadyH.cons rfl (fun K hK => ?_) ?_
            · have hc : W.cell? ⟨b2, v3.toNat, none⟩ = some (.int .i64 (oddB v3)) := by
                rw [hb2.cell]
                have : v3 = 0 ∨ v3 = 1 ∨ v3 = 2 := by omega
                rcases this with rfl | rfl | rfl <;> rfl
              go_simp
              refine hK.out _ _ trivial (fun _ => ?_)
              clear hK K
              simp only [List.setIfInBounds_toArray, List.set_cons_zero, List.set_cons_succ]
              have h9 := L31111.out W hk J hJ v2 h20 h21 v3 h30 h31 b1 hb1 hn1 b2 hb2 hn2 y1 (oddB v3)
              rw [hops, hQ9] at h9
              exact h9
            exact AllReadyH.nil
          have L31100 : Hid (∀ (W : World) (hk : KL w W R (q + 1 + 3) (some ⟨g, 0, none⟩) n c ps) (J : Nat) (hJ : J < n) (v2 : Int) (h20 : 0 ≤ v2) (h21 : v2 < 3) (v3 : Int) (h30 : 0 ≤ v3) (h31 : v3 < 3) (b1 : Nat) (hb1 : Blk W b1 3 #[.int .i64 (-1), .int .i64 3, .int .i64 12]) (hn1 : b1 ≠ R) (b2 : Nat) (hb2 : Blk W b2 3 #[.int .i64 (-1), .int .i64 99, .int .i64 100]) (hn2 : b2 ≠ R), wpAnyH Try.prog .any ops9 Q9 (fun _ => True) 5 #[true, true, true, true, true, true, true, true, true, false, true, true, true, true, false, false, false, false] { tmps := #[.pointer (some ⟨R, 0, none⟩), undef, .slice none 0 0, .slice (some ⟨g, 0, none⟩) n c, .int .i64 12, .slice (some ⟨w.heap.size, 0, none⟩) 0 0, .int .i64 12, .bool false, u8, u9, u10, u11, u12, u13, u14, u15, u16, u17, u18, u19, .slice (some ⟨g, 0, none⟩) n c, .int .i64 (n : Int), .bool true, .bool true, .pointer (some ⟨R, 0, none⟩), .int .i64 0, .bool true, .bool true, .slice (some ⟨g, 0, none⟩) n c, .pointer (some ⟨R, 0, none⟩), .slice (some ⟨g, 0, none⟩) n c, .int .i64 (n : Int), .int .i64 (J : Int), .slice (some ⟨b1, 0, none⟩) 3 3, .pointer (some ⟨R, 0, none⟩), .int .i64 v2, .pointer (some ⟨b1, v2.toNat, none⟩), undef, .slice (some ⟨b2, 0, none⟩) 3 3, .pointer (some ⟨R, 0, none⟩), .int .i64 v3, .pointer (some ⟨b2, v3.toNat, none⟩), undef, undef, undef, undef], defers := [] } W) := by
            intro W hk J hJ v2 h20 h21 v3 h30 h31 b1 hb1 hn1 b2 hb2 hn2
            clear HEND L31111
            rw [hops, hQ9]
            refine wpAnyH_ready (rs := [9, 14]) (by kernel_rfl) (by simp) ?_
            refine AllReadyH.cons rfl (fun K hK => ?_) ?_
            · have hc : W.cell? ⟨b1, v2.toNat, none⟩ = some (.int .i64 (oddA v2)) := by
                rw [hb1.cell]
                have : v2 = 0 ∨ v2 = 1 ∨ v2 = 2 := by omega
                rcases this with rfl | rfl | rfl <;> rfl
              go_simp
              refine hK.out _ _ trivial (fun _ => ?_)
              clear hK K
              simp only [List.setIfInBounds_toArray, List.set_cons_zero, List.set_cons_succ]
              have h9 := L31110.out W hk J hJ v2 h20 h21 v3 h30 h31 b1 hb1 hn1 b2 hb2 hn2 (oddA v2)
              rw [hops, hQ9] at h9
              exact h9
            refine AllReadyH.cons rfl (fun K hK => ?_) ?_
            · have hc : W.cell? ⟨b2, v3.toNat, none⟩ = some (.int .i64 (oddB v3)) := by
                rw [hb2.cell]
                have : v3 = 0 ∨ v3 = 1 ∨ v3 = 2 := by omega
                rcases this with rfl | rfl | rfl <;> rfl
              go_simp
              refine hK.out _ _ trivial (fun _ => ?_)
              clear hK K
              simp only [List.setIfInBounds_toArray, List.set_cons_zero, List.set_cons_succ]
              have h9 := L31101.out W hk J hJ v2 h20 h21 v3 h30 h31 b1 hb1 hn1 b2 hb2 hn2 (oddB v3)
              rw [hops, hQ9] at h9
              exact h9
            exact AllReadyH.nil
          have L21110 : Hid (∀ (W : World) (hk : KL w W R (q + 1 + 2) (some ⟨g, 0, none⟩) n c ps) (J : Nat) (hJ : J < n) (v2 : Int) (h20 : 0 ≤ v2) (h21 : v2 < 3) (b1 : Nat) (hb1 : Blk W b1 3 #[.int .i64 (-1), .int .i64 3, .int .i64 12]) (hn1 : b1 ≠ R) (b2 : Nat) (hb2 : Blk W b2 3 #[.int .i64 (-1), .int .i64 99, .int .i64 100]) (hn2 : b2 ≠ R) (y1 : Int), wpAnyH Try.prog .any ops9 Q9 (fun _ => True) 6 #[true, true, true, true, true, true, true, true, true, true, true, true, false, false, false, false, false, false] { tmps := #[.pointer (some ⟨R, 0, none⟩), undef, .slice none 0 0, .slice (some ⟨g, 0, none⟩) n c, .int .i64 12, .slice (some ⟨w.heap.size, 0, none⟩) 0 0, .int .i64 12, .bool false, u8, u9, u10, u11, u12, u13, u14, u15, u16, u17, u18, u19, .slice (some ⟨g, 0, none⟩) n c, .int .i64 (n : Int), .bool true, .bool true, .pointer (some ⟨R, 0, none⟩), .int .i64 0, .bool true, .bool true, .slice (some ⟨g, 0, none⟩) n c, .pointer (some ⟨R, 0, none⟩), .slice (some ⟨g, 0, none⟩) n c, .int .i64 (n : Int), .int .i64 (J : Int), .slice (some ⟨b1, 0, none⟩) 3 3, .pointer (some ⟨R, 0, none⟩), .int .i64 v2, .pointer (some ⟨b1, v2.toNat, none⟩), .int .i64 y1, .slice (some ⟨b2, 0, none⟩) 3 3, .pointer (some ⟨R, 0, none⟩), undef, undef, undef, undef, undef, undef], defers := [] } W) := by
            intro W hk J hJ v2 h20 h21 b1 hb1 hn1 b2 hb2 hn2 y1
            clear HEND L31111 L31101 L31100
            rw [hops, hQ9]
            refine wpAnyH_ready (rs := [12]) (by kernel_rfl) (by simp) ?_
            refine AllReadyH.cons rfl (fun K hK => ?_) ?_
            · go_simp
              refine (pick_any R _ _ _ hk.rd (by omega) (by omega)).mono ?_
              rintro e W2 ⟨v, rfl, h0, h1, hr2, hg2⟩
              refine hK.out _ _ trivial (fun _ => ?_)
              clear hK K
              refine takeHY (i := 13) 41 (v := .pointer (some ⟨b2, v.toNat, none⟩)) rfl rfl (by kernel_rfl) (by kernel_rfl) (by kernel_rfl) (fun _ _ _ h => h) (Or.inl ⟨by kernel_rfl, fun w hSw => by (go_simp; done)⟩) trivial ?_
              simp only [Act.put, List.setIfInBounds_toArray, List.set_cons_zero, List.set_cons_succ]
              have h9 := L31110.out W2 (by rw [show q + 1 + 3 = q + 1 + 2 + 1 from by omega]; exact hk.pick hr2 hg2) J hJ v2 h20 h21 v h0 h1 b1 (hb1.grown hg2 (by intro e; injection e with e; exact hn1 e)) hn1 b2 (hb2.grown hg2 (by intro e; injection e with e; exact hn2 e)) hn2 y1
              rw [hops, hQ9] at h9
              exact h9
            exact AllReadyH.nil
          have L30101 : Hid (∀ (W : World) (hk : KL w W R (q + 1 + 3) (some ⟨g, 0, none⟩) n c ps) (J : Nat) (hJ : J < n) (v2 : Int) (h20 : 0 ≤ v2) (h21 : v2 < 3) (v3 : Int) (h30 : 0 ≤ v3) (h31 : v3 < 3) (b2 : Nat) (hb2 : Blk W b2 3 #[.int .i64 (-1), .int .i64 99, .int .i64 100]) (hn2 : b2 ≠ R) (y2 : Int), wpAnyH Try.prog .any ops9 Q9 (fun _ => True) 6 #[true, true, true, true, true, false, true, true, false, false, true, true, true, true, true, false, false, false] { tmps := #[.pointer (some ⟨R, 0, none⟩), undef, .slice none 0 0, .slice (some ⟨g, 0, none⟩) n c, .int .i64 12, .slice (some ⟨w.heap.size, 0, none⟩) 0 0, .int .i64 12, .bool false, u8, u9, u10, u11, u12, u13, u14, u15, u16, u17, u18, u19, .slice (some ⟨g, 0, none⟩) n c, .int .i64 (n : Int), .bool true, .bool true, .pointer (some ⟨R, 0, none⟩), .int .i64 0, .bool true, .bool true, .slice (some ⟨g, 0, none⟩) n c, .pointer (some ⟨R, 0, none⟩), .slice (some ⟨g, 0, none⟩) n c, .int .i64 (n : Int), .int .i64 (J : Int), undef, .pointer (some ⟨R, 0, none⟩), .int .i64 v2, undef, undef, .slice (some ⟨b2, 0, none⟩) 3 3, .pointer (some ⟨R, 0, none⟩), .int .i64 v3, .pointer (some ⟨b2, v3.toNat, none⟩), .int .i64 y2, undef, undef, undef], defers := [] } W) := by
            intro W hk J hJ v2 h20 h21 v3 h30 h31 b2 hb2 hn2 y2
            clear HEND L31111 L31110 L31100 L21110
            rw [hops, hQ9]
            refine wpAnyH_ready (rs := [5]) (by kernel_rfl) (by simp) ?_
            refine AllReadyH.cons rfl (fun K hK => ?_) ?_
            · go_simp
              refine hK.out _ _ trivial (fun _ => ?_)
              clear hK K
              refine takeHY (i := 8) 36 (v := .pointer (some ⟨W.heap.size, v2.toNat, none⟩)) rfl rfl (by kernel_rfl) (by kernel_rfl) (by kernel_rfl) (fun _ _ _ h => h) (Or.inl ⟨by kernel_rfl, fun w hSw => by (go_simp; done)⟩) trivial ?_
              simp only [Act.put, List.setIfInBounds_toArray, List.set_cons_zero, List.set_cons_succ]
              have h9 := L31101.out (W.alloc (.cells #[.int .i64 (-1), .int .i64 3, .int .i64 12] 3)) (hk.alloc _) J hJ v2 h20 h21 v3 h30 h31 (W.heap.size) (Blk.new W _ _) (by have := hk.rd.lt; omega) b2 (hb2.alloc _) hn2 y2
              rw [hops, hQ9] at h9
              exact h9
            exact AllReadyH.nil
          have L31010 : Hid (∀ (W : World) (hk : KL w W R (q + 1 + 3) (some ⟨g, 0, none⟩) n c ps) (J : Nat) (hJ : J < n) (v2 : Int) (h20 : 0 ≤ v2) (h21 : v2 < 3) (v3 : Int) (h30 : 0 ≤ v3) (h31 : v3 < 3) (b1 : Nat) (hb1 : Blk W b1 3 #[.int .i64 (-1), .int .i64 3, .int .i64 12]) (hn1 : b1 ≠ R) (y1 : Int), wpAnyH Try.prog .any ops9 Q9 (fun _ => True) 6 #[true, true, true, true, true, true, true, true, true, true, false, true, true, false, false, false, false, false] { tmps := #[.pointer (some ⟨R, 0, none⟩), undef, .slice none 0 0, .slice (some ⟨g, 0, none⟩) n c, .int .i64 12, .slice (some ⟨w.heap.size, 0, none⟩) 0 0, .int .i64 12, .bool false, u8, u9, u10, u11, u12, u13, u14, u15, u16, u17, u18, u19, .slice (some ⟨g, 0, none⟩) n c, .int .i64 (n : Int), .bool true, .bool true, .pointer (some ⟨R, 0, none⟩), .int .i64 0, .bool true, .bool true, .slice (some ⟨g, 0, none⟩) n c, .pointer (some ⟨R, 0, none⟩), .slice (some ⟨g, 0, none⟩) n c, .int .i64 (n : Int), .int .i64 (J : Int), .slice (some ⟨b1, 0, none⟩) 3 3, .pointer (some ⟨R, 0, none⟩), .int .i64 v2, .pointer (some ⟨b1, v2.toNat, none⟩), .int .i64 y1, undef, .pointer (some ⟨R, 0, none⟩), .int .i64 v3, undef, undef, undef, undef, undef], defers := [] } W) := by
            intro W hk J hJ v2 h20 h21 v3 h30 h31 b1 hb1 hn1 y1
            clear HEND L31111 L31101 L31100 L21110 L30101
            rw [hops, hQ9]
            refine wpAnyH_ready (rs := [10]) (by kernel_rfl) (by simp) ?_
            refine AllReadyH.cons rfl (fun K hK => ?_) ?_
            · go_simp
              refine hK.out _ _ trivial (fun _ => ?_)
              clear hK K
              refine takeHY (i := 13) 41 (v := .pointer (some ⟨W.heap.size, v3.toNat, none⟩)) rfl rfl (by kernel_rfl) (by kernel_rfl) (by kernel_rfl) (fun _ _ _ h => h) (Or.inl ⟨by kernel_rfl, fun w hSw => by (go_simp; done)⟩) trivial ?_
              simp only [Act.put, List.setIfInBounds_toArray, List.set_cons_zero, List.set_cons_succ]
              have h9 := L31110.out (W.alloc (.cells #[.int .i64 (-1), .int .i64 99, .int .i64 100] 3)) (hk.alloc _) J hJ v2 h20 h21 v3 h30 h31 b1 (hb1.alloc _) hn1 (W.heap.size) (Blk.new W _ _) (by have := hk.rd.lt; omega) y1
              rw [hops, hQ9] at h9
              exact h9
            exact AllReadyH.nil
          have L21010 : Hid (∀ (W : World) (hk : KL w W R (q + 1 + 2) (some ⟨g, 0, none⟩) n c ps) (J : Nat) (hJ : J < n) (v2 : Int) (h20 : 0 ≤ v2) (h21 : v2 < 3) (b1 : Nat) (hb1 : Blk W b1 3 #[.int .i64 (-1), .int .i64 3, .int .i64 12]) (hn1 : b1 ≠ R) (y1 : Int), wpAnyH Try.prog .any ops9 Q9 (fun _ => True) 7 #[true, true, true, true, true, true, true, true, true, true, false, true, false, false, false, false, false, false] { tmps := #[.pointer (some ⟨R, 0, none⟩), undef, .slice none 0 0, .slice (some ⟨g, 0, none⟩) n c, .int .i64 12, .slice (some ⟨w.heap.size, 0, none⟩) 0 0, .int .i64 12, .bool false, u8, u9, u10, u11, u12, u13, u14, u15, u16, u17, u18, u19, .slice (some ⟨g, 0, none⟩) n c, .int .i64 (n : Int), .bool true, .bool true, .pointer (some ⟨R, 0, none⟩), .int .i64 0, .bool true, .bool true, .slice (some ⟨g, 0, none⟩) n c, .pointer (some ⟨R, 0, none⟩), .slice (some ⟨g, 0, none⟩) n c, .int .i64 (n : Int), .int .i64 (J : Int), .slice (some ⟨b1, 0, none⟩) 3 3, .pointer (some ⟨R, 0, none⟩), .int .i64 v2, .pointer (some ⟨b1, v2.toNat, none⟩), .int .i64 y1, undef, .pointer (some ⟨R, 0, none⟩), undef, undef, undef, undef, undef, undef], defers := [] } W) := by
            intro W hk J hJ v2 h20 h21 b1 hb1 hn1 y1
            clear HEND L31111 L31101 L31110 L31100 L30101
            rw [hops, hQ9]
            refine wpAnyH_ready (rs := [10, 12]) (by kernel_rfl) (by simp) ?_
            refine AllReadyH.cons rfl (fun K hK => ?_) ?_
            · go_simp
              refine hK.out _ _ trivial (fun _ => ?_)
              clear hK K
              simp only [List.setIfInBounds_toArray, List.set_cons_zero, List.set_cons_succ]
              have h9 := L21110.out (W.alloc (.cells #[.int .i64 (-1), .int .i64 99, .int .i64 100] 3)) (hk.alloc _) J hJ v2 h20 h21 b1 (hb1.alloc _) hn1 (W.heap.size) (Blk.new W _ _) (by have := hk.rd.lt; omega) y1
              rw [hops, hQ9] at h9
              exact h9
            refine AllReadyH.cons rfl (fun K hK => ?_) ?_
            · go_simp
              refine (pick_any R _ _ _ hk.rd (by omega) (by omega)).mono ?_
              rintro e W2 ⟨v, rfl, h0, h1, hr2, hg2⟩
              refine hK.out _ _ trivial (fun _ => ?_)
              clear hK K
              simp only [List.setIfInBounds_toArray, List.set_cons_zero, List.set_cons_succ]
              have h9 := L31010.out W2 (by rw [show q + 1 + 3 = q + 1 + 2 + 1 from by omega]; exact hk.pick hr2 hg2) J hJ v2 h20 h21 v h0 h1 b1 (hb1.grown hg2 (by intro e; injection e with e; exact hn1 e)) hn1 y1
              rw [hops, hQ9] at h9
              exact h9
            exact AllReadyH.nil
          have L21100 : Hid (∀ (W : World) (hk : KL w W R (q + 1 + 2) (some ⟨g, 0, none⟩) n c ps) (J : Nat) (hJ : J < n) (v2 : Int) (h20 : 0 ≤ v2) (h21 : v2 < 3) (b1 : Nat) (hb1 : Blk W b1 3 #[.int .i64 (-1), .int .i64 3, .int .i64 12]) (hn1 : b1 ≠ R) (b2 : Nat) (hb2 : Blk W b2 3 #[.int .i64 (-1), .int .i64 99, .int .i64 100]) (hn2 : b2 ≠ R), wpAnyH Try.prog .any ops9 Q9 (fun _ => True) 7 #[true, true, true, true, true, true, true, true, true, false, true, true, false, false, false, false, false, false] { tmps := #[.pointer (some ⟨R, 0, none⟩), undef, .slice none 0 0, .slice (some ⟨g, 0, none⟩) n c, .int .i64 12, .slice (some ⟨w.heap.size, 0, none⟩) 0 0, .int .i64 12, .bool false, u8, u9, u10, u11, u12, u13, u14, u15, u16, u17, u18, u19, .slice (some ⟨g, 0, none⟩) n c, .int .i64 (n : Int), .bool true, .bool true, .pointer (some ⟨R, 0, none⟩), .int .i64 0, .bool true, .bool true, .slice (some ⟨g, 0, none⟩) n c, .pointer (some ⟨R, 0, none⟩), .slice (some ⟨g, 0, none⟩) n c, .int .i64 (n : Int), .int .i64 (J : Int), .slice (some ⟨b1, 0, none⟩) 3 3, .pointer (some ⟨R, 0, none⟩), .int .i64 v2, .pointer (some ⟨b1, v2.toNat, none⟩), undef, .slice (some ⟨b2, 0, none⟩) 3 3, .pointer (some ⟨R, 0, none⟩), undef, undef, undef, undef, undef, undef], defers := [] } W) := by
            intro W hk J hJ v2 h20 h21 b1 hb1 hn1 b2 hb2 hn2
            clear HEND L31111 L31101 L31110 L30101 L31010 L21010
            rw [hops, hQ9]
            refine wpAnyH_ready (rs := [9, 12]) (by kernel_rfl) (by simp) ?_
            refine AllReadyH.cons rfl (fun K hK => ?_) ?_
            · have hc : W.cell? ⟨b1, v2.toNat, none⟩ = some (.int .i64 (oddA v2)) := by
                rw [hb1.cell]
                have : v2 = 0 ∨ v2 = 1 ∨ v2 = 2 := by omega
                rcases this with rfl | rfl | rfl <;> rfl
              go_simp
              refine hK.out _ _ trivial (fun _ => ?_)
              clear hK K
              simp only [List.setIfInBounds_toArray, List.set_cons_zero, List.set_cons_succ]
              have h9 := L21110.out W hk J hJ v2 h20 h21 b1 hb1 hn1 b2 hb2 hn2 (oddA v2)
              rw [hops, hQ9] at h9
              exact h9
            refine AllReadyH.cons rfl (fun K hK => ?_) ?_
            · go_simp
              refine (pick_any R _ _ _ hk.rd (by omega) (by omega)).mono ?_
              rintro e W2 ⟨v, rfl, h0, h1, hr2, hg2⟩
              refine hK.out _ _ trivial (fun _ => ?_)
              clear hK K
              refine takeHY (i := 13) 41 (v := .pointer (some ⟨b2, v.toNat, none⟩)) rfl rfl (by kernel_rfl) (by kernel_rfl) (by kernel_rfl) (fun _ _ _ h => h) (Or.inl ⟨by kernel_rfl, fun w hSw => by (go_simp; done)⟩) trivial ?_
              simp only [Act.put, List.setIfInBounds_toArray, List.set_cons_zero, List.set_cons_succ]
              have h9 := L31100.out W2 (by rw [show q + 1 + 3 = q + 1 + 2 + 1 from by omega]; exact hk.pick hr2 hg2) J hJ v2 h20 h21 v h0 h1 b1 (hb1.grown hg2 (by intro e; injection e with e; exact hn1 e)) hn1 b2 (hb2.grown hg2 (by intro e; injection e with e; exact hn2 e)) hn2
              rw [hops, hQ9] at h9
              exact h9
            exact AllReadyH.nil
          have L30100 : Hid (∀ (W : World) (hk : KL w W R (q + 1 + 3) (some ⟨g, 0, none⟩) n c ps) (J : Nat) (hJ : J < n) (v2 : Int) (h20 : 0 ≤ v2) (h21 : v2 < 3) (v3 : Int) (h30 : 0 ≤ v3) (h31 : v3 < 3) (b2 : Nat) (hb2 : Blk W b2 3 #[.int .i64 (-1), .int .i64 99, .int .i64 100]) (hn2 : b2 ≠ R), wpAnyH Try.prog .any ops9 Q9 (fun _ => True) 7 #[true, true, true, true, true, false, true, true, false, false, true, true, true, true, false, false, false, false] { tmps := #[.pointer (some ⟨R, 0, none⟩), undef, .slice none 0 0, .slice (some ⟨g, 0, none⟩) n c, .int .i64 12, .slice (some ⟨w.heap.size, 0, none⟩) 0 0, .int .i64 12, .bool false, u8, u9, u10, u11, u12, u13, u14, u15, u16, u17, u18, u19, .slice (some ⟨g, 0, none⟩) n c, .int .i64 (n : Int), .bool true, .bool true, .pointer (some ⟨R, 0, none⟩), .int .i64 0, .bool true, .bool true, .slice (some ⟨g, 0, none⟩) n c, .pointer (some ⟨R, 0, none⟩), .slice (some ⟨g, 0, none⟩) n c, .int .i64 (n : Int), .int .i64 (J : Int), undef, .pointer (some ⟨R, 0, none⟩), .int .i64 v2, undef, undef, .slice (some ⟨b2, 0, none⟩) 3 3, .pointer (some ⟨R, 0, none⟩), .int .i64 v3, .pointer (some ⟨b2, v3.toNat, none⟩), undef, undef, undef, undef], defers := [] } W) := by
            intro W hk J hJ v2 h20 h21 v3 h30 h31 b2 hb2 hn2
            clear HEND L31111 L31101 L31110 L21110 L31010 L21010 L21100
            rw [hops, hQ9]
            refine wpAnyH_ready (rs := [5, 14]) (by kernel_rfl) (by simp) ?_
            refine AllReadyH.cons rfl (fun K hK => ?_) ?_
            · go_simp
              refine hK.out _ _ trivial (fun _ => ?_)
              clear hK K
              refine takeHY (i := 8) 36 (v := .pointer (some ⟨W.heap.size, v2.toNat, none⟩)) rfl rfl (by kernel_rfl) (by kernel_rfl) (by kernel_rfl) (fun _ _ _ h => h) (Or.inl ⟨by kernel_rfl, fun w hSw => by (go_simp; done)⟩) trivial ?_
              simp only [Act.put, List.setIfInBounds_toArray, List.set_cons_zero, List.set_cons_succ]
              have h9 := L31100.out (W.alloc (.cells #[.int .i64 (-1), .int .i64 3, .int .i64 12] 3)) (hk.alloc _) J hJ v2 h20 h21 v3 h30 h31 (W.heap.size) (Blk.new W _ _) (by have := hk.rd.lt; omega) b2 (hb2.alloc _) hn2
              rw [hops, hQ9] at h9
              exact h9
            refine AllReadyH.cons rfl (fun K hK => ?_) ?_
            · have hc : W.cell? ⟨b2, v3.toNat, none⟩ = some (.int .i64 (oddB v3)) := by
                rw [hb2.cell]
                have : v3 = 0 ∨ v3 = 1 ∨ v3 = 2 := by omega
                rcases this with rfl | rfl | rfl <;> rfl
              go_simp
              refine hK.out _ _ trivial (fun _ => ?_)
              clear hK K
              simp only [List.setIfInBounds_toArray, List.set_cons_zero, List.set_cons_succ]
              have h9 := L30101.out W hk J hJ v2 h20 h21 v3 h30 h31 b2 hb2 hn2 (oddB v3)
              rw [hops, hQ9] at h9
              exact h9
            exact AllReadyH.nil
          have L31000 : Hid (∀ (W : World) (hk : KL w W R (q + 1 + 3) (some ⟨g, 0, none⟩) n c ps) (J : Nat) (hJ : J < n) (v2 : Int) (h20 : 0 ≤ v2) (h21 : v2 < 3) (v3 : Int) (h30 : 0 ≤ v3) (h31 : v3 < 3) (b1 : Nat) (hb1 : Blk W b1 3 #[.int .i64 (-1), .int .i64 3, .int .i64 12]) (hn1 : b1 ≠ R), wpAnyH Try.prog .any ops9 Q9 (fun _ => True) 7 #[true, true, true, true, true, true, true, true, true, false, false, true, true, false, false, false, false, false] { tmps := #[.pointer (some ⟨R, 0, none⟩), undef, .slice none 0 0, .slice (some ⟨g, 0, none⟩) n c, .int .i64 12, .slice (some ⟨w.heap.size, 0, none⟩) 0 0, .int .i64 12, .bool false, u8, u9, u10, u11, u12, u13, u14, u15, u16, u17, u18, u19, .slice (some ⟨g, 0, none⟩) n c, .int .i64 (n : Int), .bool true, .bool true, .pointer (some ⟨R, 0, none⟩), .int .i64 0, .bool true, .bool true, .slice (some ⟨g, 0, none⟩) n c, .pointer (some ⟨R, 0, none⟩), .slice (some ⟨g, 0, none⟩) n c, .int .i64 (n : Int), .int .i64 (J : Int), .slice (some ⟨b1, 0, none⟩) 3 3, .pointer (some ⟨R, 0, none⟩), .int .i64 v2, .pointer (some ⟨b1, v2.toNat, none⟩), undef, undef, .pointer (some ⟨R, 0, none⟩), .int .i64 v3, undef, undef, undef, undef, undef], defers := [] } W) := by
            intro W hk J hJ v2 h20 h21 v3 h30 h31 b1 hb1 hn1
            clear HEND L31111 L31101 L31110 L21110 L30101 L21010 L21100 L30100
            rw [hops, hQ9]
            refine wpAnyH_ready (rs := [9, 10]) (by kernel_rfl) (by simp) ?_
            refine AllReadyH.cons rfl (fun K hK => ?_) ?_
            · have hc : W.cell? ⟨b1, v2.toNat, none⟩ = some (.int .i64 (oddA v2)) := by
                rw [hb1.cell]
                have : v2 = 0 ∨ v2 = 1 ∨ v2 = 2 := by omega
                rcases this with rfl | rfl | rfl <;> rfl
              go_simp
              refine hK.out _ _ trivial (fun _ => ?_)
              clear hK K
              simp only [List.setIfInBounds_toArray, List.set_cons_zero, List.set_cons_succ]
              have h9 := L31010.out W hk J hJ v2 h20 h21 v3 h30 h31 b1 hb1 hn1 (oddA v2)
              rw [hops, hQ9] at h9
              exact h9
            refine AllReadyH.cons rfl (fun K hK => ?_) ?_
            · go_simp
              refine hK.out _ _ trivial (fun _ => ?_)
              clear hK K
              refine takeHY (i := 13) 41 (v := .pointer (some ⟨W.heap.size, v3.toNat, none⟩)) rfl rfl (by kernel_rfl) (by kernel_rfl) (by kernel_rfl) (fun _ _ _ h => h) (Or.inl ⟨by kernel_rfl, fun w hSw => by (go_simp; done)⟩) trivial ?_
              simp only [Act.put, List.setIfInBounds_toArray, List.set_cons_zero, List.set_cons_succ]
              have h9 := L31100.out (W.alloc (.cells #[.int .i64 (-1), .int .i64 99, .int .i64 100] 3)) (hk.alloc _) J hJ v2 h20 h21 v3 h30 h31 b1 (hb1.alloc _) hn1 (W.heap.size) (Blk.new W _ _) (by have := hk.rd.lt; omega)
              rw [hops, hQ9] at h9
              exact h9
            exact AllReadyH.nil
          have L21000 : Hid (∀ (W : World) (hk : KL w W R (q + 1 + 2) (some ⟨g, 0, none⟩) n c ps) (J : Nat) (hJ : J < n) (v2 : Int) (h20 : 0 ≤ v2) (h21 : v2 < 3) (b1 : Nat) (hb1 : Blk W b1 3 #[.int .i64 (-1), .int .i64 3, .int .i64 12]) (hn1 : b1 ≠ R), wpAnyH Try.prog .any ops9 Q9 (fun _ => True) 8 #[true, true, true, true, true, true, true, true, true, false, false, true, false, false, false, false, false, false] { tmps := #[.pointer (some ⟨R, 0, none⟩), undef, .slice none 0 0, .slice (some ⟨g, 0, none⟩) n c, .int .i64 12, .slice (some ⟨w.heap.size, 0, none⟩) 0 0, .int .i64 12, .bool false, u8, u9, u10, u11, u12, u13, u14, u15, u16, u17, u18, u19, .slice (some ⟨g, 0, none⟩) n c, .int .i64 (n : Int), .bool true, .bool true, .pointer (some ⟨R, 0, none⟩), .int .i64 0, .bool true, .bool true, .slice (some ⟨g, 0, none⟩) n c, .pointer (some ⟨R, 0, none⟩), .slice (some ⟨g, 0, none⟩) n c, .int .i64 (n : Int), .int .i64 (J : Int), .slice (some ⟨b1, 0, none⟩) 3 3, .pointer (some ⟨R, 0, none⟩), .int .i64 v2, .pointer (some ⟨b1, v2.toNat, none⟩), undef, undef, .pointer (some ⟨R, 0, none⟩), undef, undef, undef, undef, undef, undef], defers := [] } W) := by
            intro W hk J hJ v2 h20 h21 b1 hb1 hn1
            clear HEND L31111 L31101 L31110 L31100 L21110 L30101 L31010 L30100
            rw [hops, hQ9]
            refine wpAnyH_ready (rs := [9, 10, 12]) (by kernel_rfl) (by simp) ?_
            refine AllReadyH.cons rfl (fun K hK => ?_) ?_
            · have hc : W.cell? ⟨b1, v2.toNat, none⟩ = some (.int .i64 (oddA v2)) := by
                rw [hb1.cell]
                have : v2 = 0 ∨ v2 = 1 ∨ v2 = 2 := by omega
                rcases this with rfl | rfl | rfl <;> rfl
              go_simp
              refine hK.out _ _ trivial (fun _ => ?_)
              clear hK K
              simp only [List.setIfInBounds_toArray, List.set_cons_zero, List.set_cons_succ]
              have h9 := L21010.out W hk J hJ v2 h20 h21 b1 hb1 hn1 (oddA v2)
              rw [hops, hQ9] at h9
              exact h9
            refine AllReadyH.cons rfl (fun K hK => ?_) ?_
            · go_simp
              refine hK.out _ _ trivial (fun _ => ?_)
              clear hK K
              simp only [List.setIfInBounds_toArray, List.set_cons_zero, List.set_cons_succ]
              have h9 := L21100.out (W.alloc (.cells #[.int .i64 (-1), .int .i64 99, .int .i64 100] 3)) (hk.alloc _) J hJ v2 h20 h21 b1 (hb1.alloc _) hn1 (W.heap.size) (Blk.new W _ _) (by have := hk.rd.lt; omega)
              rw [hops, hQ9] at h9
              exact h9
            refine AllReadyH.cons rfl (fun K hK => ?_) ?_
            · go_simp
              refine (pick_any R _ _ _ hk.rd (by omega) (by omega)).mono ?_
              rintro e W2 ⟨v, rfl, h0, h1, hr2, hg2⟩
              refine hK.out _ _ trivial (fun _ => ?_)
              clear hK K
              simp only [List.setIfInBounds_toArray, List.set_cons_zero, List.set_cons_succ]
              have h9 := L31000.out W2 (by rw [show q + 1 + 3 = q + 1 + 2 + 1 from by omega]; exact hk.pick hr2 hg2) J hJ v2 h20 h21 v h0 h1 b1 (hb1.grown hg2 (by intro e; injection e with e; exact hn1 e)) hn1
              rw [hops, hQ9] at h9
              exact h9
            exact AllReadyH.nil
          have L11100 : Hid (∀ (W : World) (hk : KL w W R (q + 1 + 1) (some ⟨g, 0, none⟩) n c ps) (J : Nat) (hJ : J < n) (b1 : Nat) (hb1 : Blk W b1 3 #[.int .i64 (-1), .int .i64 3, .int .i64 12]) (hn1 : b1 ≠ R) (b2 : Nat) (hb2 : Blk W b2 3 #[.int .i64 (-1), .int .i64 99, .int .i64 100]) (hn2 : b2 ≠ R), wpAnyH Try.prog .any ops9 Q9 (fun _ => True) 9 #[true, true, true, true, true, true, true, false, false, false, true, true, false, false, false, false, false, false] { tmps := #[.pointer (some ⟨R, 0, none⟩), undef, .slice none 0 0, .slice (some ⟨g, 0, none⟩) n c, .int .i64 12, .slice (some ⟨w.heap.size, 0, none⟩) 0 0, .int .i64 12, .bool false, u8, u9, u10, u11, u12, u13, u14, u15, u16, u17, u18, u19, .slice (some ⟨g, 0, none⟩) n c, .int .i64 (n : Int), .bool true, .bool true, .pointer (some ⟨R, 0, none⟩), .int .i64 0, .bool true, .bool true, .slice (some ⟨g, 0, none⟩) n c, .pointer (some ⟨R, 0, none⟩), .slice (some ⟨g, 0, none⟩) n c, .int .i64 (n : Int), .int .i64 (J : Int), .slice (some ⟨b1, 0, none⟩) 3 3, .pointer (some ⟨R, 0, none⟩), undef, undef, undef, .slice (some ⟨b2, 0, none⟩) 3 3, .pointer (some ⟨R, 0, none⟩), undef, undef, undef, undef, undef, undef], defers := [] } W) := by
            intro W hk J hJ b1 hb1 hn1 b2 hb2 hn2
            clear HEND L31111 L31101 L31110 L31100 L21110 L30101 L31010 L21010 L30100 L31000 L21000
            rw [hops, hQ9]
            refine wpAnyH_ready (rs := [7]) (by kernel_rfl) (by simp) ?_
            refine AllReadyH.cons rfl (fun K hK => ?_) ?_
            · go_simp
              refine (pick_any R _ _ _ hk.rd (by omega) (by omega)).mono ?_
              rintro e W2 ⟨v, rfl, h0, h1, hr2, hg2⟩
              refine hK.out _ _ trivial (fun _ => ?_)
              clear hK K
              refine takeHY (i := 8) 36 (v := .pointer (some ⟨b1, v.toNat, none⟩)) rfl rfl (by kernel_rfl) (by kernel_rfl) (by kernel_rfl) (fun _ _ _ h => h) (Or.inl ⟨by kernel_rfl, fun w hSw => by (go_simp; done)⟩) trivial ?_
              simp only [Act.put, List.setIfInBounds_toArray, List.set_cons_zero, List.set_cons_succ]
              have h9 := L21100.out W2 (by rw [show q + 1 + 2 = q + 1 + 1 + 1 from by omega]; exact hk.pick hr2 hg2) J hJ v h0 h1 b1 (hb1.grown hg2 (by intro e; injection e with e; exact hn1 e)) hn1 b2 (hb2.grown hg2 (by intro e; injection e with e; exact hn2 e)) hn2
              rw [hops, hQ9] at h9
              exact h9
            exact AllReadyH.nil
          have L20100 : Hid (∀ (W : World) (hk : KL w W R (q + 1 + 2) (some ⟨g, 0, none⟩) n c ps) (J : Nat) (hJ : J < n) (v2 : Int) (h20 : 0 ≤ v2) (h21 : v2 < 3) (b2 : Nat) (hb2 : Blk W b2 3 #[.int .i64 (-1), .int .i64 99, .int .i64 100]) (hn2 : b2 ≠ R), wpAnyH Try.prog .any ops9 Q9 (fun _ => True) 9 #[true, true, true, true, true, false, true, true, false, false, true, true, false, false, false, false, false, false] { tmps := #[.pointer (some ⟨R, 0, none⟩), undef, .slice none 0 0, .slice (some ⟨g, 0, none⟩) n c, .int .i64 12, .slice (some ⟨w.heap.size, 0, none⟩) 0 0, .int .i64 12, .bool false, u8, u9, u10, u11, u12, u13, u14, u15, u16, u17, u18, u19, .slice (some ⟨g, 0, none⟩) n c, .int .i64 (n : Int), .bool true, .bool true, .pointer (some ⟨R, 0, none⟩), .int .i64 0, .bool true, .bool true, .slice (some ⟨g, 0, none⟩) n c, .pointer (some ⟨R, 0, none⟩), .slice (some ⟨g, 0, none⟩) n c, .int .i64 (n : Int), .int .i64 (J : Int), undef, .pointer (some ⟨R, 0, none⟩), .int .i64 v2, undef, undef, .slice (some ⟨b2, 0, none⟩) 3 3, .pointer (some ⟨R, 0, none⟩), undef, undef, undef, undef, undef, undef], defers := [] } W) := by
            intro W hk J hJ v2 h20 h21 b2 hb2 hn2
            clear HEND L31111 L31101 L31110 L31100 L21110 L30101 L31010 L21010 L31000 L21000 L11100
            rw [hops, hQ9]
            refine wpAnyH_ready (rs := [5, 12]) (by kernel_rfl) (by simp) ?_
            refine AllReadyH.cons rfl (fun K hK => ?_) ?_
            · go_simp
              refine hK.out _ _ trivial (fun _ => ?_)
              clear hK K
              refine takeHY (i := 8) 36 (v := .pointer (some ⟨W.heap.size, v2.toNat, none⟩)) rfl rfl (by kernel_rfl) (by kernel_rfl) (by kernel_rfl) (fun _ _ _ h => h) (Or.inl ⟨by kernel_rfl, fun w hSw => by (go_simp; done)⟩) trivial ?_
              simp only [Act.put, List.setIfInBounds_toArray, List.set_cons_zero, List.set_cons_succ]
              have h9 := L21100.out (W.alloc (.cells #[.int .i64 (-1), .int .i64 3, .int .i64 12] 3)) (hk.alloc _) J hJ v2 h20 h21 (W.heap.size) (Blk.new W _ _) (by have := hk.rd.lt; omega) b2 (hb2.alloc _) hn2
              rw [hops, hQ9] at h9
              exact h9
            refine AllReadyH.cons rfl (fun K hK => ?_) ?_
            · go_simp
              refine (pick_any R _ _ _ hk.rd (by omega) (by omega)).mono ?_
              rintro e W2 ⟨v, rfl, h0, h1, hr2, hg2⟩
              refine hK.out _ _ trivial (fun _ => ?_)
              clear hK K
              refine takeHY (i := 13) 41 (v := .pointer (some ⟨b2, v.toNat, none⟩)) rfl rfl (by kernel_rfl) (by kernel_rfl) (by kernel_rfl) (fun _ _ _ h => h) (Or.inl ⟨by kernel_rfl, fun w hSw => by (go_simp; done)⟩) trivial ?_
              simp only [Act.put, List.setIfInBounds_toArray, List.set_cons_zero, List.set_cons_succ]
              have h9 := L30100.out W2 (by rw [show q + 1 + 3 = q + 1 + 2 + 1 from by omega]; exact hk.pick hr2 hg2) J hJ v2 h20 h21 v h0 h1 b2 (hb2.grown hg2 (by intro e; injection e with e; exact hn2 e)) hn2
              rw [hops, hQ9] at h9
              exact h9
            exact AllReadyH.nil
          have L30000 : Hid (∀ (W : World) (hk : KL w W R (q + 1 + 3) (some ⟨g, 0, none⟩) n c ps) (J : Nat) (hJ : J < n) (v2 : Int) (h20 : 0 ≤ v2) (h21 : v2 < 3) (v3 : Int) (h30 : 0 ≤ v3) (h31 : v3 < 3), wpAnyH Try.prog .any ops9 Q9 (fun _ => True) 9 #[true, true, true, true, true, false, true, true, false, false, false, true, true, false, false, false, false, false] { tmps := #[.pointer (some ⟨R, 0, none⟩), undef, .slice none 0 0, .slice (some ⟨g, 0, none⟩) n c, .int .i64 12, .slice (some ⟨w.heap.size, 0, none⟩) 0 0, .int .i64 12, .bool false, u8, u9, u10, u11, u12, u13, u14, u15, u16, u17, u18, u19, .slice (some ⟨g, 0, none⟩) n c, .int .i64 (n : Int), .bool true, .bool true, .pointer (some ⟨R, 0, none⟩), .int .i64 0, .bool true, .bool true, .slice (some ⟨g, 0, none⟩) n c, .pointer (some ⟨R, 0, none⟩), .slice (some ⟨g, 0, none⟩) n c, .int .i64 (n : Int), .int .i64 (J : Int), undef, .pointer (some ⟨R, 0, none⟩), .int .i64 v2, undef, undef, undef, .pointer (some ⟨R, 0, none⟩), .int .i64 v3, undef, undef, undef, undef, undef], defers := [] } W) := by
            intro W hk J hJ v2 h20 h21 v3 h30 h31
            clear HEND L31111 L31101 L31110 L31100 L21110 L30101 L31010 L21010 L21100 L21000 L11100 L20100
            rw [hops, hQ9]
            refine wpAnyH_ready (rs := [5, 10]) (by kernel_rfl) (by simp) ?_
            refine AllReadyH.cons rfl (fun K hK => ?_) ?_
            · go_simp
              refine hK.out _ _ trivial (fun _ => ?_)
              clear hK K
              refine takeHY (i := 8) 36 (v := .pointer (some ⟨W.heap.size, v2.toNat, none⟩)) rfl rfl (by kernel_rfl) (by kernel_rfl) (by kernel_rfl) (fun _ _ _ h => h) (Or.inl ⟨by kernel_rfl, fun w hSw => by (go_simp; done)⟩) trivial ?_
              simp only [Act.put, List.setIfInBounds_toArray, List.set_cons_zero, List.set_cons_succ]
              have h9 := L31000.out (W.alloc (.cells #[.int .i64 (-1), .int .i64 3, .int .i64 12] 3)) (hk.alloc _) J hJ v2 h20 h21 v3 h30 h31 (W.heap.size) (Blk.new W _ _) (by have := hk.rd.lt; omega)
              rw [hops, hQ9] at h9
              exact h9
            refine AllReadyH.cons rfl (fun K hK => ?_) ?_
            · go_simp
              refine hK.out _ _ trivial (fun _ => ?_)
              clear hK K
              refine takeHY (i := 13) 41 (v := .pointer (some ⟨W.heap.size, v3.toNat, none⟩)) rfl rfl (by kernel_rfl) (by kernel_rfl) (by kernel_rfl) (fun _ _ _ h => h) (Or.inl ⟨by kernel_rfl, fun w hSw => by (go_simp; done)⟩) trivial ?_
              simp only [Act.put, List.setIfInBounds_toArray, List.set_cons_zero, List.set_cons_succ]
              have h9 := L30100.out (W.alloc (.cells #[.int .i64 (-1), .int .i64 99, .int .i64 100] 3)) (hk.alloc _) J hJ v2 h20 h21 v3 h30 h31 (W.heap.size) (Blk.new W _ _) (by have := hk.rd.lt; omega)
              rw [hops, hQ9] at h9
              exact h9
            exact AllReadyH.nil
          have L01100 : Hid (∀ (W : World) (hk : KL w W R (q + 1 + 0) (some ⟨g, 0, none⟩) n c ps) (b1 : Nat) (hb1 : Blk W b1 3 #[.int .i64 (-1), .int .i64 3, .int .i64 12]) (hn1 : b1 ≠ R) (b2 : Nat) (hb2 : Blk W b2 3 #[.int .i64 (-1), .int .i64 99, .int .i64 100]) (hn2 : b2 ≠ R), wpAnyH Try.prog .any ops9 Q9 (fun _ => True) 10 #[true, true, true, true, false, true, true, false, false, false, true, true, false, false, false, false, false, false] { tmps := #[.pointer (some ⟨R, 0, none⟩), undef, .slice none 0 0, .slice (some ⟨g, 0, none⟩) n c, .int .i64 12, .slice (some ⟨w.heap.size, 0, none⟩) 0 0, .int .i64 12, .bool false, u8, u9, u10, u11, u12, u13, u14, u15, u16, u17, u18, u19, .slice (some ⟨g, 0, none⟩) n c, .int .i64 (n : Int), .bool true, .bool true, .pointer (some ⟨R, 0, none⟩), .int .i64 0, .bool true, .bool true, .slice (some ⟨g, 0, none⟩) n c, .pointer (some ⟨R, 0, none⟩), .slice (some ⟨g, 0, none⟩) n c, .int .i64 (n : Int), undef, .slice (some ⟨b1, 0, none⟩) 3 3, .pointer (some ⟨R, 0, none⟩), undef, undef, undef, .slice (some ⟨b2, 0, none⟩) 3 3, .pointer (some ⟨R, 0, none⟩), undef, undef, undef, undef, undef, undef], defers := [] } W) := by
            intro W hk b1 hb1 hn1 b2 hb2 hn2
            clear HEND L31111 L31101 L31110 L31100 L21110 L30101 L31010 L21010 L21100 L30100 L31000 L21000 L20100 L30000
            rw [hops, hQ9]
            refine wpAnyH_ready (rs := [4]) (by kernel_rfl) (by simp) ?_
            refine AllReadyH.cons rfl (fun K hK => ?_) ?_
            · go_simp
              refine (pick_any R _ _ _ hk.rd (by omega) (by omega)).mono ?_
              rintro e W2 ⟨v, rfl, h0, h1, hr2, hg2⟩
              obtain ⟨J, rfl⟩ := Int.eq_ofNat_of_zero_le h0
              refine hK.out _ _ trivial (fun _ => ?_)
              clear hK K
              simp only [List.setIfInBounds_toArray, List.set_cons_zero, List.set_cons_succ]
              have h9 := L11100.out W2 (by rw [show q + 1 + 1 = q + 1 + 0 + 1 from by omega]; exact hk.pick hr2 hg2) J (by omega) b1 (hb1.grown hg2 (by intro e; injection e with e; exact hn1 e)) hn1 b2 (hb2.grown hg2 (by intro e; injection e with e; exact hn2 e)) hn2
              rw [hops, hQ9] at h9
              exact h9
            exact AllReadyH.nil
          have L10100 : Hid (∀ (W : World) (hk : KL w W R (q + 1 + 1) (some ⟨g, 0, none⟩) n c ps) (J : Nat) (hJ : J < n) (b2 : Nat) (hb2 : Blk W b2 3 #[.int .i64 (-1), .int .i64 99, .int .i64 100]) (hn2 : b2 ≠ R), wpAnyH Try.prog .any ops9 Q9 (fun _ => True) 10 #[true, true, true, true, true, false, true, false, false, false, true, true, false, false, false, false, false, false] { tmps := #[.pointer (some ⟨R, 0, none⟩), undef, .slice none 0 0, .slice (some ⟨g, 0, none⟩) n c, .int .i64 12, .slice (some ⟨w.heap.size, 0, none⟩) 0 0, .int .i64 12, .bool false, u8, u9, u10, u11, u12, u13, u14, u15, u16, u17, u18, u19, .slice (some ⟨g, 0, none⟩) n c, .int .i64 (n : Int), .bool true, .bool true, .pointer (some ⟨R, 0, none⟩), .int .i64 0, .bool true, .bool true, .slice (some ⟨g, 0, none⟩) n c, .pointer (some ⟨R, 0, none⟩), .slice (some ⟨g, 0, none⟩) n c, .int .i64 (n : Int), .int .i64 (J : Int), undef, .pointer (some ⟨R, 0, none⟩), undef, undef, undef, .slice (some ⟨b2, 0, none⟩) 3 3, .pointer (some ⟨R, 0, none⟩), undef, undef, undef, undef, undef, undef], defers := [] } W) := by
            intro W hk J hJ b2 hb2 hn2
            clear HEND L31111 L31101 L31110 L31100 L21110 L30101 L31010 L21010 L21100 L30100 L31000 L21000 L30000 L01100
            rw [hops, hQ9]
            refine wpAnyH_ready (rs := [5, 7]) (by kernel_rfl) (by simp) ?_
            refine AllReadyH.cons rfl (fun K hK => ?_) ?_
            · go_simp
              refine hK.out _ _ trivial (fun _ => ?_)
              clear hK K
              simp only [List.setIfInBounds_toArray, List.set_cons_zero, List.set_cons_succ]
              have h9 := L11100.out (W.alloc (.cells #[.int .i64 (-1), .int .i64 3, .int .i64 12] 3)) (hk.alloc _) J hJ (W.heap.size) (Blk.new W _ _) (by have := hk.rd.lt; omega) b2 (hb2.alloc _) hn2
              rw [hops, hQ9] at h9
              exact h9
            refine AllReadyH.cons rfl (fun K hK => ?_) ?_
            · go_simp
              refine (pick_any R _ _ _ hk.rd (by omega) (by omega)).mono ?_
              rintro e W2 ⟨v, rfl, h0, h1, hr2, hg2⟩
              refine hK.out _ _ trivial (fun _ => ?_)
              clear hK K
              simp only [List.setIfInBounds_toArray, List.set_cons_zero, List.set_cons_succ]
              have h9 := L20100.out W2 (by rw [show q + 1 + 2 = q + 1 + 1 + 1 from by omega]; exact hk.pick hr2 hg2) J hJ v h0 h1 b2 (hb2.grown hg2 (by intro e; injection e with e; exact hn2 e)) hn2
              rw [hops, hQ9] at h9
              exact h9
            exact AllReadyH.nil
          have L11000 : Hid (∀ (W : World) (hk : KL w W R (q + 1 + 1) (some ⟨g, 0, none⟩) n c ps) (J : Nat) (hJ : J < n) (b1 : Nat) (hb1 : Blk W b1 3 #[.int .i64 (-1), .int .i64 3, .int .i64 12]) (hn1 : b1 ≠ R), wpAnyH Try.prog .any ops9 Q9 (fun _ => True) 10 #[true, true, true, true, true, true, true, false, false, false, false, true, false, false, false, false, false, false] { tmps := #[.pointer (some ⟨R, 0, none⟩), undef, .slice none 0 0, .slice (some ⟨g, 0, none⟩) n c, .int .i64 12, .slice (some ⟨w.heap.size, 0, none⟩) 0 0, .int .i64 12, .bool false, u8, u9, u10, u11, u12, u13, u14, u15, u16, u17, u18, u19, .slice (some ⟨g, 0, none⟩) n c, .int .i64 (n : Int), .bool true, .bool true, .pointer (some ⟨R, 0, none⟩), .int .i64 0, .bool true, .bool true, .slice (some ⟨g, 0, none⟩) n c, .pointer (some ⟨R, 0, none⟩), .slice (some ⟨g, 0, none⟩) n c, .int .i64 (n : Int), .int .i64 (J : Int), .slice (some ⟨b1, 0, none⟩) 3 3, .pointer (some ⟨R, 0, none⟩), undef, undef, undef, undef, .pointer (some ⟨R, 0, none⟩), undef, undef, undef, undef, undef, undef], defers := [] } W) := by
            intro W hk J hJ b1 hb1 hn1
            clear HEND L31111 L31101 L31110 L31100 L21110 L30101 L31010 L21010 L21100 L30100 L31000 L20100 L30000 L01100 L10100
            rw [hops, hQ9]
            refine wpAnyH_ready (rs := [7, 10]) (by kernel_rfl) (by simp) ?_
            refine AllReadyH.cons rfl (fun K hK => ?_) ?_
            · go_simp
              refine (pick_any R _ _ _ hk.rd (by omega) (by omega)).mono ?_
              rintro e W2 ⟨v, rfl, h0, h1, hr2, hg2⟩
              refine hK.out _ _ trivial (fun _ => ?_)
              clear hK K
              refine takeHY (i := 8) 36 (v := .pointer (some ⟨b1, v.toNat, none⟩)) rfl rfl (by kernel_rfl) (by kernel_rfl) (by kernel_rfl) (fun _ _ _ h => h) (Or.inl ⟨by kernel_rfl, fun w hSw => by (go_simp; done)⟩) trivial ?_
              simp only [Act.put, List.setIfInBounds_toArray, List.set_cons_zero, List.set_cons_succ]
              have h9 := L21000.out W2 (by rw [show q + 1 + 2 = q + 1 + 1 + 1 from by omega]; exact hk.pick hr2 hg2) J hJ v h0 h1 b1 (hb1.grown hg2 (by intro e; injection e with e; exact hn1 e)) hn1
              rw [hops, hQ9] at h9
              exact h9
            refine AllReadyH.cons rfl (fun K hK => ?_) ?_
            · go_simp
              refine hK.out _ _ trivial (fun _ => ?_)
              clear hK K
              simp only [List.setIfInBounds_toArray, List.set_cons_zero, List.set_cons_succ]
              have h9 := L11100.out (W.alloc (.cells #[.int .i64 (-1), .int .i64 99, .int .i64 100] 3)) (hk.alloc _) J hJ b1 (hb1.alloc _) hn1 (W.heap.size) (Blk.new W _ _) (by have := hk.rd.lt; omega)
              rw [hops, hQ9] at h9
              exact h9
            exact AllReadyH.nil
          have L20000 : Hid (∀ (W : World) (hk : KL w W R (q + 1 + 2) (some ⟨g, 0, none⟩) n c ps) (J : Nat) (hJ : J < n) (v2 : Int) (h20 : 0 ≤ v2) (h21 : v2 < 3), wpAnyH Try.prog .any ops9 Q9 (fun _ => True) 10 #[true, true, true, true, true, false, true, true, false, false, false, true, false, false, false, false, false, false] { tmps := #[.pointer (some ⟨R, 0, none⟩), undef, .slice none 0 0, .slice (some ⟨g, 0, none⟩) n c, .int .i64 12, .slice (some ⟨w.heap.size, 0, none⟩) 0 0, .int .i64 12, .bool false, u8, u9, u10, u11, u12, u13, u14, u15, u16, u17, u18, u19, .slice (some ⟨g, 0, none⟩) n c, .int .i64 (n : Int), .bool true, .bool true, .pointer (some ⟨R, 0, none⟩), .int .i64 0, .bool true, .bool true, .slice (some ⟨g, 0, none⟩) n c, .pointer (some ⟨R, 0, none⟩), .slice (some ⟨g, 0, none⟩) n c, .int .i64 (n : Int), .int .i64 (J : Int), undef, .pointer (some ⟨R, 0, none⟩), .int .i64 v2, undef, undef, undef, .pointer (some ⟨R, 0, none⟩), undef, undef, undef, undef, undef, undef], defers := [] } W) := by
            intro W hk J hJ v2 h20 h21
            clear HEND L31111 L31101 L31110 L31100 L21110 L30101 L31010 L21010 L21100 L30100 L31000 L11100 L01100 L10100 L11000
            rw [hops, hQ9]
            refine wpAnyH_ready (rs := [5, 10, 12]) (by kernel_rfl) (by simp) ?_
            refine AllReadyH.cons rfl (fun K hK => ?_) ?_
            · go_simp
              refine hK.out _ _ trivial (fun _ => ?_)
              clear hK K
              refine takeHY (i := 8) 36 (v := .pointer (some ⟨W.heap.size, v2.toNat, none⟩)) rfl rfl (by kernel_rfl) (by kernel_rfl) (by kernel_rfl) (fun _ _ _ h => h) (Or.inl ⟨by kernel_rfl, fun w hSw => by (go_simp; done)⟩) trivial ?_
              simp only [Act.put, List.setIfInBounds_toArray, List.set_cons_zero, List.set_cons_succ]
              have h9 := L21000.out (W.alloc (.cells #[.int .i64 (-1), .int .i64 3, .int .i64 12] 3)) (hk.alloc _) J hJ v2 h20 h21 (W.heap.size) (Blk.new W _ _) (by have := hk.rd.lt; omega)
              rw [hops, hQ9] at h9
              exact h9
            refine AllReadyH.cons rfl (fun K hK => ?_) ?_
            · go_simp
              refine hK.out _ _ trivial (fun _ => ?_)
              clear hK K
              simp only [List.setIfInBounds_toArray, List.set_cons_zero, List.set_cons_succ]
              have h9 := L20100.out (W.alloc (.cells #[.int .i64 (-1), .int .i64 99, .int .i64 100] 3)) (hk.alloc _) J hJ v2 h20 h21 (W.heap.size) (Blk.new W _ _) (by have := hk.rd.lt; omega)
              rw [hops, hQ9] at h9
              exact h9
            refine AllReadyH.cons rfl (fun K hK => ?_) ?_
            · go_simp
              refine (pick_any R _ _ _ hk.rd (by omega) (by omega)).mono ?_
              rintro e W2 ⟨v, rfl, h0, h1, hr2, hg2⟩
              refine hK.out _ _ trivial (fun _ => ?_)
              clear hK K
              simp only [List.setIfInBounds_toArray, List.set_cons_zero, List.set_cons_succ]
              have h9 := L30000.out W2 (by rw [show q + 1 + 3 = q + 1 + 2 + 1 from by omega]; exact hk.pick hr2 hg2) J hJ v2 h20 h21 v h0 h1
              rw [hops, hQ9] at h9
              exact h9
            exact AllReadyH.nil
          have L00100 : Hid (∀ (W : World) (hk : KL w W R (q + 1 + 0) (some ⟨g, 0, none⟩) n c ps) (b2 : Nat) (hb2 : Blk W b2 3 #[.int .i64 (-1), .int .i64 99, .int .i64 100]) (hn2 : b2 ≠ R), wpAnyH Try.prog .any ops9 Q9 (fun _ => True) 11 #[true, true, true, true, false, false, true, false, false, false, true, true, false, false, false, false, false, false] { tmps := #[.pointer (some ⟨R, 0, none⟩), undef, .slice none 0 0, .slice (some ⟨g, 0, none⟩) n c, .int .i64 12, .slice (some ⟨w.heap.size, 0, none⟩) 0 0, .int .i64 12, .bool false, u8, u9, u10, u11, u12, u13, u14, u15, u16, u17, u18, u19, .slice (some ⟨g, 0, none⟩) n c, .int .i64 (n : Int), .bool true, .bool true, .pointer (some ⟨R, 0, none⟩), .int .i64 0, .bool true, .bool true, .slice (some ⟨g, 0, none⟩) n c, .pointer (some ⟨R, 0, none⟩), .slice (some ⟨g, 0, none⟩) n c, .int .i64 (n : Int), undef, undef, .pointer (some ⟨R, 0, none⟩), undef, undef, undef, .slice (some ⟨b2, 0, none⟩) 3 3, .pointer (some ⟨R, 0, none⟩), undef, undef, undef, undef, undef, undef], defers := [] } W) := by
            intro W hk b2 hb2 hn2
            clear HEND L31111 L31101 L31110 L31100 L21110 L30101 L31010 L21010 L21100 L30100 L31000 L21000 L11100 L20100 L30000 L11000 L20000
            rw [hops, hQ9]
            refine wpAnyH_ready (rs := [4, 5]) (by kernel_rfl) (by simp) ?_
            refine AllReadyH.cons rfl (fun K hK => ?_) ?_
            · go_simp
              refine (pick_any R _ _ _ hk.rd (by omega) (by omega)).mono ?_
              rintro e W2 ⟨v, rfl, h0, h1, hr2, hg2⟩
              obtain ⟨J, rfl⟩ := Int.eq_ofNat_of_zero_le h0
              refine hK.out _ _ trivial (fun _ => ?_)
              clear hK K
              simp only [List.setIfInBounds_toArray, List.set_cons_zero, List.set_cons_succ]
              have h9 := L10100.out W2 (by rw [show q + 1 + 1 = q + 1 + 0 + 1 from by omega]; exact hk.pick hr2 hg2) J (by omega) b2 (hb2.grown hg2 (by intro e; injection e with e; exact hn2 e)) hn2
              rw [hops, hQ9] at h9
              exact h9
            refine AllReadyH.cons rfl (fun K hK => ?_) ?_
            · go_simp
              refine hK.out _ _ trivial (fun _ => ?_)
              clear hK K
              simp only [List.setIfInBounds_toArray, List.set_cons_zero, List.set_cons_succ]
              have h9 := L01100.out (W.alloc (.cells #[.int .i64 (-1), .int .i64 3, .int .i64 12] 3)) (hk.alloc _) (W.heap.size) (Blk.new W _ _) (by have := hk.rd.lt; omega) b2 (hb2.alloc _) hn2
              rw [hops, hQ9] at h9
              exact h9
            exact AllReadyH.nil
          have L01000 : Hid (∀ (W : World) (hk : KL w W R (q + 1 + 0) (some ⟨g, 0, none⟩) n c ps) (b1 : Nat) (hb1 : Blk W b1 3 #[.int .i64 (-1), .int .i64 3, .int .i64 12]) (hn1 : b1 ≠ R), wpAnyH Try.prog .any ops9 Q9 (fun _ => True) 11 #[true, true, true, true, false, true, true, false, false, false, false, true, false, false, false, false, false, false] { tmps := #[.pointer (some ⟨R, 0, none⟩), undef, .slice none 0 0, .slice (some ⟨g, 0, none⟩) n c, .int .i64 12, .slice (some ⟨w.heap.size, 0, none⟩) 0 0, .int .i64 12, .bool false, u8, u9, u10, u11, u12, u13, u14, u15, u16, u17, u18, u19, .slice (some ⟨g, 0, none⟩) n c, .int .i64 (n : Int), .bool true, .bool true, .pointer (some ⟨R, 0, none⟩), .int .i64 0, .bool true, .bool true, .slice (some ⟨g, 0, none⟩) n c, .pointer (some ⟨R, 0, none⟩), .slice (some ⟨g, 0, none⟩) n c, .int .i64 (n : Int), undef, .slice (some ⟨b1, 0, none⟩) 3 3, .pointer (some ⟨R, 0, none⟩), undef, undef, undef, undef, .pointer (some ⟨R, 0, none⟩), undef, undef, undef, undef, undef, undef], defers := [] } W) := by
            intro W hk b1 hb1 hn1
            clear HEND L31111 L31101 L31110 L31100 L21110 L30101 L31010 L21010 L21100 L30100 L31000 L21000 L11100 L20100 L30000 L10100 L20000 L00100
            rw [hops, hQ9]
            refine wpAnyH_ready (rs := [4, 10]) (by kernel_rfl) (by simp) ?_
            refine AllReadyH.cons rfl (fun K hK => ?_) ?_
            · go_simp
              refine (pick_any R _ _ _ hk.rd (by omega) (by omega)).mono ?_
              rintro e W2 ⟨v, rfl, h0, h1, hr2, hg2⟩
              obtain ⟨J, rfl⟩ := Int.eq_ofNat_of_zero_le h0
              refine hK.out _ _ trivial (fun _ => ?_)
              clear hK K
              simp only [List.setIfInBounds_toArray, List.set_cons_zero, List.set_cons_succ]
              have h9 := L11000.out W2 (by rw [show q + 1 + 1 = q + 1 + 0 + 1 from by omega]; exact hk.pick hr2 hg2) J (by omega) b1 (hb1.grown hg2 (by intro e; injection e with e; exact hn1 e)) hn1
              rw [hops, hQ9] at h9
              exact h9
            refine AllReadyH.cons rfl (fun K hK => ?_) ?_
            · go_simp
              refine hK.out _ _ trivial (fun _ => ?_)
              clear hK K
              simp only [List.setIfInBounds_toArray, List.set_cons_zero, List.set_cons_succ]
              have h9 := L01100.out (W.alloc (.cells #[.int .i64 (-1), .int .i64 99, .int .i64 100] 3)) (hk.alloc _) b1 (hb1.alloc _) hn1 (W.heap.size) (Blk.new W _ _) (by have := hk.rd.lt; omega)
              rw [hops, hQ9] at h9
              exact h9
            exact AllReadyH.nil
          have L10000 : Hid (∀ (W : World) (hk : KL w W R (q + 1 + 1) (some ⟨g, 0, none⟩) n c ps) (J : Nat) (hJ : J < n), wpAnyH Try.prog .any ops9 Q9 (fun _ => True) 11 #[true, true, true, true, true, false, true, false, false, false, false, true, false, false, false, false, false, false] { tmps := #[.pointer (some ⟨R, 0, none⟩), undef, .slice none 0 0, .slice (some ⟨g, 0, none⟩) n c, .int .i64 12, .slice (some ⟨w.heap.size, 0, none⟩) 0 0, .int .i64 12, .bool false, u8, u9, u10, u11, u12, u13, u14, u15, u16, u17, u18, u19, .slice (some ⟨g, 0, none⟩) n c, .int .i64 (n : Int), .bool true, .bool true, .pointer (some ⟨R, 0, none⟩), .int .i64 0, .bool true, .bool true, .slice (some ⟨g, 0, none⟩) n c, .pointer (some ⟨R, 0, none⟩), .slice (some ⟨g, 0, none⟩) n c, .int .i64 (n : Int), .int .i64 (J : Int), undef, .pointer (some ⟨R, 0, none⟩), undef, undef, undef, undef, .pointer (some ⟨R, 0, none⟩), undef, undef, undef, undef, undef, undef], defers := [] } W) := by
            intro W hk J hJ
            clear HEND L31111 L31101 L31110 L31100 L21110 L30101 L31010 L21010 L21100 L30100 L31000 L21000 L11100 L20100 L30000 L01100 L00100 L01000
            rw [hops, hQ9]
            refine wpAnyH_ready (rs := [5, 7, 10]) (by kernel_rfl) (by simp) ?_
            refine AllReadyH.cons rfl (fun K hK => ?_) ?_
            · go_simp
              refine hK.out _ _ trivial (fun _ => ?_)
              clear hK K
              simp only [List.setIfInBounds_toArray, List.set_cons_zero, List.set_cons_succ]
              have h9 := L11000.out (W.alloc (.cells #[.int .i64 (-1), .int .i64 3, .int .i64 12] 3)) (hk.alloc _) J hJ (W.heap.size) (Blk.new W _ _) (by have := hk.rd.lt; omega)
              rw [hops, hQ9] at h9
              exact h9
            refine AllReadyH.cons rfl (fun K hK => ?_) ?_
            · go_simp
              refine (pick_any R _ _ _ hk.rd (by omega) (by omega)).mono ?_
              rintro e W2 ⟨v, rfl, h0, h1, hr2, hg2⟩
              refine hK.out _ _ trivial (fun _ => ?_)
              clear hK K
              simp only [List.setIfInBounds_toArray, List.set_cons_zero, List.set_cons_succ]
              have h9 := L20000.out W2 (by rw [show q + 1 + 2 = q + 1 + 1 + 1 from by omega]; exact hk.pick hr2 hg2) J hJ v h0 h1
              rw [hops, hQ9] at h9
              exact h9
            refine AllReadyH.cons rfl (fun K hK => ?_) ?_
            · go_simp
              refine hK.out _ _ trivial (fun _ => ?_)
              clear hK K
              simp only [List.setIfInBounds_toArray, List.set_cons_zero, List.set_cons_succ]
              have h9 := L10100.out (W.alloc (.cells #[.int .i64 (-1), .int .i64 99, .int .i64 100] 3)) (hk.alloc _) J hJ (W.heap.size) (Blk.new W _ _) (by have := hk.rd.lt; omega)
              rw [hops, hQ9] at h9
              exact h9
            exact AllReadyH.nil
          have L00000 : Hid (∀ (W : World) (hk : KL w W R (q + 1 + 0) (some ⟨g, 0, none⟩) n c ps), wpAnyH Try.prog .any ops9 Q9 (fun _ => True) 12 #[true, true, true, true, false, false, true, false, false, false, false, true, false, false, false, false, false, false] { tmps := #[.pointer (some ⟨R, 0, none⟩), undef, .slice none 0 0, .slice (some ⟨g, 0, none⟩) n c, .int .i64 12, .slice (some ⟨w.heap.size, 0, none⟩) 0 0, .int .i64 12, .bool false, u8, u9, u10, u11, u12, u13, u14, u15, u16, u17, u18, u19, .slice (some ⟨g, 0, none⟩) n c, .int .i64 (n : Int), .bool true, .bool true, .pointer (some ⟨R, 0, none⟩), .int .i64 0, .bool true, .bool true, .slice (some ⟨g, 0, none⟩) n c, .pointer (some ⟨R, 0, none⟩), .slice (some ⟨g, 0, none⟩) n c, .int .i64 (n : Int), undef, undef, .pointer (some ⟨R, 0, none⟩), undef, undef, undef, undef, .pointer (some ⟨R, 0, none⟩), undef, undef, undef, undef, undef, undef], defers := [] } W) := by
            intro W hk
            clear HEND L31111 L31101 L31110 L31100 L21110 L30101 L31010 L21010 L21100 L30100 L31000 L21000 L11100 L20100 L30000 L01100 L10100 L11000 L20000
            rw [hops, hQ9]
            refine wpAnyH_ready (rs := [4, 5, 10]) (by kernel_rfl) (by simp) ?_
            refine AllReadyH.cons rfl (fun K hK => ?_) ?_
            · go_simp
              refine (pick_any R _ _ _ hk.rd (by omega) (by omega)).mono ?_
              rintro e W2 ⟨v, rfl, h0, h1, hr2, hg2⟩
              obtain ⟨J, rfl⟩ := Int.eq_ofNat_of_zero_le h0
              refine hK.out _ _ trivial (fun _ => ?_)
              clear hK K
              simp only [List.setIfInBounds_toArray, List.set_cons_zero, List.set_cons_succ]
              have h9 := L10000.out W2 (by rw [show q + 1 + 1 = q + 1 + 0 + 1 from by omega]; exact hk.pick hr2 hg2) J (by omega)
              rw [hops, hQ9] at h9
              exact h9
            refine AllReadyH.cons rfl (fun K hK => ?_) ?_
            · go_simp
              refine hK.out _ _ trivial (fun _ => ?_)
              clear hK K
              simp only [List.setIfInBounds_toArray, List.set_cons_zero, List.set_cons_succ]
              have h9 := L01000.out (W.alloc (.cells #[.int .i64 (-1), .int .i64 3, .int .i64 12] 3)) (hk.alloc _) (W.heap.size) (Blk.new W _ _) (by have := hk.rd.lt; omega)
              rw [hops, hQ9] at h9
              exact h9
            refine AllReadyH.cons rfl (fun K hK => ?_) ?_
            · go_simp
              refine hK.out _ _ trivial (fun _ => ?_)
              clear hK K
              simp only [List.setIfInBounds_toArray, List.set_cons_zero, List.set_cons_succ]
              have h9 := L00100.out (W.alloc (.cells #[.int .i64 (-1), .int .i64 99, .int .i64 100] 3)) (hk.alloc _) (W.heap.size) (Blk.new W _ _) (by have := hk.rd.lt; omega)
              rw [hops, hQ9] at h9
              exact h9
            exact AllReadyH.nil
          clear HEND L31111 L31101 L31110 L31100 L21110 L30101 L31010 L21010 L21100 L30100 L31000 L21000 L11100 L20100 L30000 L01100 L10100 L11000 L20000 L00100 L01000 L10000
          rw [hops, hQ9]
          refine takeHY (i := 0) 28 (v := .slice (some ⟨g, 0, none⟩) n c) rfl rfl (by kernel_rfl) (by kernel_rfl) (by kernel_rfl) (fun _ _ _ h => h) (Or.inl ⟨by kernel_rfl, fun w hSw => by (go_simp; done)⟩) trivial ?_
          refine takeHY (i := 1) 29 (v := .pointer (some ⟨R, 0, none⟩)) rfl rfl (by kernel_rfl) (by kernel_rfl) (by kernel_rfl) (fun _ _ _ h => h) (Or.inl ⟨by kernel_rfl, fun w hSw => by (go_simp; done)⟩) trivial ?_
          refine takeHY (i := 2) 30 (v := .slice (some ⟨g, 0, none⟩) n c) rfl rfl (by kernel_rfl) (by kernel_rfl) (by kernel_rfl) (fun _ _ _ h => h) (Or.inl ⟨by kernel_rfl, fun w hSw => by (go_simp; done)⟩) trivial ?_
          refine takeHY (i := 3) 31 (v := .int .i64 (n : Int)) rfl rfl (by kernel_rfl) (by kernel_rfl) (by kernel_rfl) (fun _ _ _ h => h) (Or.inl ⟨by kernel_rfl, fun w hSw => by (go_simp; done)⟩) trivial ?_
          refine takeHY (i := 6) 34 (v := .pointer (some ⟨R, 0, none⟩)) rfl rfl (by kernel_rfl) (by kernel_rfl) (by kernel_rfl) (fun _ _ _ h => h) (Or.inl ⟨by kernel_rfl, fun w hSw => by (go_simp; done)⟩) trivial ?_
          refine takeHY (i := 11) 39 (v := .pointer (some ⟨R, 0, none⟩)) rfl rfl (by kernel_rfl) (by kernel_rfl) (by kernel_rfl) (fun _ _ _ h => h) (Or.inl ⟨by kernel_rfl, fun w hSw => by (go_simp; done)⟩) trivial ?_
          simp only [Act.put, List.setIfInBounds_toArray, List.set_cons_zero, List.set_cons_succ]
          have h9 := L00000.out _ HK5
          rw [hops, hQ9] at h9
          exact h9
        · have hu' : (u == 0) = false := by simpa using hu
          go_wp2
          go_ret
          exact ⟨_, _, _, _, _, rfl, by omega, by omega, by omega, HK4.out⟩
end Go.Proofs.Ytapfbkjgmfmepaa
