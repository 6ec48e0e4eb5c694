/-
  Drawn extents: l93Extents; the drawn arguments of the laws on extents.
-/
import Derived.Test.YtphnckknhlmgaaaDrawE1
namespace Go.Proofs.Ytphnckknhlmgaaa
open Go.RowKit
set_option linter.unusedVariables false
set_option maxRecDepth 100000

structure KE (w0 w : World) (R : Nat) (p : Int) (A : Option Addr) (n c : Nat) (es : Exs) : Prop where
  rd : Rd w R p
  rlt : R < w0.heap.size
  own : ExR w w0.heap.size A n c es
  num : n ≤ 13
  rng : Rg es
  grown : w0.grownBy w (some R)
theorem KE.pick {w0 w w' : World} {R n c : Nat} {p p' : Int} {A : Option Addr} {es : Exs} (h : KE w0 w R p A n c es) (hr : Rd w' R p') (hg : w.grownBy w' (some R)) : KE w0 w' R p' A n c es :=
  { rd := hr, rlt := h.rlt, num := h.num, rng := h.rng, grown := grown_trans' h.grown hg, own := h.own.kept hg (by intro q hq; injection hq with hq; subst hq; intro e; have := (h.own.2.block _ e).1; have := h.rlt; omega) }
theorem KE.alloc {w0 w : World} {R n c : Nat} {p : Int} {A : Option Addr} {es : Exs} (h : KE w0 w R p A n c es) (o : Obj) : KE w0 (w.alloc o) R p A n c es :=
  { rd := h.rd.alloc o, rlt := h.rlt, own := h.own.alloc o, num := h.num, rng := h.rng, grown := grown_alloc h.grown o }
theorem ExR.at_ {w : World} {base g n c k : Nat} {es : Exs} {e : Int × Int} (h : ExR w base (some ⟨g, 0, none⟩) n c es) (hk : es[k]? = some e) :
    w.cell? ⟨g, k * 2, none⟩ = some (.int .i64 e.1) ∧ w.cell? ⟨g, k * 2 + 1, none⟩ = some (.int .i64 e.2) := by
  have hl : k < n := by rw [← h.1]; exact (List.getElem?_eq_some_iff.1 hk).1
  exact ⟨by rw [h.2.cell (j := k * 2) (by omega), (fl_getD hk).1], by rw [h.2.cell (j := k * 2 + 1) (by omega), (fl_getD hk).2]⟩
theorem ExR.put {w : World} {base g n c k : Nat} {es : Exs} {e : Int × Int} (h : ExR w base (some ⟨g, 0, none⟩) n c es) (hk : es[k]? = some e) (x : Int) :
    (ExR (w.setCell ⟨g, k * 2, none⟩ (.int .i64 x)) base (some ⟨g, 0, none⟩) n c (es.set k (x, e.2)) ∧ w.grownBy (w.setCell ⟨g, k * 2, none⟩ (.int .i64 x)) (some g)) ∧
    (ExR (w.setCell ⟨g, k * 2 + 1, none⟩ (.int .i64 x)) base (some ⟨g, 0, none⟩) n c (es.set k (e.1, x)) ∧ w.grownBy (w.setCell ⟨g, k * 2 + 1, none⟩ (.int .i64 x)) (some g)) := by
  have h0 := h.2.stored (j := k * 2) x
  have h1 := h.2.stored (j := k * 2 + 1) x
  rw [(fl_set hk x 0).1] at h0
  rw [(fl_set hk 0 x).2] at h1
  exact ⟨⟨⟨by rw [List.length_set]; exact h.1, h0.1⟩, h0.2⟩, ⟨⟨by rw [List.length_set]; exact h.1, h1.1⟩, h1.2⟩⟩
theorem KE.put {w0 w w' : World} {R n c g : Nat} {p : Int} {es es' : Exs} (h : KE w0 w R p (some ⟨g, 0, none⟩) n c es) (hp : ExR w' w0.heap.size (some ⟨g, 0, none⟩) n c es') (hg : w.grownBy w' (some g)) (hr : Rg es') : KE w0 w' R p (some ⟨g, 0, none⟩) n c es' := by
  have hg0 := (h.own.2.block g rfl).1
  exact { rd := h.rd.grown hg (fun b hb => by injection hb with hb; have := h.rlt; omega), rlt := h.rlt, own := hp, num := h.num, rng := hr, grown := grown_own h.grown hg (fun b hb => by injection hb with hb; omega) }
theorem KE.app {w0 w w8 : World} {R n c c8 : Nat} {p : Int} {A A8 : Option Addr} {es es' : Exs} {o : Obj} (h : KE w0 w R p A n c es) (hn : n ≤ 12) (ho : ExR w8 w0.heap.size A8 (n + 1) c8 es') (hg : (w.alloc o).grownBy w8 (Value.slice A n c).ownBlock) (hr : Rg es') : KE w0 w8 R p A8 (n + 1) c8 es' := by
  have hb := h.own.2.block
  exact { rd := (h.rd.alloc o).grown hg (fun b hb' => by have := (hb b hb').1; have := h.rlt; omega), rlt := h.rlt, own := ho, num := by omega, rng := hr, grown := grown_own (grown_alloc h.grown o) hg (fun b hb' => (hb b hb').1) }
def zthree (v : Int) : Int := ([0, -1, 13] : List Int).getD v.toNat 0
theorem ofB_len (bs : List Int) : (ofB bs).length ≤ 12 := by
  unfold ofB
  split
  · exact runsP_len _ 12
  · exact Nat.zero_le _

/-- what is handed back -/
def DrawnE (w0 : World) (R : Nat) (p : Int) (e : Ending) (w' : World) : Prop :=
  ∃ (A : Option Addr) (n c : Nat) (es : Exs) (p' : Int), e = .returned (.slice A n c) ∧ p ≤ p' ∧ p' ≤ p + 30 ∧ KE w0 w' R p' A n c es

set_option maxHeartbeats 6400000 in
theorem extents93_any (R : Nat) (p : Int) (w : World) (hr : Rd w R p) (hp : p < 20000) :
    Calls Try.prog 36 #[.pointer (some ⟨R, 0, none⟩)] w (DrawnE w R p) := by
  have hR := hr.lt
  go_enter Try.func36, Try.ntmps36
  go_wp2_with fail
  refine (blocks93_any R p _ hr hp).mono ?_
  rintro e w1 ⟨A1, m, d, xs, p1, rfl, hm, hp10, hp11, hk⟩
  have HK := hide hk
  have hs1 := hk.grown.size
  clear hk hr
  go_wp2_with fail
  refine (specOf A1 m d _ xs _ HK.out.own.ints (Nat.le_refl _) (by omega)).mono ?_
  rintro e w2 ⟨A2, n, c, rfl, ho, hb⟩
  have HE : Hid (KE w w2 R p1 A2 n c (ofB xs)) := { rd := HK.out.rd.below hb, rlt := hR, own := ho.mono hs1, num := by have := ho.1; have := ofB_len xs; omega, rng := Rg.val (ofB_val xs), grown := grown_trans' HK.out.grown (grown_of_below hb _) }
  have hn12 : n ≤ 12 := by have := ho.1; have := ofB_len xs; omega
  clear ho hb HK
  generalize ofB xs = es at HE
  generalize okB xs = ok
  by_cases hn0 : n = 0
  · subst hn0
    have h00 : decide ((0 : Int) < 0) = false := by decide
    go_wp2
    go_ret
    exact ⟨_, _, _, _, _, rfl, by omega, by omega, HE.out⟩
  · have hnp : decide ((0 : Int) < (n : Int)) = true := by simp; omega
    have hnp' : 0 < n := by omega
    go_wp2_with fail
    refine (pick_any R _ 16 _ HE.out.rd (by omega) (by omega)).mono ?_
    rintro e w3 ⟨v3, rfl, hv30, hv31, hr3, hg3⟩
    have HE3 := hide (HE.out.pick hr3 hg3)
    clear hr3 hg3 HE
    by_cases h0 : v3 = 0
    · subst h0
      go_wp2_with fail
      refine (pick_any R _ n _ HE3.out.rd (by omega) (by omega)).mono ?_
      rintro e w4 ⟨j, rfl, hj0, hj1, hr4, hg4⟩
      have HE4 := hide (HE3.out.pick hr4 hg4)
      obtain ⟨J, rfl⟩ := Int.eq_ofNat_of_zero_le hj0
      clear hr4 hg4 HE3
      go_wp2_with fail
      refine (pick_any R _ 3 _ HE4.out.rd (by omega) (by omega)).mono ?_
      rintro e w5 ⟨v5, rfl, hv50, hv51, hr5, hg5⟩
      have HE5 := hide (HE4.out.pick hr5 hg5)
      clear hr5 hg5 HE4
      obtain ⟨g, rfl, hg0, hgl⟩ := HE5.out.own.2.shape hnp'
      obtain ⟨q, hq⟩ : ∃ q, es[J]? = some q := ⟨_, List.getElem?_eq_getElem (by rw [HE5.out.own.1]; omega)⟩
      have HQ := hide hq
      clear hq
      by_cases h1 : v5 = 0
      · subst h1
        have HA5 := hide (HE5.out.alloc (.cells #[.int .i64 0, .int .i64 (-1), .int .i64 13] 3))
        have HBL := hide (Blk.new w5 3 #[.int .i64 0, .int .i64 (-1), .int .i64 13])
        have hRw5 : R < w5.heap.size := HE5.out.rd.lt
        go_wp2_with fail
        refine (pick_any R _ 3 _ HA5.out.rd (by omega) (by omega)).mono ?_
        rintro e w6 ⟨x, rfl, hx0, hx1, hr6, hg6⟩
        have HE6 := hide (HA5.out.pick hr6 hg6)
        have hB6 := HBL.out.grown hg6 (by intro e; injection e with e; omega)
        have hc : w6.cell? ⟨w5.heap.size, x.toNat, none⟩ = some (.int .i64 (zthree x)) := by
          rw [hB6.cell]
          have : x = 0 ∨ x = 1 ∨ x = 2 := by omega
          rcases this with rfl | rfl | rfl <;> rfl
        have hc1 := (HE6.out.own.at_ HQ.out).2
        have hf := HE6.out.own.2.free (j := J * 2 + 1)
        have hput := (HE6.out.own.put HQ.out (zthree x)).2
        have HE7 := hide (HE6.out.put hput.1 hput.2 (HE6.out.rng.set _ _ _ (HE6.out.rng.at HQ.out)))
        generalize zthree x = y at hc HE7
        clear hr6 hg6 HE5 HA5 hB6 HBL hput
        go_wp2
        go_ret
        exact ⟨_, _, _, _, _, rfl, by omega, by omega, HE7.out⟩
      · have h1' : (v5 == 0) = false := by simpa using h1
        by_cases h2 : v5 = 1
        · subst h2
          go_wp2_with fail
          refine (pick_any R _ 14 _ HE5.out.rd (by omega) (by omega)).mono ?_
          rintro e w6 ⟨x, rfl, hx0, hx1, hr6, hg6⟩
          have HE6 := hide (HE5.out.pick hr6 hg6)
          have hc1 := (HE6.out.own.at_ HQ.out).1
          have hf := HE6.out.own.2.free (j := J * 2)
          have hput := (HE6.out.own.put HQ.out (x - 1)).1
          have HE7 := hide (HE6.out.put hput.1 hput.2 (HE6.out.rng.set _ _ _ (by omega)))
          clear hr6 hg6 HE5 hput
          go_wp2
          go_ret
          exact ⟨_, _, _, _, _, rfl, by omega, by omega, HE7.out⟩
        · have h2' : (v5 == 1) = false := by simpa using h2
          obtain rfl : v5 = 2 := by omega
          obtain ⟨hc0, hc1⟩ := HE5.out.own.at_ HQ.out
          obtain ⟨f, mm⟩ := q
          simp only at hc0 hc1
          have hsz5 := HE5.out.grown.size
          go_wp2_with (at_builtin; refine wpList_append_recs extT rfl (.tmp 48) (.tmp 53) rfl w.heap.size n c (w5.heap.size + 1) 1 1 (some ⟨g, 0, none⟩) (some ⟨w5.heap.size, 0, none⟩) (fl es) [f, mm] rfl (HE5.out.own.2.alloc _) rfl (Ints.rec2 w5 39 f mm) (by omega) (by simp; omega) ?_; intro A8 c8 w8 ho8 hg8 hat8; have HE8 := hide (HE5.out.app hn12 (ExR.app HE5.out.own.1 ho8) hg8 (HE5.out.rng.app (fun e he => by rw [List.mem_singleton.1 he]; exact HE5.out.rng.at HQ.out))); clear ho8 hg8 hat8)
          go_ret
          exact ⟨_, _, _, _, _, rfl, by omega, by omega, HE8.out⟩
    · have h0' : (v3 == 0) = false := by simpa using h0
      go_wp2
      go_ret
      exact ⟨_, _, _, _, _, rfl, by omega, by omega, HE3.out⟩

theorem grown_after {w w1 w2 : World} (hb : Below w.heap.size w w1) (hg : w1.grownBy w2 (some w.heap.size)) : Below w.heap.size w w2 :=
  hb.trans (below_of_grown' hg hb.size (by intro q hq; injection hq with hq; omega))
/-- drawn extents -/
structure ExDrawn (w0 w' : World) (A : Option Addr) (n c : Nat) (es : Exs) : Prop where
  exi : ExI w' w'.heap.size A n es
  num : n ≤ 13
  rng : Rg es
  nc : n ≤ c
  cm : c ≤ maxLen
  below : Below w0.heap.size w0 w'
theorem KE.drawn {w0 w1 w' : World} {R n c : Nat} {p : Int} {A : Option Addr} {es : Exs} (h : KE w1 w' R p A n c es) (hR : R = w0.heap.size) (hb : Below w0.heap.size w0 w1) : ExDrawn w0 w' A n c es :=
  { exi := h.own.exi, num := h.num, rng := h.rng, nc := h.own.2.cap.1, cm := h.own.2.cap.2, below := grown_after hb (hR ▸ h.grown) }

set_option maxHeartbeats 800000 in
theorem drawEV_any (A : Option Addr) (n c : Nat) (bs : Nat → Int) (w : World) (hb : Bytes w w.heap.size A n bs) (hn : n ≤ c) (hc : c ≤ maxLen) :
    Calls Try.prog 27 #[.slice A n c] w fun e w' => ∃ A2 m c2 es, e = .returned (.slice A2 m c2) ∧ ExDrawn w w' A2 m c2 es := by
  go_enter Try.func27, Try.ntmps27
  go_wp2_with fail
  refine (open_any A n c bs _ hb hn hc).mono ?_
  rintro e w1 ⟨rfl, hr, hB⟩
  have HB1 := hide hB
  clear hB hb
  go_wp2_with fail
  refine (extents93_any _ 0 _ hr (by omega)).mono ?_
  rintro e w2 ⟨A2, m, c2, es, p', rfl, hp0, hp1, ho⟩
  have HO := hide (ho.drawn rfl HB1.out)
  clear ho hr
  go_wp2
  go_ret
  exact ⟨_, _, _, _, rfl, HO.out⟩
set_option maxHeartbeats 800000 in
theorem drawEB_any (A : Option Addr) (n c : Nat) (bs : Nat → Int) (w : World) (hb : Bytes w w.heap.size A n bs) (hn : n ≤ c) (hc : c ≤ maxLen) :
    Calls Try.prog 17 #[.slice A n c] w fun e w' => ∃ A2 m c2 es, e = .returned (.slice A2 m c2) ∧ ExDrawn w w' A2 m c2 es := by
  go_enter Try.func17, Try.ntmps17
  go_wp2_with fail
  refine (open_any A n c bs _ hb hn hc).mono ?_
  rintro e w1 ⟨rfl, hr, hB⟩
  have HB1 := hide hB
  clear hB hb
  go_wp2_with fail
  refine (extents93_any _ 0 _ hr (by omega)).mono ?_
  rintro e w2 ⟨A2, m, c2, es, p', rfl, hp0, hp1, ho⟩
  have HO := hide (ho.drawn rfl HB1.out)
  clear ho hr
  go_wp2
  go_ret
  exact ⟨_, _, _, _, rfl, HO.out⟩

set_option maxHeartbeats 800000 in
theorem drawEO_any (A : Option Addr) (n c : Nat) (bs : Nat → Int) (w : World) (hb : Bytes w w.heap.size A n bs) (hn : n ≤ c) (hc : c ≤ maxLen) :
    Calls Try.prog 10 #[.slice A n c] w fun e w' => ∃ A2 m c2 xs, e = .returned (.slice A2 m c2) ∧ Ints w' w'.heap.size A2 m xs ∧ m ≤ 12 ∧ m ≤ c2 ∧ c2 ≤ maxLen ∧ Below w.heap.size w w' := by
  go_enter Try.func10, Try.ntmps10
  go_wp2_with fail
  refine (open_any A n c bs _ hb hn hc).mono ?_
  rintro e w1 ⟨rfl, hr, hB⟩
  have HB1 := hide hB
  clear hB hb
  go_wp2_with fail
  refine (blocks93_any _ 0 _ hr (by omega)).mono ?_
  rintro e w2 ⟨A2, m, c2, xs, p', rfl, hm, hp0, hp1, ho⟩
  have HO := hide ho
  have HB2 := hide (grown_after HB1.out ho.grown)
  clear ho hr
  go_wp2
  go_ret
  exact ⟨_, _, _, _, rfl, HO.out.own.ints, hm, HO.out.own.cap.1, HO.out.own.cap.2, HB2.out⟩

set_option maxHeartbeats 1600000 in
theorem drawEJ_any (A : Option Addr) (n c : Nat) (bs : Nat → Int) (w : World) (hb : Bytes w w.heap.size A n bs) (hn : n ≤ c) (hc : c ≤ maxLen) :
    Calls Try.prog 20 #[.slice A n c] w fun e w' => ∃ A2 m c2 es A3 k c3 fs, e = .returned (.tuple #[.slice A2 m c2, .slice A3 k c3]) ∧ ExDrawn w w' A2 m c2 es ∧ ExDrawn w w' A3 k c3 fs := by
  go_enter Try.func20, Try.ntmps20
  go_wp2_with fail
  refine (open_any A n c bs _ hb hn hc).mono ?_
  rintro e w1 ⟨rfl, hr, hB⟩
  have HB1 := hide hB
  clear hB hb
  go_wp2_with fail
  refine (extents93_any _ 0 _ hr (by omega)).mono ?_
  rintro e w2 ⟨A2, m, c2, es, p2, rfl, hp0, hp1, ho⟩
  have HO := hide ho
  clear ho hr
  go_wp2_with fail
  refine (extents93_any _ _ _ HO.out.rd (by omega)).mono ?_
  rintro e w3 ⟨A3, k, c3, fs, p3, rfl, hp30, hp31, ho3⟩
  have hs12 := HO.out.grown.size
  have HO3 : Hid (ExDrawn w w3 A3 k c3 fs) := { exi := ho3.own.exi, num := ho3.num, rng := ho3.rng, nc := ho3.own.2.cap.1, cm := ho3.own.2.cap.2, below := grown_after HB1.out (grown_trans' HO.out.grown ho3.grown) }
  have HO2 := hide ((HO.out.pick ho3.rd ho3.grown).drawn rfl HB1.out)
  clear ho3 HO
  go_wp2
  go_ret2
  exact ⟨_, _, _, _, _, _, _, _, rfl, HO2.out, HO3.out⟩
set_option maxHeartbeats 800000 in
theorem drawEW_any (A : Option Addr) (n c : Nat) (bs : Nat → Int) (w : World) (hb : Bytes w w.heap.size A n bs) (hn : n ≤ c) (hc : c ≤ maxLen) :
    Calls Try.prog 24 #[.slice A n c] w fun e w' => ∃ A2 m c2 es A3 k c3 fs, e = .returned (.tuple #[.slice A2 m c2, .slice A3 k c3]) ∧ ExDrawn w w' A2 m c2 es ∧ ExDrawn w w' A3 k c3 fs := by
  go_enter Try.func24, Try.ntmps24
  go_wp2_with fail
  refine (drawEJ_any A n c bs _ hb hn hc).mono ?_
  rintro e w2 ⟨A2, m, c2, es, A3, k, c3, fs, rfl, h2, h3⟩
  have H2 := hide h2
  have H3 := hide h3
  clear h2 h3 hb
  go_wp2
  go_ret2
  exact ⟨_, _, _, _, _, _, _, _, rfl, H2.out, H3.out⟩
end Go.Proofs.Ytphnckknhlmgaaa
