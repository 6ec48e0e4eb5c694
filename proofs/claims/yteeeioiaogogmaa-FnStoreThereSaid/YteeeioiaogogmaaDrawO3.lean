/-
  The drawn arguments of the laws on stores.
-/
import Derived.Test.YteeeioiaogogmaaDrawO2
import Derived.Deep.RegionHeld3
namespace Go.Proofs.Yteeeioiaogogmaa
open Go.RowKit
set_option linter.unusedVariables false
set_option maxRecDepth 100000

theorem grown_after {w w1 w2 : World} (hb : Below w.heap.size w w1) (hg : w1.grownBy w2 (some w.heap.size)) : Below w.heap.size w w2 :=
  hb.trans (below_of_grown' hg hb.size (by intro q hq; injection hq with hq; omega))
theorem results_tmp3 {fn : Func} {t u v : Tmp} (h : fn.results = #[.tmp t, .tmp u, .tmp v]) (tmps : Array Value) (P : Program) (w : World) :
    (results fn tmps).run P w = .ok (.tuple #[tmps.getD t undef, tmps.getD u undef, tmps.getD v undef]) w := by
  simp [results, h]

/-- a drawn store -/
structure StoDrawn (w0 w' : World) (A : Option Addr) (n c : Nat) (qs : List Oq) : Prop where
  objs : Objs w' w'.heap.size A n qs
  vals : ∀ q ∈ qs, Own w' w0.heap.size q.addr q.vals.length q.cap q.vals
  num : n ≤ 12
  nc : n ≤ c
  cm : c ≤ maxLen
  len : ∀ q ∈ qs, q.vals.length ≤ 8 ∧ -1 ≤ q.id ∧ q.id ≤ 999
  below : Below w0.heap.size w0 w'
theorem RO.drawn {w0 w1 w' : World} {R n c : Nat} {p : Int} {A : Option Addr} {qs : List Oq} (h : RO w1 w' R p A n c qs) (hR : R = w0.heap.size) (hb : Below w0.heap.size w0 w1) : StoDrawn w0 w' A n c qs :=
  { objs := h.row.objs, vals := fun q hq => (h.row.vals q hq).mono hb.size, num := h.num, nc := h.row.cap.1, cm := h.row.cap.2, len := h.len, below := grown_after hb (hR ▸ h.grown) }

set_option maxHeartbeats 800000 in
theorem drawSV_any (A : Option Addr) (n c : Nat) (bs : Nat → Int) (w : World) (hb : Bytes w w.heap.size A n bs) (hn : n ≤ c) (hc : c ≤ maxLen) :
    Calls Try.prog 24 #[.slice A n c] w fun e w' => ∃ A2 m c2 qs, e = .returned (.slice A2 m c2) ∧ StoDrawn w w' A2 m c2 qs := by
  go_enter Try.func24, Try.ntmps24
  go_wp2_with fail
  refine (open_any A n c bs _ hb hn hc).mono ?_
  rintro e w1 ⟨rfl, hr, hB⟩
  have HB1 := hide hB
  clear hB hb
  go_wp2_with fail
  refine (store91_any _ 0 _ hr (by omega)).mono ?_
  rintro e w2 ⟨A2, m, c2, qs, p', rfl, hp0, hp1, ho⟩
  have HO := hide (ho.drawn rfl HB1.out)
  clear ho hr
  go_wp2
  go_ret
  exact ⟨_, _, _, _, rfl, HO.out⟩

def odd (v : Int) : Int := ([0, 999, 1000] : List Int).getD v.toNat 0
theorem odd_rng (v : Int) : 0 ≤ odd v ∧ odd v ≤ 1000 := by
  unfold odd
  rcases h : v.toNat with _ | _ | _ | n <;> simp

set_option maxHeartbeats 3200000 in
theorem drawSP_any (A : Option Addr) (n c : Nat) (bs : Nat → Int) (w : World) (hb : Bytes w w.heap.size A n bs) (hn : n ≤ c) (hc : c ≤ maxLen) :
    Calls Try.prog 11 #[.slice A n c] w fun e w' => ∃ A2 m c2 qs id X k d xs, e = .returned (.tuple #[.slice A2 m c2, .int .i64 id, .slice X k d]) ∧ StoDrawn w w' A2 m c2 qs ∧ 0 ≤ id ∧ id ≤ 1000 ∧
      Ints w' w'.heap.size X k xs ∧ k ≤ 8 ∧ k ≤ d ∧ d ≤ maxLen ∧ (X = none → d = 0) := by
  go_enter Try.func11, Try.ntmps11
  go_wp2_with fail
  refine (open_any A n c bs _ hb hn hc).mono ?_
  rintro e w1 ⟨rfl, hr, hB⟩
  have HB1 := hide hB
  clear hB hb
  go_wp2_with fail
  refine (store91_any _ 0 _ hr (by omega)).mono ?_
  rintro e w2 ⟨A2, m, c2, qs, p2, rfl, hp0, hp1, ho⟩
  have HO := hide ho
  clear ho hr
  go_wp2_with fail
  refine (pick_any _ _ 14 _ HO.out.rd (by omega) (by omega)).mono ?_
  rintro e w3 ⟨v3, rfl, hv30, hv31, hr3, hg3⟩
  have HO3 := hide (HO.out.pick hr3 hg3)
  clear hr3 hg3 HO
  go_wp2_with fail
  refine (pick_any _ _ 16 _ HO3.out.rd (by omega) (by omega)).mono ?_
  rintro e w4 ⟨v4, rfl, hv40, hv41, hr4, hg4⟩
  have HO4 := hide (HO3.out.pick hr4 hg4)
  clear hr4 hg4 HO3
  have key : ∀ (wx : World) (px : Int) (id : Int), 0 ≤ px → px ≤ 300 → 0 ≤ id → id ≤ 1000 → Hid (RO w1 wx w.heap.size px A2 m c2 qs) →
      Calls Try.prog 29 #[.pointer (some ⟨w.heap.size, 0, none⟩)] wx fun e w' => ∃ X k d xs, e = .returned (.slice X k d) ∧ StoDrawn w w' A2 m c2 qs ∧ Ints w' w'.heap.size X k xs ∧ k ≤ 8 ∧ k ≤ d ∧ d ≤ maxLen ∧ (X = none → d = 0) := by
    intro wx px id h0 h1 h2 h3 HX
    refine (values91_any _ px _ HX.out.rd (by omega)).mono ?_
    rintro e w5 ⟨X, k, d, xs, p5, rfl, hk, hp50, hp51, hkv⟩
    exact ⟨X, k, d, xs, rfl, (HX.out.pick hkv.rd hkv.grown).drawn rfl HB1.out, hkv.own.ints, hk, hkv.own.cap.1, hkv.own.cap.2, hkv.own.nilcap⟩
  have KEY := hide key
  clear key
  by_cases h0 : v4 = 0
  · subst h0
    have HA5 : Hid (RO w1 (w4.alloc (.cells #[.int .i64 0, .int .i64 999, .int .i64 1000] 3)) w.heap.size (p2 + 1 + 1) A2 m c2 qs) := HO4.out.below ((Below.refl _ _).alloc (Nat.le_refl _) _)
    have HBL := hide (Blk.new w4 3 #[.int .i64 0, .int .i64 999, .int .i64 1000])
    have hRw : w.heap.size < w4.heap.size := HO4.out.rd.lt
    clear HO4
    go_wp2_with fail
    refine (pick_any _ _ 3 _ HA5.out.rd (by omega) (by omega)).mono ?_
    rintro e w5 ⟨x, rfl, hx0, hx1, hr5, hg5⟩
    have HO5 := hide (HA5.out.pick hr5 hg5)
    have hB5 := HBL.out.grown hg5 (by intro e; injection e with e; omega)
    have hc : w5.cell? ⟨w4.heap.size, x.toNat, none⟩ = some (.int .i64 (odd x)) := by
      rw [hB5.cell]
      have : x = 0 ∨ x = 1 ∨ x = 2 := by omega
      rcases this with rfl | rfl | rfl <;> rfl
    have hodd := odd_rng x
    generalize odd x = y at hc hodd
    clear hr5 hg5 HA5 hB5 HBL
    go_wp2_with fail
    refine (KEY.out _ _ y (by omega) (by omega) hodd.1 hodd.2 HO5.out).mono ?_
    rintro e w6 ⟨X, k, d, xs, rfl, hd, hi, hk, hkd, hdm, hnl⟩
    have HD := hide hd
    have HI := hide hi
    have HN := hide hnl
    clear hd hi hnl KEY HO5
    go_wp2
    refine bodyPost_ret (results_tmp3 Try.results11 _ _ _) rfl ?_
    exact ⟨_, _, _, _, _, _, _, _, _, rfl, HD.out, hodd.1, hodd.2, HI.out, hk, hkd, hdm, HN.out⟩
  · have h0' : (v4 == 0) = false := by simpa using h0
    go_wp2_with fail
    refine (KEY.out _ _ (1 + v3) (by omega) (by omega) (by omega) (by omega) HO4.out).mono ?_
    rintro e w6 ⟨X, k, d, xs, rfl, hd, hi, hk, hkd, hdm, hnl⟩
    have HD := hide hd
    have HI := hide hi
    have HN := hide hnl
    clear hd hi hnl KEY HO4
    go_wp2
    refine bodyPost_ret (results_tmp3 Try.results11 _ _ _) rfl ?_
    exact ⟨_, _, _, _, _, _, _, _, _, rfl, HD.out, by omega, by omega, HI.out, hk, hkd, hdm, HN.out⟩

/-- what DrawStoreKeep knows at each step -/
structure KO (w0 w1 w : World) (R : Nat) (p : Int) (A : Option Addr) (n c : Nat) (qs : List Oq) (X : Option Addr) (k d : Nat) (xs : List Int) : Prop where
  ro : RO w0 w R p A n c qs
  own : Own w w1.heap.size X k d xs
  rlt : R < w1.heap.size
  rng : Rng (-1) 999 xs
  vlt : ∀ q ∈ qs, ∀ b, q.sl.ownBlock = some b → b < w1.heap.size
  alt : ∀ b, (Value.slice A n c).ownBlock = some b → b < w1.heap.size
  size : w1.heap.size ≤ w.heap.size
theorem KO.pick {w0 w1 w w' : World} {R n c k d : Nat} {p p' : Int} {A X : Option Addr} {qs : List Oq} {xs : List Int} (h : KO w0 w1 w R p A n c qs X k d xs) (hr : Rd w' R p') (hg : w.grownBy w' (some R)) : KO w0 w1 w' R p' A n c qs X k d xs :=
  { ro := h.ro.pick hr hg, own := h.own.kept hg (by intro q hq; injection hq with hq; subst hq; intro e; have := (h.own.block _ e).1; have := h.rlt; omega), rlt := h.rlt, rng := h.rng, vlt := h.vlt, alt := h.alt, size := Nat.le_trans h.size hg.size }
theorem KO.app {w0 w1 w w8 : World} {R n c k d d8 : Nat} {p x : Int} {A X X8 : Option Addr} {qs : List Oq} {xs : List Int} {o : Obj} (h : KO w0 w1 w R p A n c qs X k d xs) (h0 : -1 ≤ x) (h1 : x ≤ 999) (hs : w0.heap.size ≤ w1.heap.size)
    (ho : Own w8 w1.heap.size X8 (k + 1) d8 (xs ++ [x])) (hg : (w.alloc o).grownBy w8 (Value.slice X k d).ownBlock) : KO w0 w1 w8 R p A n c qs X8 (k + 1) d8 (xs ++ [x]) := by
  have hb := fun b e => (h.own.block b e).1
  have ha : RO w0 (w.alloc o) R p A n c qs := h.ro.below ((Below.refl _ _).alloc (Nat.le_refl _) o)
  exact { ro := { rd := ha.rd.grown hg (fun b e => by have := hb b e; have := h.rlt; omega), rlt := ha.rlt, num := ha.num, len := ha.len, grown := grown_own ha.grown hg (fun b e => by have := hb b e; omega)
                  row := ha.row.kept hg (fun g e => ⟨fun e2 => by have := hb g e; have := h.alt g e2; omega, fun q hq e2 => by have := hb g e; have := h.vlt q hq g e2; omega⟩) }
          own := ho, rlt := h.rlt, rng := h.rng.snoc h0 h1, vlt := h.vlt, alt := h.alt, size := Nat.le_trans h.size (Nat.le_trans (by simp) hg.size) }

set_option maxHeartbeats 3200000 in
theorem drawSK_any (A : Option Addr) (n c : Nat) (bs : Nat → Int) (w : World) (hb : Bytes w w.heap.size A n bs) (hn : n ≤ c) (hc : c ≤ maxLen) :
    Calls Try.prog 19 #[.slice A n c] w fun e w' => ∃ A2 m c2 qs X k d xs, e = .returned (.tuple #[.slice A2 m c2, .slice X k d]) ∧ StoDrawn w w' A2 m c2 qs ∧
      Ints w' w'.heap.size X k xs ∧ k ≤ 13 ∧ k ≤ d ∧ d ≤ maxLen ∧ Rng (-1) 999 xs := by
  go_enter Try.func19, Try.ntmps19
  go_wp2_with fail
  refine (open_any A n c bs _ hb hn hc).mono ?_
  rintro e w1 ⟨rfl, hr, hB⟩
  have HB1 := hide hB
  clear hB hb
  go_wp2_with fail
  refine (store91_any _ 0 _ hr (by omega)).mono ?_
  rintro e w2 ⟨A2, m, c2, qs, p2, rfl, hp0, hp1, ho⟩
  have HK0 : Hid (KO w1 w2 (w2.alloc (.cells #[] 3)) w.heap.size p2 A2 m c2 qs (some ⟨w2.heap.size, 0, none⟩) 0 0 []) :=
    { ro := ho.below ((Below.refl _ _).alloc (Nat.le_refl _) _), own := Own.lit0 w2 _ (Nat.le_refl _), rlt := ho.rd.lt, rng := by simp [Rng], vlt := fun q hq b e => ((ho.row.vals q hq).block b e).2, alt := fun b e => (ho.row.block b e).2, size := by simp }
  have hm12 := ho.num
  have hs12 := ho.grown.size
  clear ho hr
  go_wp2_with fail
  go_loopw [6, 7] (fun s i wr => ∃ (j k d : Nat) (X : Option Addr) (xs : List Int), j ≤ m ∧ k ≤ j ∧ i = .int .i64 j ∧ s = .slice X k d ∧ Hid (KO w1 w2 wr w.heap.size (p2 + j) A2 m c2 qs X k d xs)) (fun _ i _ => m - (intOf i).toNat)
  case atStart => exact ⟨0, 0, 0, _, [], Nat.zero_le _, Nat.le_refl _, rfl, rfl, by have h := HK0.out; rw [show p2 + ((0 : Nat) : Int) = p2 from by omega]; exact h⟩
  case round =>
    clear HK0
    obtain ⟨j, k, d, X, xs, hj, hkj, rfl, rfl, HK⟩ := hrel
    by_cases hlt : j < m
    · have j0 : (0 : Int) ≤ (j : Int) := by omega
      have j1 : (j : Int) < (m : Int) := by omega
      go_wp2_with fail
      refine (pick_any _ _ 2 _ HK.out.ro.rd (by omega) (by omega)).mono ?_
      rintro e w4 ⟨u, rfl, hu0, hu1, hr4, hg4⟩
      have HK4 := hide (HK.out.pick hr4 hg4)
      clear hr4 hg4 HK
      by_cases hu : u = 0
      · subst hu
        obtain ⟨q, hq⟩ : ∃ q, qs[j]? = some q := ⟨_, List.getElem?_eq_getElem (by rw [HK4.out.ro.row.len]; exact hlt)⟩
        have hql := HK4.out.ro.len q (List.mem_of_getElem? hq)
        obtain ⟨ad, p, rfl, hp, hbp, hc0, hc1⟩ := HK4.out.ro.row.objs.at_ hq
        have hnm : k + 1 ≤ 17592186044416 := by omega
        have hw2 : w2.heap.size ≤ w4.heap.size := HK4.out.size
        clear hq hc1
        go_wp2_with (at_builtin; refine wpList_append_ints rfl (.tmp 22) (.tmp 28) rfl w2.heap.size k d (w4.heap.size + 1) 1 1 X (some ⟨w4.heap.size, 0, none⟩) xs [q.id] rfl (HK4.out.own.alloc _) rfl (Ints.one w4 q.id) hnm (by simp; omega) ?_; intro A8 c8 w8 ho8 hg8 hat8; have HK8 := hide (HK4.out.app hql.2.1 hql.2.2 hs12 ho8 hg8); clear ho8 hg8 hat8)
        go_roundw
        case rel => exact ⟨j + 1, k + 1, _, _, _, by omega, by omega, by go_num, rfl, by have := HK8.out; rw [show p2 + ((j + 1 : Nat) : Int) = p2 + j + 1 from by omega]; exact this⟩
        case measure => simp [intOf]; omega
      · have hu' : (u == 0) = false := by simpa using hu
        go_wp2
        go_roundw
        case rel => exact ⟨j + 1, k, _, _, _, by omega, by omega, by go_num, rfl, by have := HK4.out; rw [show p2 + ((j + 1 : Nat) : Int) = p2 + j + 1 from by omega]; exact this⟩
        case measure => simp [intOf]; omega
    · obtain rfl : j = m := by omega
      go_wp2_with fail
      refine (pick_any _ _ 14 _ HK.out.ro.rd (by omega) (by omega)).mono ?_
      rintro e w4 ⟨u, rfl, hu0, hu1, hr4, hg4⟩
      have HK4 := hide (HK.out.pick hr4 hg4)
      have hnm : k + 1 ≤ 17592186044416 := by omega
      have hw2 : w2.heap.size ≤ w4.heap.size := HK4.out.size
      clear hr4 hg4 HK
      go_wp2_with (at_builtin; refine wpList_append_ints rfl (.tmp 31) (.tmp 34) rfl w2.heap.size k d (w4.heap.size + 1) 1 1 X (some ⟨w4.heap.size, 0, none⟩) xs [u] rfl (HK4.out.own.alloc _) rfl (Ints.one w4 u) hnm (by simp; omega) ?_; intro A8 c8 w8 ho8 hg8 hat8; have HK8 := hide (HK4.out.app (by omega) (by omega) hs12 ho8 hg8); clear ho8 hg8 hat8)
      go_ret2
      exact ⟨_, _, _, _, _, _, _, _, rfl, HK8.out.ro.drawn rfl HB1.out, HK8.out.own.ints, by omega, HK8.out.own.cap.1, HK8.out.own.cap.2, HK8.out.rng⟩

end Go.Proofs.Yteeeioiaogogmaa
