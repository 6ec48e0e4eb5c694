/-
  Drawn stores: l91Store.
-/
import Derived.Test.YteeeioiaogogmaaDrawO1
import Derived.Test.YteeeioiaogogmaaRowO
import Derived.Test.YteeeioiaogogmaaSpecO3
namespace Go.Proofs.Yteeeioiaogogmaa
open Go.RowKit
set_option linter.unusedVariables false
set_option maxRecDepth 100000

structure DO (w0 w : World) (R : Nat) (p : Int) (A : Option Addr) (n c : Nat) (qs : List Oq) : Prop where
  rd : Rd w R p
  rlt : R < w0.heap.size
  own : OwnO w w0.heap.size A n c qs
  ok : stV (obs qs) = true
  grown : w0.grownBy w (some R)
theorem DO.pick {w0 w w' : World} {R n c : Nat} {p p' : Int} {A : Option Addr} {qs : List Oq} (h : DO w0 w R p A n c qs) (hr : Rd w' R p') (hg : w.grownBy w' (some R)) : DO w0 w' R p' A n c qs :=
  { rd := hr, rlt := h.rlt, ok := h.ok, grown := grown_trans' h.grown hg
    own := h.own.kept hg (by
      intro q hq
      injection hq with hq
      subst hq
      exact ⟨fun e => by have := (h.own.block _ e).1; have := h.rlt; omega, fun k r hk e => by have := (h.own.wblock hk _ e).1; have := h.rlt; omega⟩) }
theorem DO.below {w0 w w' : World} {R n c : Nat} {p : Int} {A : Option Addr} {qs : List Oq} (h : DO w0 w R p A n c qs) (hb : Below w.heap.size w w') : DO w0 w' R p A n c qs :=
  h.pick (h.rd.below hb) (grown_of_below hb _)
theorem DO.swap {w0 w w' : World} {R n c n2 c2 : Nat} {p : Int} {A A2 : Option Addr} {qs qs2 : List Oq} (h : DO w0 w R p A n c qs) (hb : Below w.heap.size w w') (ho : OwnO w' w.heap.size A2 n2 c2 qs2) (hok : stV (obs qs2) = true) : DO w0 w' R p A2 n2 c2 qs2 :=
  { rd := h.rd.below hb, rlt := h.rlt, ok := hok, grown := grown_trans' h.grown (grown_of_below hb _), own := ho.mono h.grown.size }
theorem put_ok {s : Sto} {id : Int} {vs : List Int} (h : putN s id vs ≠ 3) : stV (putS s id vs) = true := by
  rcases putN_cases s id vs with ⟨h1, h2, h3⟩ | ⟨h1, h0, h2, h3⟩ | ⟨h1, h0, h4, h2, h3⟩ | ⟨h1, h0, h4, h2, h3⟩
  · exact absurd h2 h
  · rw [h3]; exact (putOk_iff.1 h1).1
  · rw [h3]; exact (putOk_iff.1 h1).1
  · rw [h3]
    obtain ⟨a, b, c⟩ := putOk_iff.1 h1
    exact insS_valid a b c h0 h4

/-- what is handed back -/
structure RO (w0 w : World) (R : Nat) (p : Int) (A : Option Addr) (n c : Nat) (qs : List Oq) : Prop where
  rd : Rd w R p
  rlt : R < w0.heap.size
  row : RowO w w0.heap.size w0.heap.size A n c qs
  num : n ≤ 12
  len : ∀ q ∈ qs, q.vals.length ≤ 8 ∧ -1 ≤ q.id ∧ q.id ≤ 999
  grown : w0.grownBy w (some R)
def DrawnO (w0 : World) (R : Nat) (p : Int) (e : Ending) (w' : World) : Prop :=
  ∃ (A : Option Addr) (n c : Nat) (qs : List Oq) (p' : Int), e = .returned (.slice A n c) ∧ p ≤ p' ∧ p' ≤ p + 200 ∧ RO w0 w' R p' A n c qs
theorem RO.pick {w0 w w' : World} {R n c : Nat} {p p' : Int} {A : Option Addr} {qs : List Oq} (h : RO w0 w R p A n c qs) (hr : Rd w' R p') (hg : w.grownBy w' (some R)) : RO w0 w' R p' A n c qs :=
  { rd := hr, rlt := h.rlt, row := h.row.old hg h.rlt h.rlt, num := h.num, len := h.len, grown := grown_trans' h.grown hg }
theorem RO.below {w0 w w' : World} {R n c : Nat} {p : Int} {A : Option Addr} {qs : List Oq} (h : RO w0 w R p A n c qs) (hb : Below w.heap.size w w') : RO w0 w' R p A n c qs :=
  h.pick (h.rd.below hb) (grown_of_below hb _)
theorem DO.ro {w0 w : World} {R n c : Nat} {p : Int} {A : Option Addr} {qs : List Oq} (h : DO w0 w R p A n c qs) : RO w0 w R p A n c qs :=
  { rd := h.rd, rlt := h.rlt, row := h.own.rowO, grown := h.grown
    num := by have := (stV_len h.ok).1; have := h.own.len; omega
    len := fun q hq => by
      have h1 := (stV_len h.ok).2 q hq
      have h2 := obOk_iff.1 ((stV_iff.1 h.ok).1 q.ob (List.mem_map_of_mem hq))
      have h3 : 1 ≤ q.id := h2.1
      have h4 : q.id ≤ 999 := h2.2.1
      exact ⟨by omega, by omega, h4⟩ }
/-- one of them laid anew in part -/
theorem RO.put {w0 w : World} {R n c g k : Nat} {p : Int} {qs : List Oq} {q : Oq} (h : RO w0 w R p (some ⟨g, 0, none⟩) n c qs) (hk : qs[k]? = some q) (q' : Oq) (j : Nat) (v : Value) (hj : j < 2) (hv : q'.cells = q.cells.set j v)
    (hq' : Own w w0.heap.size q'.addr q'.vals.length q'.cap q'.vals) (hl : q'.vals.length ≤ 8) (h0 : -1 ≤ q'.id) (h1 : q'.id ≤ 999) : RO w0 (w.setCell ⟨g, k * 2 + j, none⟩ v) R p (some ⟨g, 0, none⟩) n c (qs.set k q') := by
  have hp := h.row.put hk q' j v hj hv hq'
  have hg := (h.row.block g rfl).1
  exact { rd := h.rd.grown hp.2 (fun b hb => by injection hb with hb; have := h.rlt; omega), rlt := h.rlt, row := hp.1, num := h.num, grown := grown_own h.grown hp.2 (fun b hb => by injection hb with hb; omega)
          len := fun r hr => by
            rcases List.mem_or_eq_of_mem_set hr with hr | rfl
            · exact h.len r hr
            · exact ⟨hl, h0, h1⟩ }

theorem RO.app {w0 w w8 : World} {R n c c8 : Nat} {p : Int} {A A8 : Option Addr} {qs : List Oq} (h : RO w0 w R p A n c qs) (hn : n ≤ 6) (ho : RowO w8 w0.heap.size w0.heap.size A8 (n + n) c8 (qs ++ qs)) (hg : w.grownBy w8 (Value.slice A n c).ownBlock) : RO w0 w8 R p A8 (n + n) c8 (qs ++ qs) :=
  { rd := h.rd.grown hg (fun b hb => by have := (h.row.block b hb).1; have := h.rlt; omega), rlt := h.rlt, row := ho, num := by omega, grown := grown_own h.grown hg (fun b hb => (h.row.block b hb).1)
    len := fun r hr => by
      rcases List.mem_append.1 hr with hr | hr
      · exact h.len r hr
      · exact h.len r hr }

set_option maxHeartbeats 6400000 in
theorem store91_any (R : Nat) (p : Int) (w : World) (hr : Rd w R p) (hp : p < 10000) :
    Calls Try.prog 27 #[.pointer (some ⟨R, 0, none⟩)] w (DrawnO w R p) := by
  have HD0 : Hid (DO w (w.alloc (.cells #[] 35)) R p (some ⟨w.heap.size, 0, none⟩) 0 0 []) :=
    { rd := hr.alloc _, rlt := hr.lt, own := OwnO.lit0 w _ (Nat.le_refl _), ok := rfl, grown := grown_alloc (grown_refl w _) _ }
  clear hr
  go_enter Try.func27, Try.ntmps27
  go_wp2_with fail
  refine (pick_any R _ 8 _ HD0.out.rd (by omega) (by omega)).mono ?_
  rintro e w1 ⟨v1, rfl, hv10, hv11, hr1, hg1⟩
  have HD1 := hide (HD0.out.pick hr1 hg1)
  obtain ⟨N, rfl⟩ := Int.eq_ofNat_of_zero_le hv10
  clear hr1 hg1 HD0
  go_wp2_with fail
  go_loopw [3, 5] (fun s i wr => ∃ (k n c : Nat) (Ao : Option Addr) (qs : List Oq) (px : Int), k ≤ N ∧ i = .int .i64 k ∧ s = .slice Ao n c ∧ p ≤ px ∧ px ≤ p + 1 + 16 * k ∧ Hid (DO w wr R px Ao n c qs)) (fun _ i _ => N - (intOf i).toNat)
  case atStart => exact ⟨0, 0, 0, _, [], p + 1, Nat.zero_le _, rfl, rfl, by omega, by omega, HD1.out⟩
  case round =>
    clear HD1
    obtain ⟨k, n, c, Ao, qs, px, hk, rfl, rfl, hp0, hp1, HD⟩ := hrel
    by_cases hlt : k < N
    · go_wp2_with fail
      refine (pick_any R _ 12 _ HD.out.rd (by omega) (by omega)).mono ?_
      rintro e w2 ⟨v2, rfl, hv20, hv21, hr2, hg2⟩
      have HD2 := hide (HD.out.pick hr2 hg2)
      clear hr2 hg2 HD
      go_wp2_with fail
      refine (values91_any R _ _ HD2.out.rd (by omega)).mono ?_
      rintro e w3 ⟨A3, m, d, xs, p3, rfl, hm, hp30, hp31, hkv⟩
      have HD3 := hide (HD2.out.pick hkv.rd hkv.grown)
      have HX3 := hide hkv.own.ints
      clear hkv HD2
      have hn6 : n ≤ 6 := by have := (stV_len HD3.out.ok).1; have := HD3.out.own.len; omega
      have HP := hide (specPutO Ao A3 n c _ _ m d (1 + v2) qs xs _ HD3.out.own.objs (Nat.le_refl _) (by omega) HD3.out.own.cap.1 HD3.out.own.cap.2 HX3.out (Nat.le_refl _) (by omega))
      have HOK := hide (fun h => put_ok (s := obs qs) (id := 1 + v2) (vs := xs) h)
      generalize putN (obs qs) (1 + v2) xs = N4 at HP HOK
      generalize putS (obs qs) (1 + v2) xs = S4 at HP HOK
      clear HX3
      go_wp2_with fail
      refine HP.out.mono ?_
      rintro e w4 ⟨A4, n4, c4, qs4, rfl, ho4, hz4, hb4⟩
      by_cases h3 : N4 = 3
      · subst h3
        have HD4 := hide (HD3.out.below hb4)
        clear ho4 hz4 hb4 HP HOK HD3
        go_wp2
        go_roundw
        case rel => exact ⟨k + 1, _, _, _, _, _, by omega, by go_num, rfl, by omega, by omega, HD4.out⟩
        case measure => simp [intOf]; omega
      · have h3' : (N4 == 3) = false := by simpa using h3
        have HD4 := hide (HD3.out.swap hb4 ho4 (by rw [hz4]; exact HOK.out h3))
        clear ho4 hz4 hb4 HP HOK HD3
        go_wp2
        go_roundw
        case rel => exact ⟨k + 1, _, _, _, _, _, by omega, by go_num, rfl, by omega, by omega, HD4.out⟩
        case measure => simp [intOf]; omega
    · obtain rfl : k = N := by omega
      have HE := hide HD.out.ro
      have hn6 : n ≤ 6 := by have := (stV_len HD.out.ok).1; have := HD.out.own.len; omega
      clear HD
      by_cases hn0 : n = 0
      · subst hn0
        have h00 : decide ((0 : Int) < 0) = false := by decide
        go_wp2
        go_ret
        exact ⟨_, _, _, _, _, rfl, by omega, by omega, HE.out⟩
      · have hnp : decide ((0 : Int) < (n : Int)) = true := by simp; omega
        have hnp' : 0 < n := by omega
        go_wp2_with fail
        refine (pick_any R _ 20 _ HE.out.rd (by omega) (by omega)).mono ?_
        rintro e w5 ⟨v5, rfl, hv50, hv51, hr5, hg5⟩
        have HE5 := hide (HE.out.pick hr5 hg5)
        clear hr5 hg5 HE
        by_cases h0 : v5 = 0
        · subst h0
          go_wp2_with fail
          refine (pick_any R _ n _ HE5.out.rd (by omega) (by omega)).mono ?_
          rintro e w6 ⟨j, rfl, hj0, hj1, hr6, hg6⟩
          have HE6 := hide (HE5.out.pick hr6 hg6)
          obtain ⟨J, rfl⟩ := Int.eq_ofNat_of_zero_le hj0
          clear hr6 hg6 HE5
          go_wp2_with fail
          refine (pick_any R _ 14 _ HE6.out.rd (by omega) (by omega)).mono ?_
          rintro e w7 ⟨v7, rfl, hv70, hv71, hr7, hg7⟩
          have HE7 := hide (HE6.out.pick hr7 hg7)
          clear hr7 hg7 HE6
          obtain ⟨g, rfl, hg0, hgl⟩ := HE7.out.row.shape hnp'
          obtain ⟨q, hq⟩ : ∃ q, qs[J]? = some q := ⟨_, List.getElem?_eq_getElem (by rw [HE7.out.row.len]; omega)⟩
          have hc0 := (HE7.out.row.at_ hq).1
          have hf := HE7.out.row.free (j := J * 2)
          have hqm := List.mem_of_getElem? hq
          have HE8 := hide (HE7.out.put hq ⟨v7 - 1, q.vals, q.addr, q.cap⟩ 0 (.int .i64 (v7 - 1)) (by omega) rfl (HE7.out.row.vals q hqm) (HE7.out.len q hqm).1 (by show -1 ≤ v7 - 1; omega) (by show v7 - 1 ≤ 999; omega))
          clear hq hqm
          go_wp2
          go_ret
          exact ⟨_, _, _, _, _, rfl, by omega, by omega, HE8.out⟩
        · have h0' : (v5 == 0) = false := by simpa using h0
          by_cases h1 : v5 = 1
          · subst h1
            go_wp2_with fail
            refine (pick_any R _ n _ HE5.out.rd (by omega) (by omega)).mono ?_
            rintro e w6 ⟨j, rfl, hj0, hj1, hr6, hg6⟩
            have HE6 := hide (HE5.out.pick hr6 hg6)
            obtain ⟨J, rfl⟩ := Int.eq_ofNat_of_zero_le hj0
            clear hr6 hg6 HE5
            go_wp2_with fail
            refine (values91_any R _ _ HE6.out.rd (by omega)).mono ?_
            rintro e w7 ⟨A7, m7, d7, xs, p7, rfl, hm7, hp70, hp71, hkv⟩
            have HE7 := hide (HE6.out.pick hkv.rd hkv.grown)
            obtain rfl : xs.length = m7 := hkv.own.1
            have HOX := hide (hkv.own.mono HE6.out.grown.size)
            clear hkv HE6
            obtain ⟨g, rfl, hg0, hgl⟩ := HE7.out.row.shape hnp'
            obtain ⟨q, hq⟩ : ∃ q, qs[J]? = some q := ⟨_, List.getElem?_eq_getElem (by rw [HE7.out.row.len]; omega)⟩
            have hc1 := (HE7.out.row.at_ hq).2
            have hf := HE7.out.row.free (j := J * 2 + 1)
            have hqm := List.mem_of_getElem? hq
            have HE8 := hide (HE7.out.put hq ⟨q.id, xs, A7, d7⟩ 1 (.slice A7 xs.length d7) (by omega) rfl HOX.out hm7 (HE7.out.len q hqm).2.1 (HE7.out.len q hqm).2.2)
            simp only [Oq.sl] at hc1
            clear hq hqm HOX
            go_wp2
            go_ret
            exact ⟨_, _, _, _, _, rfl, by omega, by omega, HE8.out⟩
          · have h1' : (v5 == 1) = false := by simpa using h1
            by_cases h2 : v5 = 2
            · subst h2
              have HSRC := hide (show 0 < n → ∃ ad, Ao = some ad ∧ ∀ j u, (flatO qs)[j]? = some u → w5.cell? (ad.add j) = some u from fun _ => by
                obtain ⟨g, rfl, _, _⟩ := HE5.out.row.shape hnp'
                exact ⟨_, rfl, fun j u hu => HE5.out.row.row.cells rfl j u hu⟩)
              have HV := hide HE5.out.row.vals
              have hw5 := HE5.out.grown.size
              go_wp2_with (at_builtin; refine wpList_append_row rfl (.tmp 59) (.tmp 60) rfl w.heap.size w.heap.size n c n c Ao Ao qs qs rfl rfl HE5.out.row HE5.out.row.len HSRC.out HV.out (by omega) hw5 ?_; intro A8 c8 w8 ho8 hg8; have HE8 := hide (HE5.out.app hn6 ho8 hg8); clear ho8 hg8)
              go_ret
              exact ⟨_, _, _, _, _, rfl, by omega, by omega, HE8.out⟩
            · have h2' : (v5 == 2) = false := by simpa using h2
              go_wp2
              go_ret
              exact ⟨_, _, _, _, _, rfl, by omega, by omega, HE5.out⟩
end Go.Proofs.Yteeeioiaogogmaa
