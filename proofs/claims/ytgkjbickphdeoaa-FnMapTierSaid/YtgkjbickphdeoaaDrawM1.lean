/-
  Drawn maps: l11New, l91Map.
-/
import Derived.Test.YtgkjbickphdeoaaDrawZ1
import Derived.Test.YtgkjbickphdeoaaSpecM6
namespace Go.Proofs.Ytgkjbickphdeoaa
open Go.RowKit
set_option linter.unusedVariables false
set_option maxRecDepth 100000

theorem made_sameM (z : Array Value) (v : Value) (hz : 0 < z.size) (h : ∀ i, i < z.size → z[i]! = v) (n : Nat) : (madeCells z n).toList = List.replicate n v := by
  apply List.ext_getElem
  · simp [madeCells]
  · intro i h1 h2
    simp only [madeCells, Array.toList_map, List.getElem_map, List.getElem_replicate]
    exact h _ (Nat.mod_lt _ hz)
def new12 : List Wh := List.replicate 12 wh0
theorem new12_valid : mpV new12 = true := by decide

set_option maxHeartbeats 1600000 in
theorem l11New_any (w : World) :
    Calls Try.prog 62 #[] w fun e w' => e = .returned (.slice (some ⟨w.heap.size, 0, none⟩) 12 12) ∧ MpR w' w.heap.size (some ⟨w.heap.size, 0, none⟩) 12 12 new12 ∧ Below w.heap.size w w' := by
  obtain ⟨i0, hi, hz0, hz1, hz2⟩ := info_parts whT.info
  go_enter Try.func62, Try.ntmps62
  go_wp2_with (at_make; refine wpList_make_full _ rfl _ _ 23 rfl w.heap.size 38 i0 (Value.agg #[.int .i64 0, .int .i64 0, .int .i64 0, .int .i64 0, .int .i64 0]) 5 Try.underlying23 hi hz0 hz1 .i64 .i64 _ _ 12 rfl rfl rfl rfl (by rw [hz2]; omega) (by unfold maxLen; omega) (Nat.le_refl _) ?_; intro w1 hown hgrow)
  have ho : OwnR w1 w.heap.size 38 5 (some ⟨w.heap.size, 0, none⟩) 12 12 (fl5 new12) := by
    refine ⟨by simp [fl5_length, new12], ?_⟩
    have e : (madeCells (Value.agg #[.int .i64 0, .int .i64 0, .int .i64 0, .int .i64 0, .int .i64 0]).cells (12 * 5)).toList = (fl5 new12).map (Value.int .i64) := by
      rw [made_sameM _ (.int .i64 0) (by decide) (fun i hi => by have h2 : i < 5 := hi; rcases i with _ | _ | _ | _ | _ | i <;> first | rfl | omega) _]
      rfl
    rw [← e]
    exact hown
  have hB1 : Below w.heap.size w w1 := below_of_grown hgrow
  clear hown hgrow hi hz0 hz1 hz2
  go_ret
  exact ⟨rfl, ⟨rfl, ho⟩, hB1⟩

/-- what l91Map knows at each step -/
structure KM (w0 w : World) (R : Nat) (p : Int) (A : Option Addr) (n c : Nat) (ms : List Wh) : Prop where
  rd : Rd w R p
  rlt : R < w0.heap.size
  own : MpR w w0.heap.size A n c ms
  num : n ≤ 12
  grown : w0.grownBy w (some R)
section
variable {w0 w w' : World} {R n c g K : Nat} {p p' : Int} {A : Option Addr} {ms : List Wh}
theorem KM.pick (h : KM w0 w R p A n c ms) (hr : Rd w' R p') (hg : w.grownBy w' (some R)) : KM w0 w' R p' A n c ms :=
  { rd := hr, rlt := h.rlt, num := h.num, grown := grown_trans' h.grown hg, own := h.own.kept hg (by intro q hq; injection hq with hq; subst hq; intro e; have := (h.own.2.block _ e).1; have := h.rlt; omega) }
theorem KM.below (h : KM w0 w R p A n c ms) (hb : Below w.heap.size w w') : KM w0 w' R p A n c ms :=
  { rd := h.rd.below hb, rlt := h.rlt, num := h.num, grown := grown_own h.grown (grown_of_below hb none) (by simp), own := h.own.below hb }
theorem KM.put (h : KM w0 w R p (some ⟨g, 0, none⟩) n c ms) {ms' : List Wh} (hp : MpR w' w0.heap.size (some ⟨g, 0, none⟩) n c ms') (hg : w.grownBy w' (some g)) : KM w0 w' R p (some ⟨g, 0, none⟩) n c ms' := by
  have hg0 := (h.own.2.block g rfl).1
  exact { rd := h.rd.grown hg (fun b hb => by injection hb with hb; have := h.rlt; omega), rlt := h.rlt, own := hp, num := h.num, grown := grown_own h.grown hg (fun b hb => by injection hb with hb; omega) }
theorem OwnR.firsts {base s n c m : Nat} {t : TypeId} {A : Option Addr} {xs : List Int} (h : OwnR w base t s A n c xs) (hm : m ≤ n) : OwnR w base t s A m c (xs.take (m * s)) := by
  have hms : m * s ≤ n * s := Nat.mul_le_mul_right s hm
  refine ⟨by rw [List.length_take, h.1]; omega, by rw [List.length_map, List.length_take, h.1]; omega, ?_⟩
  rcases h.2.2 with ⟨hv, h0⟩ | ⟨g, cap, cur, hv, hb, hh, hc, hmx, hs, ht⟩
  · injection hv with e1 e2 e3
    subst e1 e2 e3
    exact .inl ⟨by rw [show m = 0 by omega], by omega⟩
  · injection hv with e1 e2 e3
    subst e1 e3
    refine .inr ⟨g, c, cur, rfl, hb, hh, by omega, hmx, hs, ?_⟩
    have : (cur.toList.take (n * s)).take (m * s) = (xs.map (Value.int .i64)).take (m * s) := by rw [ht]
    rw [List.take_take] at this
    rw [show min (m * s) (n * s) = m * s by omega] at this
    rw [this, List.map_take]
theorem KM.firsts (h : KM w0 w R p A n c ms) {m : Nat} (hm : m ≤ n) : KM w0 w R p A m c (ms.take m) :=
  { rd := h.rd, rlt := h.rlt, num := Nat.le_trans hm h.num, grown := h.grown, own := ⟨by rw [List.length_take, h.own.1]; omega, by rw [fl5_take]; exact h.own.2.firsts hm⟩ }
end

/-- what is handed back -/
def DrawnM (w0 : World) (R : Nat) (p : Int) (e : Ending) (w' : World) : Prop :=
  ∃ (A : Option Addr) (n c : Nat) (ms : List Wh) (p' : Int), e = .returned (.slice A n c) ∧ p ≤ p' ∧ p' ≤ p + 600 ∧ KM w0 w' R p' A n c ms

set_option maxHeartbeats 6400000 in
theorem map91_any (R : Nat) (p : Int) (w : World) (hr : Rd w R p) (hp : p < 10000) :
    Calls Try.prog 36 #[.pointer (some ⟨R, 0, none⟩)] w (DrawnM w R p) := by
  have hR := hr.lt
  have HR := hide hr
  clear hr
  go_enter Try.func36, Try.ntmps36
  go_wp2_with fail
  refine (l11New_any w).mono ?_
  rintro e w1 ⟨rfl, ho1, hb1⟩
  have HK1 : Hid (KM w w1 R p (some ⟨w.heap.size, 0, none⟩) 12 12 new12) := { rd := HR.out.below hb1, rlt := hR, own := ho1, num := by omega, grown := grown_of_below hb1 _ }
  clear ho1 hb1 HR
  go_wp2_with fail
  refine (pick_any R _ 6 _ HK1.out.rd (by omega) (by omega)).mono ?_
  rintro e w2 ⟨v2, rfl, hv20, hv21, hr2, hg2⟩
  have HK2 := hide (HK1.out.pick hr2 hg2)
  obtain ⟨N, rfl⟩ := Int.eq_ofNat_of_zero_le hv20
  clear hr2 hg2 HK1
  go_wp2
  go_loopw [3, 5] (fun m i wr => ∃ (k c : Nat) (X : Option Addr) (ms : List Wh) (q : Int), k ≤ N ∧ i = .int .i64 k ∧ m = .slice X 12 c ∧ p + 1 ≤ q ∧ q ≤ p + 1 + 103 * (k : Int) ∧ Hid (KM w wr R q X 12 c ms) ∧ Hid (mpV ms = true)) (fun _ i _ => N - (intOf i).toNat)
  case atStart => exact ⟨0, 12, _, new12, p + 1, Nat.zero_le _, rfl, rfl, by omega, by omega, HK2.out, new12_valid⟩
  case round =>
    clear HK2
    obtain ⟨k, c, X, ms, q, hk, rfl, rfl, hq0, hq1, HK, HV⟩ := hrel
    by_cases hlt : k < N
    · have k1 : (k : Int) < (N : Int) := by omega
      go_wp2_with fail
      refine (body91_any R q _ HK.out.rd (by omega)).mono ?_
      rintro e w3 ⟨kd, F, fn, fc, xs, p3, rfl, ho3, hfn, hp30, hp31, hr3, hg3⟩
      have HK3 := hide (HK.out.pick hr3 hg3)
      have HO3 := hide ho3
      have HRW := hide HK.out.rd.lt
      clear ho3 hr3 hg3
      go_wp2_with fail
      refine (pick_any R _ 4 _ HK3.out.rd (by omega) (by omega)).mono ?_
      rintro e w4 ⟨z, rfl, hz0, hz1, hr4, hg4⟩
      have HK4 := hide (HK3.out.pick hr4 hg4)
      have HO4 := hide (HO3.out.kept hg4 (by intro q hq; injection hq with hq; subst hq; intro e; have := (HO3.out.block _ e).1; have := HRW.out; omega))
      clear hr4 hg4 HK3 HO3
      go_wp2_with fail
      refine (pick_any R _ 40 _ HK4.out.rd (by omega) (by omega)).mono ?_
      rintro e w5 ⟨a, rfl, ha0, ha1, hr5, hg5⟩
      have HK5 := hide (HK4.out.pick hr5 hg5)
      have HO5 := hide (HO4.out.kept hg5 (by intro q hq; injection hq with hq; subst hq; intro e; have := (HO4.out.block _ e).1; have := HRW.out; omega))
      clear hr5 hg5 HK4 HO4 HK
      go_wp2_with fail
      refine (specMA X F 12 c fn fc _ _ ms kd 1 z a xs w5 HK5.out.own.mpi HO5.out.ints (Nat.le_refl _) (Nat.le_refl _) (by omega) (by omega)).mono ?_
      rintro e w6 ⟨A6, m6, c6, rfl, ho6, hb6⟩
      have HK6 := hide (HK5.out.below hb6)
      have HO6 := hide (ho6.mono HK5.out.grown.size)
      clear ho6 hb6 HO5
      rcases hok : apOk ms kd 1 xs z a with _ | _
      · clear hok HO6
        go_wp2
        go_roundw
        case rel => exact ⟨k + 1, c, X, ms, p3 + 1 + 1, by omega, by go_num, rfl, by omega, by omega, HK6.out, HV.out⟩
        case measure => simp [intOf]; omega
      · have HV6 := hide (apM_valid hok)
        have hm6 : m6 = 12 := HO6.out.1.symm.trans (apM_len hok)
        subst hm6
        have HK7 : Hid (KM w w6 R (p3 + 1 + 1) A6 12 c6 (apM ms kd 1 xs z a)) := { rd := HK6.out.rd, rlt := hR, own := HO6.out, num := by omega, grown := HK6.out.grown }
        clear hok HO6 HK6 HV
        go_wp2
        go_roundw
        case rel => exact ⟨k + 1, c6, A6, _, p3 + 1 + 1, by omega, by go_num, rfl, by omega, by omega, HK7.out, HV6.out⟩
        case measure => simp [intOf]; omega
    · obtain rfl : k = N := by omega
      go_wp2_with fail
      refine (pick_any R _ 12 _ HK.out.rd (by omega) (by omega)).mono ?_
      rintro e w3 ⟨j, rfl, hj0, hj1, hr3, hg3⟩
      have HK3 := hide (HK.out.pick hr3 hg3)
      obtain ⟨J, rfl⟩ := Int.eq_ofNat_of_zero_le hj0
      clear hr3 hg3 HK
      go_wp2_with fail
      refine (pick_any R _ 24 _ HK3.out.rd (by omega) (by omega)).mono ?_
      rintro e w4 ⟨v, rfl, hv0, hv1, hr4, hg4⟩
      have HK4 := hide (HK3.out.pick hr4 hg4)
      clear hr4 hg4 HK3
      obtain ⟨g, rfl, hg0, hgl⟩ := HK4.out.own.2.shape (by omega)
      have hJ12 : J < 12 := by omega
      obtain ⟨x, hx⟩ : ∃ x, ms[J]? = some x := ⟨_, List.getElem?_eq_getElem (by rw [HK4.out.own.1]; exact hJ12)⟩
      have HX := hide hx
      have hcap := HK4.out.own.cap
      have hc12 := hcap.1
      clear hx
      by_cases h0 : v = 0
      · subst h0
        go_wp2_with fail
        refine (pick_any R _ 5 _ HK4.out.rd (by omega) (by omega)).mono ?_
        rintro e w5 ⟨u, rfl, hu0, hu1, hr5, hg5⟩
        have HK5 := hide (HK4.out.pick hr5 hg5)
        clear hr5 hg5 HK4
        have hcell := (HK5.out.own.at_ HX.out).1
        have hfree := HK5.out.own.free (j := J * 5)
        have hput := HK5.out.own.put0 HX.out (u - 1)
        have HK6 := hide (HK5.out.put hput.1 hput.2)
        clear hput HK5
        go_wp2
        go_ret
        exact ⟨_, _, _, _, _, rfl, by omega, by omega, HK6.out⟩
      have h0' : (v == 0) = false := by simpa using h0
      by_cases h1 : v = 1
      · subst h1
        clear h0 h0'
        go_wp2_with fail
        refine (pick_any R _ 6 _ HK4.out.rd (by omega) (by omega)).mono ?_
        rintro e w5 ⟨u, rfl, hu0, hu1, hr5, hg5⟩
        have HK5 := hide (HK4.out.pick hr5 hg5)
        clear hr5 hg5 HK4
        have hcell := (HK5.out.own.at_ HX.out).2.1
        have hfree := HK5.out.own.free (j := J * 5 + 1)
        have hput := HK5.out.own.put1 HX.out (u - 1)
        have HK6 := hide (HK5.out.put hput.1 hput.2)
        clear hput HK5
        go_wp2
        go_ret
        exact ⟨_, _, _, _, _, rfl, by omega, by omega, HK6.out⟩
      have h1' : (v == 1) = false := by simpa using h1
      by_cases h2 : v = 2
      · subst h2
        clear h0 h0' h1 h1'
        go_wp2_with fail
        refine (pick_any R _ 3 _ HK4.out.rd (by omega) (by omega)).mono ?_
        rintro e w5 ⟨u, rfl, hu0, hu1, hr5, hg5⟩
        have HK5 := hide (HK4.out.pick hr5 hg5)
        clear hr5 hg5 HK4
        have hcell := (HK5.out.own.at_ HX.out).2.2.2.1
        have hfree := HK5.out.own.free (j := J * 5 + 3)
        have hput := HK5.out.own.put3 HX.out u
        have HK6 := hide (HK5.out.put hput.1 hput.2)
        clear hput HK5
        go_wp2
        go_ret
        exact ⟨_, _, _, _, _, rfl, by omega, by omega, HK6.out⟩
      have h2' : (v == 2) = false := by simpa using h2
      by_cases h3 : v = 3
      · subst h3
        clear h0 h0' h1 h1' h2 h2'
        have HK6 := hide (HK4.out.firsts (m := J) (by omega))
        have J0 : (0 : Int) ≤ (J : Int) := by omega
        have J1 : (J : Int) ≤ (c : Int) := by omega
        clear HK4 hcap
        go_wp2
        go_ret
        exact ⟨_, _, _, _, _, rfl, by omega, by omega, HK6.out⟩
      · have h3' : (v == 3) = false := by simpa using h3
        clear hcap
        go_wp2
        go_ret
        exact ⟨_, _, _, _, _, rfl, by omega, by omega, HK4.out⟩
end Go.Proofs.Ytgkjbickphdeoaa
