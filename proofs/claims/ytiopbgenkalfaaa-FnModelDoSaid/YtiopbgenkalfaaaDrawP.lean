/-
  Drawn values: l91Pairs, DrawPairsPut: a row of the call's own; the reader's own block alone has turned.
-/
import Derived.Test.YtiopbgenkalfaaaRec
import Derived.Test.YtiopbgenkalfaaaDrawA
import Derived.Deep.DeepCutAuto
import Derived.Deep.CutBlock
namespace Go.Proofs.Ytiopbgenkalfaaa
open Go.RowKit
set_option linter.unusedVariables false
set_option maxRecDepth 100000

/-- what is handed back -/
def DrawnP (w0 : World) (R : Nat) (p : Int) (e : Ending) (w' : World) : Prop :=
  ∃ A n c xs p', e = .returned (.slice A n c) ∧ OwnR w' w0.heap.size 42 2 A n c xs ∧ n ≤ 20 ∧ Rng (-1) 10000 xs ∧ p ≤ p' ∧ p' ≤ p + 100 ∧ Rd w' R p' ∧ w0.grownBy w' (some R)

/-- what l91Pairs knows at each step -/
structure DP (w0 w : World) (R : Nat) (p : Int) (A : Option Addr) (n c : Nat) (xs : List Int) : Prop where
  rd : Rd w R p
  rlt : R < w0.heap.size
  own : OwnR w w0.heap.size 42 2 A n c xs
  rng : Rng (-1) 10000 xs
  grown : w0.grownBy w (some R)
theorem DP.pick {w0 w w' : World} {R n c : Nat} {p p' : Int} {A : Option Addr} {xs : List Int} (h : DP w0 w R p A n c xs) (hr : Rd w' R p') (hg : w.grownBy w' (some R)) : DP w0 w' R p' A n c xs :=
  { rd := hr, rlt := h.rlt, own := h.own.kept hg (by intro q hq e; injection hq with hq; have := (h.own.block _ e).1; have := h.rlt; omega), rng := h.rng, grown := grown_trans' h.grown hg }
theorem DP.alloc {w0 w : World} {R n c : Nat} {p : Int} {A : Option Addr} {xs : List Int} (h : DP w0 w R p A n c xs) (o : Obj) : DP w0 (w.alloc o) R p A n c xs :=
  { rd := h.rd.alloc o, rlt := h.rlt, own := h.own.alloc o, rng := h.rng, grown := grown_alloc h.grown o }
theorem DP.drewN {w0 w : World} {R n c : Nat} {p : Int} {A : Option Addr} {xs : List Int} (h : DP w0 w R p A n c xs) (k : Nat) : DP w0 (w.drewN k) R p A n c xs :=
  { rd := h.rd.drewN k, rlt := h.rlt, own := h.own.drewN k, rng := h.rng, grown := grown_drewN h.grown k }
theorem DP.row {w0 w w' : World} {R n c m d : Nat} {p : Int} {A A' : Option Addr} {xs ys : List Int} (h : DP w0 w R p A n c xs) (ho : OwnR w' w0.heap.size 42 2 A' m d ys) (hr : Rng (-1) 10000 ys) {row : Option Nat} (hg : w.grownBy w' row)
    (hrow : ∀ g, row = some g → w0.heap.size ≤ g) : DP w0 w' R p A' m d ys :=
  { rd := h.rd.grown hg (fun g e => by have := hrow g e; have := h.rlt; omega), rlt := h.rlt, own := ho, rng := hr, grown := grown_own h.grown hg hrow }
theorem DP.app {w0 w w' : World} {R n c m d : Nat} {p : Int} {A A' : Option Addr} {xs ys : List Int} {o : Obj} (h : DP w0 w R p A n c xs) (ho : OwnR w' w0.heap.size 42 2 A' m d ys) (hr : Rng (-1) 10000 ys)
    (hg : (w.alloc o).grownBy w' (Value.slice A n c).ownBlock) : DP w0 w' R p A' m d ys :=
  (h.alloc o).row ho hr hg (fun g e => (h.own.block g e).1)
theorem DP.set_ {w0 w : World} {R g n c : Nat} {p : Int} {xs : List Int} (h : DP w0 w R p (some ⟨g, 0, none⟩) n c xs) (j : Nat) (x : Int) (h1 : -1 ≤ x) (h2 : x ≤ 10000) : DP w0 (w.setCell ⟨g, j, none⟩ (.int .i64 x)) R p (some ⟨g, 0, none⟩) n c (xs.set j x) := by
  have hst := h.own.stored (g := g) (j := j) x
  exact h.row hst.1 (h.rng.set j h1 h2) hst.2 (fun q e => by injection e with e; subst e; exact (h.own.block g rfl).1)
theorem DP.done {w0 w : World} {R n c : Nat} {p p0 : Int} {A : Option Addr} {xs : List Int} (h : DP w0 w R p A n c xs) (hn : n ≤ 20) (hp : p0 ≤ p ∧ p ≤ p0 + 100) : DrawnP w0 R p0 (.returned (.slice A n c)) w :=
  ⟨A, n, c, xs, p, rfl, h.own, hn, h.rng, hp.1, hp.2, h.rd, h.grown⟩
theorem OwnR.noneP {w : World} {base n c s : Nat} {t : TypeId} {A : Option Addr} {xs : List Int} (h : OwnR w base t s A n c xs) : OwnR w base t s A 0 c [] := by
  refine ⟨by simp, by simp, ?_⟩
  rcases h.2.2 with ⟨hv, h0⟩ | ⟨g, cap, cur, hv, hb, hh, hc, hmx, hs, ht⟩
  · injection hv with e1 e2 e3
    subst e1 e3
    exact .inl ⟨rfl, rfl⟩
  · injection hv with e1 e2 e3
    subst e1 e3
    exact .inr ⟨g, c, cur, rfl, hb, hh, Nat.zero_le _, hmx, hs, by simp⟩
theorem Rng.app_ {lo hi : Int} {xs ys : List Int} (h : Rng lo hi xs) (h' : Rng lo hi ys) : Rng lo hi (xs ++ ys) := fun x hx => (List.mem_append.1 hx).elim (h x) (h' x)

def fourP (v : Int) : Int := ([-1, 0, 99, 100] : List Int).getD v.toNat 0
theorem fourP_rng (v : Int) : -1 ≤ fourP v ∧ fourP v ≤ 100 := by
  unfold fourP
  rcases h : v.toNat with _ | _ | _ | _ | n <;> simp

set_option maxHeartbeats 6400000 in
theorem draw91P_any (R : Nat) (p : Int) (w : World) (hr : Rd w R p) (hp : p < 20000) :
    Calls Try.prog 38 #[.pointer (some ⟨R, 0, none⟩)] w (DrawnP w R p) := by
  have hRw := hr.lt
  have HD0 : Hid (DP w (w.alloc (.cells #[] 42)) R p (some ⟨w.heap.size, 0, none⟩) 0 0 []) :=
    { rd := hr.alloc _, rlt := hRw, own := OwnR.lit0 w _ (Nat.le_refl _) _ _, rng := by simp [Rng], grown := grown_alloc (grown_refl w _) _ }
  clear hr
  go_enter Try.func38, Try.ntmps38
  go_wp2_with fail
  refine (pick_any R _ 5 _ HD0.out.rd (by omega) (by omega)).mono ?_
  rintro e w1 ⟨v, rfl, hv0, hv1, hr1, hg1⟩
  have HD1 := hide (HD0.out.pick hr1 hg1)
  have hs1 := HD1.out.grown.size
  clear hr1 hg1
  go_upto_if 13 with (go_at_call 37; refine (pick_any R _ 12 _ HD1.out.rd (by omega) (by omega)).mono ?_; rintro e w2 ⟨u, rfl, hu0, hu1, hr2, hg2⟩; have HD2 := hide (HD1.out.pick hr2 hg2); have hs2 := HD2.out.grown.size; clear hr2 hg2)
  go_cut [4] from 14 (fun m wx => ∃ M : Int, m = .int .i64 M ∧ 1 ≤ M ∧ M ≤ 12 ∧ Hid (DP w wx R (p + 1 + 1) (some ⟨w.heap.size, 0, none⟩) 0 0 []))
  case first =>
    by_cases hu : u = 0
    · subst hu
      go_wp2
      go_meet
      exact ⟨12, rfl, by omega, by omega, HD2⟩
    · have hu' : (u == 0) = false := by simpa using hu
      go_wp2
      go_meet
      exact ⟨_, rfl, by omega, by omega, HD2⟩
  case rest =>
    obtain ⟨M, rfl, hM1, hM2, HD2⟩ := hcut
    go_upto_block 0 with fail
    go_cut [3] from 14 (fun v wx => ∃ (k c : Nat) (Ao : Option Addr) (xs : List Int) (p' : Int), v = .slice Ao k c ∧ k ≤ 12 ∧ p + 2 ≤ p' ∧ p' ≤ p + 30 ∧ Hid (DP w wx R p' Ao k c xs))
    case first =>
      go_wp2_with fail
      go_loopw [3, 5] (fun v i wr => ∃ (b k c : Nat) (Ao : Option Addr) (xs : List Int) (p' : Int), b ≤ 12 ∧ i = .int .i64 b ∧ v = .slice Ao k c ∧ k ≤ b ∧ p + 2 ≤ p' ∧ p' ≤ p + 2 + 2 * b ∧ Hid (DP w wr R p' Ao k c xs)) (fun _ i _ => 12 - (intOf i).toNat)
      case atStart => exact ⟨0, 0, 0, _, [], p + 1 + 1, by omega, rfl, rfl, by omega, by omega, by omega, HD2⟩
      case round =>
        clear HD2
        obtain ⟨b, k, c, Ao, xs, p', hb, rfl, rfl, hkb, hp1, hp2, HD⟩ := hrel
        have hsz := HD.out.grown.size
        by_cases hlb : b < 12
        · by_cases hlk : (k : Int) < M
          · go_wp2_with fail
            refine (pick_any R _ 3 _ HD.out.rd (by omega) (by omega)).mono ?_
            rintro e w3 ⟨u, rfl, hu0, hu1, hr3, hg3⟩
            have HD3 := hide (HD.out.pick hr3 hg3)
            have hs3 := HD3.out.grown.size
            clear hr3 hg3 HD
            by_cases hu : u = 0
            · subst hu
              go_wp2_with fail
              refine (pick_any R _ 100 _ HD3.out.rd (by omega) (by omega)).mono ?_
              rintro e w4 ⟨x, rfl, hx0, hx1, hr4, hg4⟩
              have HD4 := hide (HD3.out.pick hr4 hg4)
              have hs4 := HD4.out.grown.size
              clear hr4 hg4
              go_wp2_with (at_builtin; refine wpList_append_recs pairT rfl _ _ rfl w.heap.size k c (w4.heap.size + 1) 1 1 _ _ xs [(b : Int), x] rfl (HD4.out.own.alloc _) rfl (Ints.rec2 w4 42 b x) (by omega) (by simp; omega) ?_; intro A5 c5 w5 ho5 hg5 hat5; clear hat5)
              have HD5 := hide (HD4.out.app ho5 (HD4.out.rng.app_ (by intro y hy; simp at hy; omega)) hg5)
              clear ho5 hg5
              go_roundw
              case rel => exact ⟨b + 1, k + 1, c5, A5, _, p' + 1 + 1, by omega, by go_num, rfl, by omega, by omega, by omega, HD5⟩
              case measure => simp [intOf]; omega
            · have hu' : (u == 0) = false := by simpa using hu
              by_cases hM : M = 12
              · have hM' : (M == 12) = true := by simpa using hM
                clear hM
                go_wp2_with fail
                refine (pick_any R _ 100 _ HD3.out.rd (by omega) (by omega)).mono ?_
                rintro e w4 ⟨x, rfl, hx0, hx1, hr4, hg4⟩
                have HD4 := hide (HD3.out.pick hr4 hg4)
                have hs4 := HD4.out.grown.size
                clear hr4 hg4
                go_wp2_with (at_builtin; refine wpList_append_recs pairT rfl _ _ rfl w.heap.size k c (w4.heap.size + 1) 1 1 _ _ xs [(b : Int), x] rfl (HD4.out.own.alloc _) rfl (Ints.rec2 w4 42 b x) (by omega) (by simp; omega) ?_; intro A5 c5 w5 ho5 hg5 hat5; clear hat5)
                have HD5 := hide (HD4.out.app ho5 (HD4.out.rng.app_ (by intro y hy; simp at hy; omega)) hg5)
                clear ho5 hg5
                go_roundw
                case rel => exact ⟨b + 1, k + 1, c5, A5, _, p' + 1 + 1, by omega, by go_num, rfl, by omega, by omega, by omega, HD5⟩
                case measure => simp [intOf]; omega
              · have hM' : (M == 12) = false := by simpa using hM
                go_wp2
                go_roundw
                case rel => exact ⟨b + 1, k, c, Ao, xs, p' + 1, by omega, by go_num, rfl, by omega, by omega, by omega, HD3⟩
                case measure => simp [intOf]; omega
          · go_wp2
            go_meet
            exact ⟨k, c, Ao, xs, p', rfl, by omega, by omega, by omega, HD⟩
        · go_wp2
          go_meet
          exact ⟨k, c, Ao, xs, p', rfl, by omega, by omega, by omega, HD⟩
    case rest =>
      clear HD2
      obtain ⟨k, c, Ao, xs, p', rfl, hk, hp1, hp2, HD⟩ := hcut
      go_upto_if 40 with fail
      have hsz := HD.out.grown.size
      go_cut [3] from 41 (fun v wx => ∃ (k c : Nat) (Ao : Option Addr) (xs : List Int) (p' : Int), v = .slice Ao k c ∧ 1 ≤ k ∧ k ≤ 12 ∧ p + 2 ≤ p' ∧ p' ≤ p + 32 ∧ Hid (DP w wx R p' Ao k c xs))
      case first =>
        by_cases hk0 : k = 0
        · subst hk0
          go_wp2_with fail
          refine (pick_any R _ 12 _ HD.out.rd (by omega) (by omega)).mono ?_
          rintro e w3 ⟨b, rfl, hb0, hb1, hr3, hg3⟩
          have HD3 := hide (HD.out.pick hr3 hg3)
          have hs3 := HD3.out.grown.size
          clear hr3 hg3
          go_wp2_with fail
          refine (pick_any R _ 99 _ HD3.out.rd (by omega) (by omega)).mono ?_
          rintro e w4 ⟨x, rfl, hx0, hx1, hr4, hg4⟩
          have HD4 := hide (HD3.out.pick hr4 hg4)
          have hs4 := HD4.out.grown.size
          clear hr4 hg4
          go_wp2_with (at_builtin; refine wpList_append_recs pairT rfl _ _ rfl w.heap.size 0 c (w4.heap.size + 1) 1 1 _ _ xs [b, 1 + x] rfl (HD4.out.own.alloc _) rfl (Ints.rec2 w4 42 b (1 + x)) (by omega) (by simp; omega) ?_; intro A5 c5 w5 ho5 hg5 hat5; clear hat5; simp only [Nat.zero_add] at ho5 ⊢)
          have HD5 := hide (HD4.out.app ho5 (HD4.out.rng.app_ (by intro y hy; simp at hy; omega)) hg5)
          clear ho5 hg5
          go_meet
          exact ⟨1, c5, A5, _, p' + 1 + 1, rfl, by omega, by omega, by omega, by omega, HD5⟩
        · have hk0' : ((k : Int) == 0) = false := by simp; omega
          go_wp2
          go_meet
          exact ⟨k, c, Ao, xs, p', rfl, by omega, by omega, by omega, by omega, HD⟩
      case rest =>
        clear HD hsz
        obtain ⟨k, c, Ao, xs, p', rfl, hk1, hk2, hp1, hp2, HD⟩ := hcut
        have hsz := HD.out.grown.size
        go_wp2_with fail
        refine (pick_any R _ k _ HD.out.rd (by omega) (by omega)).mono ?_
        rintro e w3 ⟨j, rfl, hj0, hj1, hr3, hg3⟩
        have HD3 := hide (HD.out.pick hr3 hg3)
        have hs3 := HD3.out.grown.size
        clear hr3 hg3
        go_wp2_with fail
        refine (pick_any R _ 24 _ HD3.out.rd (by omega) (by omega)).mono ?_
        rintro e w4 ⟨u, rfl, hu0, hu1, hr4, hg4⟩
        have HD4 := hide (HD3.out.pick hr4 hg4)
        have hs4 := HD4.out.grown.size
        clear hr4 hg4
        obtain ⟨J, rfl⟩ := Int.eq_ofNat_of_zero_le hj0
        obtain ⟨g, rfl, hgb, hgl⟩ := HD4.out.own.shape (by omega)
        have hc0 := HD4.out.own.cell (g := g) (j := J * 2) (by omega)
        have hc1 := HD4.out.own.cell (g := g) (j := J * 2 + 1) (by omega)
        have hf0 := HD4.out.own.free (g := g) (j := J * 2)
        have hf1 := HD4.out.own.free (g := g) (j := J * 2 + 1)
        have hi0 := HD4.out.rng.getD (j := J * 2) (by rw [HD4.out.own.1]; omega)
        have hi1 := HD4.out.rng.getD (j := J * 2 + 1) (by rw [HD4.out.own.1]; omega)
        generalize xs.getD (J * 2) 0 = y0 at hc0 hi0
        generalize xs.getD (J * 2 + 1) 0 = y1 at hc1 hi1
        have HI := hide (And.intro hi0 hi1)
        clear hi0 hi1
        by_cases h0 : u = 0
        · subst h0
          clear hc0 hc1 hf0 hf1
          go_wp2_with fail
          refine (pick_any R _ 14 _ HD4.out.rd (by omega) (by omega)).mono ?_
          rintro e w5 ⟨x, rfl, hx0, hx1, hr5, hg5⟩
          have HD5 := hide (HD4.out.pick hr5 hg5)
          have hs5 := HD5.out.grown.size
          clear hr5 hg5
          have hc0 := HD5.out.own.cell (g := g) (j := J * 2) (by omega)
          have hf0 := HD5.out.own.free (g := g) (j := J * 2)
          have HD6 := hide (HD5.out.set_ (J * 2) (x - 1) (by omega) (by omega))
          generalize xs.getD (J * 2) 0 = y0 at hc0
          go_wp2
          go_ret
          exact HD6.out.done (by omega) (by omega)
        · have h0' : (u == 0) = false := by simpa using h0
          by_cases h1 : u = 1
          · subst h1
            clear hc0 hc1 hf0 hf1
            go_wp2_with fail
            refine (pick_any R _ 4 _ (HD4.out.alloc (.cells #[.int .i64 (-1), .int .i64 0, .int .i64 99, .int .i64 100] 3)).rd (by omega) (by omega)).mono ?_
            rintro e w5 ⟨x, rfl, hx0, hx1, hr5, hg5⟩
            have hc : w5.cell? ⟨w4.heap.size, x.toNat, none⟩ = some (.int .i64 (fourP x)) := by
              rw [grown_cell hg5 (by simp) (by have := HD4.out.rd.lt; simp; omega), (Blk.new w4 3 _).cell]
              have : x = 0 ∨ x = 1 ∨ x = 2 ∨ x = 3 := by omega
              rcases this with rfl | rfl | rfl | rfl <;> rfl
            have hf := fourP_rng x
            have HD5 := hide ((HD4.out.alloc (.cells #[.int .i64 (-1), .int .i64 0, .int .i64 99, .int .i64 100] 3)).pick hr5 hg5)
            clear hr5 hg5
            generalize fourP x = y at hc hf
            have hc1 := HD5.out.own.cell (g := g) (j := J * 2 + 1) (by omega)
            have hf1 := HD5.out.own.free (g := g) (j := J * 2 + 1)
            have HD6 := hide (HD5.out.set_ (J * 2 + 1) y (by omega) (by omega))
            generalize xs.getD (J * 2 + 1) 0 = y1 at hc1
            go_wp2
            go_ret
            exact HD6.out.done (by omega) (by omega)
          · have h1' : (u == 1) = false := by simpa using h1
            by_cases h2 : u = 2
            · subst h2
              have HD5 : Hid (DP w w4 R (p' + 1 + 1) (some ⟨g, 0, none⟩) 0 c []) := { HD4.out with own := HD4.out.own.noneP, rng := by simp [Rng] }
              go_wp2
              go_ret
              exact HD5.out.done (by omega) (by omega)
            · have h2' : (u == 2) = false := by simpa using h2
              by_cases h3 : u = 3
              · subst h3
                have HIR := hide (Ints.rec2 w4 42 y0 y1)
                go_wp2_with (at_builtin; refine wpList_append_recs pairT rfl _ _ rfl w.heap.size k c (w4.heap.size + 1) 1 1 _ _ xs [y0, y1] rfl (HD4.out.own.alloc _) rfl HIR.out (by omega) (by simp; omega) ?_; intro A5 c5 w5 ho5 hg5 hat5; clear hat5)
                have HD5 := hide (HD4.out.app ho5 (HD4.out.rng.app_ (by intro y hy; have := HI.out; simp at hy; omega)) hg5)
                clear ho5 hg5
                go_ret
                exact HD5.out.done (by omega) (by omega)
              · have h3' : (u == 3) = false := by simpa using h3
                go_wp2
                go_ret
                exact HD4.out.done (by omega) (by omega)


end Go.Proofs.Ytiopbgenkalfaaa
