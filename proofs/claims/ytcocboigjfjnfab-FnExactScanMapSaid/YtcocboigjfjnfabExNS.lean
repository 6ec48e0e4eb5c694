/-
  The walk of FnExactScanMap.
-/
import Derived.Test.YtcocboigjfjnfabExIN
import Derived.Test.YtcocboigjfjnfabExHM
import Derived.Test.YtcocboigjfjnfabImpN4
import Derived.Test.YtcocboigjfjnfabSpecN4
namespace Go.Proofs.Ytcocboigjfjnfab
open Go.RowKit
set_option linter.unusedVariables false
set_option maxRecDepth 100000

theorem row_sameS {w w' : World} {base s n : Nat} {t : TypeId} {v : Value} {xs : List Value} (h : w.ownsRow base t s v n xs) (hs : ∀ b, v.ownBlock = some b → w'.heap[b]? = w.heap[b]?) : w'.ownsRow base t s v n xs :=
  ⟨h.1, by
    rcases h.2 with h0 | ⟨g, cap, cur, hv, hb, hh, r⟩
    · exact .inl h0
    · exact .inr ⟨g, cap, cur, hv, hb, (hs g (by rw [hv]; rfl)).trans hh, r⟩⟩
/-- K elements, as numbers, and whether it was done -/
def SnPost (w : World) (v : Bool) (K : Nat) (ws : List Int) (e : Ending) (w' : World) : Prop :=
  ∃ A2 c2, e = .returned (.tuple #[.slice A2 K c2, .bool v]) ∧ OwnR w' w.heap.size 55 5 A2 K c2 ws ∧ Below w.heap.size w w'
theorem SnPost.of {w : World} {r : Option (List Wh)} {e : Ending} {w' : World} (h : SmPost w r e w') : SnPost w r.isSome (r.getD []).length (fl5 (r.getD [])) e w' := by
  obtain ⟨A2, n2, c2, rfl, ⟨hl, ho⟩, hb⟩ := h
  subst hl
  exact ⟨A2, c2, rfl, ho, hb⟩
theorem smap_few (fs : List Fn) : ((smap fs).getD []).length ≤ 12 := by
  rcases h : smap fs with _ | ms
  · exact Nat.zero_le _
  · exact Nat.le_of_eq (smap_len h)

structure ZS (w W : World) (B1 B4 B5 : Nat) (A : Option Addr) (n : Nat) (qs : List Fq) (A1 : Option Addr) (K : Nat) (ws : List Int) (A4 : Option Addr) (c4 : Nat) (ys : List Fq) (A5 : Option Addr) (c5 : Nat) (gs : List Int) : Prop where
  i : Fnds W w.heap.size A n qs
  w1 : Ints W B1 A1 (K * 5) ws
  o4 : OwnF W B4 A4 n c4 ys
  l4 : LimF A4 n c4 ys B5
  g5 : OwnR W B5 55 5 A5 K c5 gs
  b : Below w.heap.size w W
  le0 : w.heap.size ≤ B1
  le1 : B1 ≤ B4
  le2 : B4 ≤ B5
  le3 : B5 ≤ W.heap.size
structure YS (w W : World) (B1 B5 : Nat) (A : Option Addr) (n : Nat) (qs : List Fq) (A1 : Option Addr) (K : Nat) (ws : List Int) (A5 : Option Addr) (c5 : Nat) (gs : List Int) : Prop where
  i : Fnds W w.heap.size A n qs
  w1 : Ints W B1 A1 (K * 5) ws
  g5 : OwnR W B5 55 5 A5 K c5 gs
  b : Below w.heap.size w W
  le0 : w.heap.size ≤ B1
  le2 : B1 ≤ B5
  le3 : B5 ≤ W.heap.size
section
variable {w W W' : World} {B1 B4 B5 n K c4 c5 : Nat} {A A1 A4 A5 : Option Addr} {qs ys : List Fq} {ws gs : List Int}
theorem ZS.below (h : ZS w W B1 B4 B5 A n qs A1 K ws A4 c4 ys A5 c5 gs) (hb : Below W.heap.size W W') : ZS w W' B1 B4 B5 A n qs A1 K ws A4 c4 ys A5 c5 gs :=
  { i := h.i.below hb h.b.size, w1 := h.w1.below hb (by have := h.le1; have := h.le2; have := h.le3; omega), o4 := h.o4.below hb, l4 := h.l4, g5 := h.g5.below hb, b := h.b.trans (hb.mono h.b.size)
    le0 := h.le0, le1 := h.le1, le2 := h.le2, le3 := Nat.le_trans h.le3 hb.size }
theorem ZS.mark4 (h : ZS w W B1 B4 B5 A n qs A1 K ws A4 c4 ys A5 c5 gs) (hc : Chg B4 B5 W W') : YS w W' B1 B5 A n qs A1 K ws A5 c5 gs :=
  { i := h.i.below hc.below (by have := h.le0; have := h.le1; omega), w1 := h.w1.below hc.below h.le1
    g5 := ⟨h.g5.1, row_sameS h.g5.2 fun b e => hc.above b (h.g5.block b e).1 (h.g5.block b e).2⟩
    b := h.b.trans (hc.below.mono (by have := h.le0; have := h.le1; omega))
    le0 := h.le0, le2 := Nat.le_trans h.le1 h.le2, le3 := Nat.le_trans h.le3 hc.below.size }
theorem YS.below (h : YS w W B1 B5 A n qs A1 K ws A5 c5 gs) (hb : Below W.heap.size W W') : YS w W' B1 B5 A n qs A1 K ws A5 c5 gs :=
  { i := h.i.below hb h.b.size, w1 := h.w1.below hb (by have := h.le2; have := h.le3; omega), g5 := h.g5.below hb, b := h.b.trans (hb.mono h.b.size)
    le0 := h.le0, le2 := h.le2, le3 := Nat.le_trans h.le3 hb.size }
theorem YS.mark5 {gs' : List Int} (h : YS w W B1 B5 A n qs A1 K ws A5 c5 gs) (ho : OwnR W' B5 55 5 A5 K c5 gs') (hg : W.grownBy W' (Value.slice A5 K c5).ownBlock) : YS w W' B1 B5 A n qs A1 K ws A5 c5 gs' := by
  have hr : ∀ g, (Value.slice A5 K c5).ownBlock = some g → B5 ≤ g := fun g e => (h.g5.block g e).1
  have h0 := h.le0; have h2 := h.le2; have h3 := h.le3; have h5 := h.b.size
  exact
  { i := h.i.grown hg (by omega) (fun g e => by have := hr g e; omega), w1 := h.w1.grown hg (by omega) (fun g e => by have := hr g e; omega), g5 := ho, b := h.b.grown hg h.b.size (fun g e => by have := hr g e; omega)
    le0 := h.le0, le2 := h.le2, le3 := Nat.le_trans h.le3 hg.size }
end
theorem vals_short {qs ys : List Fq} (h : fns ys = fns qs) (hl : ∀ q ∈ qs, q.vals.length ≤ 1048576) : ∀ q ∈ ys, q.vals.length ≤ 1048576 := fun q hq => by
  have h1 : q.fn ∈ fns qs := by rw [← h]; exact List.mem_map_of_mem hq
  obtain ⟨r, hr, e⟩ := List.mem_map.1 h1
  have h2 := hl r hr
  have h3 : q.vals = r.vals := by
    have := congrArg (fun f : Fn => f.2.2.2.2) e
    exact this.symm
  rw [h3]
  exact h2

set_option maxHeartbeats 12800000 in
theorem exactScanMap_walk (A : Option Addr) (n c : Nat) (qs : List Fq) (w : World) (hr : Fnds w w.heap.size A n qs) (hn : n ≤ c) (hc : c ≤ maxLen) :
    Calls Try.prog 6 #[.slice A n c] w fun e w' => e = .returned (.bool true) ∧ Below w.heap.size w w' := by
  have HS := hide (szFoundS_any A n c w.heap.size qs w hr (Nat.le_refl _) hn hc)
  have HR := hide hr
  clear hr
  go_enter Try.func6, Try.ntmps6
  go_wp2_with fail
  refine HS.out.mono ?_
  rintro e w1 ⟨r, rfl, hr1, hr2, hb1⟩
  by_cases h : r < 0
  · go_wp2
    go_ret
    exact ⟨rfl, hb1⟩
  · obtain ⟨hn1, hl⟩ := hr2 (by omega)
    have HL := hide hl
    have HR1 := hide (HR.out.below hb1 (Nat.le_refl _))
    have HB1 := hide hb1
    have hs1 := hb1.size
    have hn9 : n ≤ 1000000000 := by omega
    have hn8 : n ≤ 100000000 := by omega
    have hnm : n ≤ maxLen := by unfold maxLen; omega
    obtain ⟨v, hv⟩ : ∃ v, (smap (fns qs)).isSome = v := ⟨_, rfl⟩
    obtain ⟨K, hK⟩ : ∃ K, ((smap (fns qs)).getD []).length = K := ⟨_, rfl⟩
    obtain ⟨ws, hws⟩ : ∃ ws, fl5 ((smap (fns qs)).getD []) = ws := ⟨_, rfl⟩
    have hK12 : K ≤ 12 := by rw [← hK]; exact smap_few _
    have hK9 : K ≤ 1000000000 := by omega
    have HPS : Hid (∀ (A' : Option Addr) (c' : Nat) (ys : List Fq) (W : World), Fnds W W.heap.size A' n ys → fns ys = fns qs → Calls Try.prog 9 #[.slice A' n c'] W (SnPost W v K ws)) := fun A' c' ys W hy he => by
      have h2 := (specSM A' n c' _ ys W hy (Nat.le_refl _) hn8 (fun q hq => Nat.le_trans (vals_short he HL.out q hq) (by omega))).mono fun _ _ h => SnPost.of h
      rwa [he, hv, hK, hws] at h2
    have HPI : Hid (∀ (A' : Option Addr) (c' : Nat) (ys : List Fq) (W : World), Fnds W W.heap.size A' n ys → fns ys = fns qs → Calls Try.prog 8 #[.slice A' n c'] W (SnPost W v K ws)) := fun A' c' ys W hy he => by
      have h2 := (implSM A' n c' _ ys W hy (Nat.le_refl _) hn8 (fun q hq => Nat.le_trans (vals_short he HL.out q hq) (by omega))).mono fun _ _ h => SnPost.of h
      rwa [he, hv, hK, hws] at h2
    clear hr2 hl hb1 HS HR hv hK hws
    go_wp2_with fail
    refine (toFoundS_any A n c w.heap.size qs _ HR1.out hs1 hn9 HL.out).mono ?_
    rintro e w2 ⟨A2, c2, qs2, rfl, ho2, hz2, hb2⟩
    have HB2 := hide (HB1.out.trans (hb2.mono hs1))
    have hs2 := HB2.out.size
    have HZ2 := hide ho2.fnds
    have HE2 := hide hz2
    have HR2 := hide (HR1.out.below hb2 hs1)
    clear ho2 hz2 hb2 HR1 HB1 hs1
    go_wp2_with fail
    refine (HPS.out A2 c2 qs2 _ HZ2.out HE2.out).mono ?_
    rintro e w3 ⟨A3, c3, rfl, ho3, hb3⟩
    have HB3 := hide (HB2.out.trans (hb3.mono hs2))
    have hs3 := HB3.out.size
    have HR3 := hide (HR2.out.below hb3 hs2)
    have HW3 := hide ho3.ints
    clear ho3 hb3 HR2 HB2 HZ2 HE2 hs2
    go_wp2_with fail
    refine (toFoundS_any A n c w.heap.size qs _ HR3.out hs3 hn9 HL.out).mono ?_
    rintro e w4 ⟨A4, c4, ys, rfl, ho4, hz4, hb4⟩
    have HB4 := hide (HB3.out.trans (hb4.mono hs3))
    have hs4 := HB4.out.size
    have hs34 := hb4.size
    have HR4 := hide (HR3.out.below hb4 hs3)
    have HW4 := hide (HW3.out.below hb4 (Nat.le_refl _))
    have HO4 := hide ho4
    have HZ4 := hide hz4
    clear ho4 hz4 hb4 HR3 HB3 HW3
    go_wp2_with fail
    refine (HPI.out A4 c4 ys _ HO4.out.fnds HZ4.out).mono ?_
    rintro e w5 ⟨A5, c5, rfl, ho5, hb5⟩
    have HYL := hide (vals_short HZ4.out HL.out)
    have HE : Hid (ZS w w5 w3.heap.size w3.heap.size w4.heap.size A n qs A3 K ws A4 c4 ys A5 c5 ws) :=
      { i := HR4.out.below hb5 hs4, w1 := HW4.out.below hb5 hs34, o4 := HO4.out.below hb5, l4 := HO4.out.lim, g5 := ho5, b := HB4.out.trans (hb5.mono hs4)
        le0 := hs3, le1 := Nat.le_refl _, le2 := hs34, le3 := hb5.size }
    clear ho5 hb5 HB4 HR4 HW4 HO4 hs3 hs4 hs34
    generalize w3.heap.size = B1 at HE
    generalize w4.heap.size = B5 at HE
    go_wp2_with fail
    refine (eqWhereS_yes A5 A3 K c5 c3 _ _ ws _ HE.out.g5.ints (Nat.le_refl _) HE.out.w1 (by have := HE.out.le1; have := HE.out.le2; have := HE.out.le3; omega) hK9).mono ?_
    rintro e w6 ⟨rfl, hb6⟩
    have HE6 := hide (HE.out.below hb6)
    clear hb6 HE
    go_wp2_with fail
    refine (toFoundS_any A n c w.heap.size qs _ HE6.out.i HE6.out.b.size hn9 HL.out).mono ?_
    rintro e w7 ⟨A7, c7, zs, rfl, ho7, hz7, hb7⟩
    have HE7 := hide (HE6.out.below hb7)
    have HO7 := hide ho7.fnds
    have HZ7 := hide (HZ4.out.trans hz7.symm)
    clear hb7 ho7 hz7 HE6
    go_wp2_with fail
    refine (eqFoundS_yes A4 A7 n c4 c7 _ _ ys zs _ HE7.out.o4.fnds HO7.out (Nat.le_refl _) (Nat.le_refl _) hnm HZ7.out).mono ?_
    rintro e w8 ⟨rfl, hb8⟩
    have HE8 := hide (HE7.out.below hb8)
    clear hb8 HE7 HO7 HZ7
    go_wp2_with fail
    refine (markFoundS_any A4 n c4 B1 B5 1 ys _ HE8.out.o4 HE8.out.l4 (by have := HE8.out.le1; have := HE8.out.le2; have := HE8.out.le3; omega) (by omega) (by omega) hn9 HYL.out).mono ?_
    rintro e w9 ⟨rfl, ho9, hc9⟩
    have HE9 := hide (HE8.out.mark4 hc9)
    clear ho9 hc9 HE8
    have hk9 := (mvF_le 1 ys HYL.out).1
    have hkn : ¬ mvF 1 ys < 0 := by omega
    generalize mvF 1 ys = k9 at hk9 hkn
    clear hk9
    go_wp2_with fail
    refine (eqWhereS_yes A5 A3 K c5 c3 _ _ ws _ HE9.out.g5.ints (Nat.le_refl _) HE9.out.w1 (by have := HE9.out.le2; have := HE9.out.le3; omega) hK9).mono ?_
    rintro e w10 ⟨rfl, hb10⟩
    have HE10 := hide (HE9.out.below hb10)
    clear hb10 HE9
    go_wp2_with fail
    refine (markWhereS_any A5 K c5 B5 1 ws _ HE10.out.g5 (by omega) (by omega) hK9).mono ?_
    rintro e w11 ⟨rfl, ho11, hg11⟩
    have HE11 := hide (HE10.out.mark5 ho11 hg11)
    clear ho11 hg11 HE10
    have hmn : ¬ (1 : Int) + ((K * 5 : Nat) : Int) < 0 := by omega
    have HH : Hid (∀ W : World, Ints W W.heap.size A5 (K * 5) (marks 1 (K * 5)) → Calls Try.prog 20 #[.slice A5 K c5, .int .i64 1] W fun e w' => e = .returned (.int .i64 (1 + ((K * 5 : Nat) : Int))) ∧ W = w') := fun W h => heldWhereS_any A5 K c5 _ 1 W h (by omega) (by omega) hK9
    generalize ((K * 5 : Nat) : Int) = mm at hmn HH
    go_wp2_with fail
    refine (HH.out _ HE11.out.g5.ints).mono ?_
    rintro e w' ⟨rfl, rfl⟩
    go_wp2_with fail
    refine (toFoundS_any A n c w.heap.size qs _ HE11.out.i HE11.out.b.size hn9 HL.out).mono ?_
    rintro e w12 ⟨A12, c12, us, rfl, ho12, hz12, hb12⟩
    have HE12 := hide (HE11.out.below hb12)
    have HO12 := hide ho12.fnds
    have HZ12 := hide hz12
    clear hb12 ho12 hz12 HE11
    go_wp2_with fail
    refine (HPI.out A12 c12 us _ HO12.out HZ12.out).mono ?_
    rintro e w13 ⟨A13, c13, rfl, ho13, hb13⟩
    have HE13 := hide (HE12.out.below hb13)
    have HO13 := hide ho13.ints
    clear ho13 hb13 HE12 HO12 HZ12
    go_wp2_with fail
    refine (eqWhereS_yes A13 A3 K c13 c3 _ _ ws _ HO13.out (Nat.le_refl _) HE13.out.w1 (by have := HE13.out.le2; have := HE13.out.le3; omega) hK9).mono ?_
    rintro e w14 ⟨rfl, hb14⟩
    have HE14 := hide (HE13.out.below hb14)
    clear hb14 HE13 HO13
    go_wp2_with fail
    refine (HH.out _ HE14.out.g5.ints).mono ?_
    rintro e w' ⟨rfl, rfl⟩
    go_wp2
    go_ret
    exact ⟨rfl, HE14.out.b⟩
end Go.Proofs.Ytcocboigjfjnfab
