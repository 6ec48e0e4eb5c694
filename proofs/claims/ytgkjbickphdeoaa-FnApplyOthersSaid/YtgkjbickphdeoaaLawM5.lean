/-
  The walk of FnApplyOthers.
-/
import Derived.Test.YtgkjbickphdeoaaApplyM
import Derived.Deep.QuietTactic
namespace Go.Proofs.Ytgkjbickphdeoaa
open Go.RowKit
set_option linter.unusedVariables false
set_option maxRecDepth 100000

/-- the blocks of records -/
def blks (s : Nat) (xs : List Int) (k : Nat) : List Int := (List.range k).map fun j => xs.getD (j * s) 0
theorem blks_succ (s : Nat) (xs : List Int) (k : Nat) : blks s xs (k + 1) = blks s xs k ++ [xs.getD (k * s) 0] := by simp [blks, List.range_succ]
theorem blks_not {s : Nat} {xs : List Int} {N b : Nat} (h : (b : Int) ∉ blks s xs N) : ∀ j, j < N → blkAt s xs j ≠ b ∨ xs.getD (j * s) 0 < 0 := by
  intro j hj
  by_cases h0 : xs.getD (j * s) 0 < 0
  · exact .inr h0
  · left
    intro e
    apply h
    unfold blks
    rw [List.mem_map]
    refine ⟨j, List.mem_range.2 hj, ?_⟩
    unfold blkAt at e
    omega
theorem quiet_inA {P : Program} {f : FuncId} {args : Array Value} {W : World} {j : Nat} {r : Value} (c : Calls P f args (W.drewN j) fun e U => e = .returned r ∧ W.drewN j = U) :
    Calls P f args (W.drewN j) fun e U => e = .returned r ∧ ∃ z, U = W.drewN z := c.mono fun _ _ ⟨he, hz⟩ => ⟨he, j, hz.symm⟩
theorem others_hot {ms : List Wh} {sq z a : Int} {xs : List Int} (h : apOk ms 1 sq xs z a = true) {b : Nat} (hb : (b : Int) ∉ blks 2 xs (xs.length / 2)) : (apM ms 1 sq xs z a)[b]? = ms[b]? := by
  refine apM_not h fun j hj => ?_
  have hr := apI_hot h
  have hj2 : j < xs.length / 2 := by unfold recN at hj; rwa [if_pos rfl] at hj
  unfold apF
  rw [if_pos rfl]
  rcases blks_not hb j hj2 with h1 | h1
  · exact h1
  · have := (hr.blk j hj2).1; omega
theorem others_cold {ms : List Wh} {kd sq z a : Int} {xs : List Int} (hk : kd ≠ 1) (h : apOk ms kd sq xs z a = true) {b : Nat} (hb : (b : Int) ∉ blks 3 xs (xs.length / 3)) : (apM ms kd sq xs z a)[b]? = ms[b]? := by
  refine apM_not h fun j hj => ?_
  have hr := apI_cold hk h
  have hj2 : j < xs.length / 3 := by unfold recN at hj; rwa [if_neg hk] at hj
  unfold apF
  rw [if_neg hk]
  rcases blks_not hb j hj2 with h1 | h1
  · exact h1
  · have := (hr.blk j hj2).1; omega

/-- the list of blocks that is filled: v is the world when the filling began -/
structure FL (v w : World) (B0 : Nat) (X : Option Addr) (k d : Nat) (bs : List Int) : Prop where
  own : Own w B0 X k d bs
  gr : v.grownBy w (some B0)
  at_ : ∀ b, (Value.slice X k d).ownBlock = some b → b = B0 ∨ v.heap.size ≤ b
theorem FL.app {v w w8 : World} {B0 k d c8 : Nat} {X A8 : Option Addr} {bs ys : List Int} {o : Obj} (h : FL v w B0 X k d bs) (ho : Own w8 B0 A8 (k + 1) c8 ys) (hg : (w.alloc o).grownBy w8 (Value.slice X k d).ownBlock)
    (hat : (Value.slice A8 (k + 1) c8).ownBlock = (Value.slice X k d).ownBlock ∨ (Value.slice A8 (k + 1) c8).ownBlock = some (w.alloc o).heap.size) : FL v w8 B0 A8 (k + 1) c8 ys := by
  refine { own := ho, gr := ?_, at_ := fun b hb => ?_ }
  · have h1 := grown_alloc h.gr o
    refine ⟨hg.os.trans h1.os, hg.tape.trans h1.tape, hg.output.trans h1.output, Nat.le_trans h1.size hg.size, fun i hi hne => ?_⟩
    rw [hg.block i (Nat.lt_of_lt_of_le hi h1.size) (fun e => by
      rcases h.at_ i e.symm with h2 | h2
      · exact hne (by rw [h2])
      · omega)]
    exact h1.block i hi hne
  · rcases hat with e | e
    · exact h.at_ b (by rw [← e]; exact hb)
    · right
      rw [e] at hb
      injection hb with hb
      have := h.gr.size
      rw [← hb]
      simp
      omega
theorem fl_below {w4 v w : World} {B0 k d : Nat} {X : Option Addr} {bs : List Int} (hb : Below w4.heap.size w4 v) (h0 : w4.heap.size = B0) (h : FL v w B0 X k d bs) : Below w4.heap.size w4 w :=
  hb.grown h.gr hb.size (by intro q hq; injection hq with hq; omega)

set_option maxHeartbeats 12800000 in
theorem applyOthers_walk (A : Option Addr) (n c : Nat) (bs : Nat → Int) (w : World) (hb : Bytes w w.heap.size A n bs) (hn : n ≤ c) (hc : c ≤ maxLen) :
    Calls Try.prog 7 #[.slice A n c] w fun e w' => e = .returned (.bool true) ∧ Below w.heap.size w w' := by
  by_cases hbig : 1048576 < n
  · go_enter Try.func7, Try.ntmps7
    go_wp2
    go_ret
    exact ⟨rfl, Below.refl _ _⟩
  go_enter Try.func7, Try.ntmps7
  go_wp2_with fail
  refine (drawMA_any A n c bs _ hb hn hc).mono ?_
  rintro e w1 ⟨A1, m, c1, ms, kd, sq, F, fn, fc, xs, z, a, rfl, hd⟩
  obtain ⟨W2, hW2⟩ : ∃ W2, w1.alloc (.cells #[.int .i64 kd, .int .i64 sq, .slice F fn fc] 26) = W2 := ⟨_, rfl⟩
  have HS := hide (apStart hd hW2)
  have hm := hd.dm.num
  have hmc := hd.dm.nc
  have hfn := hd.fnum
  have hfnc := hd.fnc
  have hfcm : fc ≤ 9223372036854775807 := by have := hd.fcm; unfold maxLen at this; omega
  obtain ⟨z0, z1⟩ := hd.z0
  obtain ⟨a0, a1⟩ := hd.a0
  obtain ⟨hq0, hq1, hq2⟩ := HS.out.box W2 (Below.refl _ _)
  obtain ⟨ok, hok⟩ : ∃ ok, apOk ms kd sq xs z a = ok := ⟨_, rfl⟩
  obtain ⟨rs, hrs⟩ : ∃ rs, apM ms kd sq xs z a = rs := ⟨_, rfl⟩
  have HOK := hide hok
  have HRS := hide hrs
  have HRL := hide (show rs.length ≤ 12 by rw [← hrs]; exact apM_le _ _ _ _ _ _)
  have HP1 := hide (implMA A1 F m c1 fn fc _ _ ms kd sq z a xs W2 (HS.out.mpi W2 (Below.refl _ _)) (HS.out.bod W2 (Below.refl _ _)) (HS.out.siz W2 (Below.refl _ _)) (HS.out.siz W2 (Below.refl _ _)) (by omega) (by omega) hfnc hfcm)
  have HP2 := hide fun (W : World) (h : Below W2.heap.size W2 W) => specMA A1 F m c1 fn fc _ _ ms kd sq z a xs W (HS.out.mpi W h) (HS.out.bod W h) (HS.out.siz W h) (HS.out.siz W h) (by omega) (by omega)
  rw [hok, hrs] at HP1 HP2
  clear hb hd hok hrs
  go_wp2_with fail
  refine HP1.out.mono ?_
  rintro e w3 ⟨A2, m2, c2, rfl, ho2, hb2⟩
  have HO2 := hide ho2
  have HW3 := hide hb2
  have hm2 : m2 ≤ 12 := by rw [← ho2.1]; exact HRL.out
  obtain ⟨hr0, hr1, hr2⟩ := HS.out.box w3 hb2
  clear ho2 hb2 HP1 hq0 hq1 hq2
  go_wp2_with fail
  refine (HP2.out _ HW3.out).mono ?_
  rintro e w4 ⟨A3, m3, c3, rfl, ho3, hb3⟩
  obtain rfl : m3 = m2 := ho3.1.symm.trans HO2.out.1
  have HW4 := hide (HW3.out.trans (hb3.mono HW3.out.size))
  obtain ⟨hs0, hs1, hs2⟩ := HS.out.box w4 HW4.out
  have HX2 := hide (HO2.out.mpi.below hb3 (Nat.le_refl _))
  have HX3 := hide ho3.mpi
  have HS34 := hide hb3.size
  have HML := hide ho3.1
  have HCAP := hide HO2.out.cap
  have HSM := hide fun (W : World) (h : Below w4.heap.size w4 W) => sameMap_yes A2 A3 m3 c2 c3 _ _ rs W (HX2.out.below h HS34.out) (HX3.out.below h (Nat.le_refl _)) (by omega)
  have HM4 := hide fun (W : World) (h : Below w4.heap.size w4 W) => HS.out.mpi W (HW4.out.trans (h.mono HW4.out.size))
  have HF4 := hide fun (W : World) (h : Below w4.heap.size w4 W) => HS.out.bod W (HW4.out.trans (h.mono HW4.out.size))
  have HZ4 := hide fun (W : World) (h : Below w4.heap.size w4 W) => HS.out.siz W (HW4.out.trans (h.mono HW4.out.size))
  have HEND := hide fun (W : World) (h : Below w4.heap.size w4 W) => HS.out.fin W (HW4.out.trans (h.mono HW4.out.size))
  have HBOX := hide fun (W : World) (h : Below w4.heap.size w4 W) => HS.out.box W (HW4.out.trans (h.mono HW4.out.size))
  clear ho3 hb3 HP2 HO2 hr0 hr1 hr2
  rcases ok with _ | _
  · go_wp2_with fail
    refine (HSM.out w4 (Below.refl _ _)).mono ?_
    rintro e w5 ⟨rfl, q5, rfl⟩
    have HB5 := hide (below_drewN (Below.refl w4.heap.size w4) q5)
    go_wp2_with fail
    refine (HSM.out _ HB5.out).mono ?_
    rintro e w6 ⟨rfl, q6, rfl⟩
    have HE := hide (HEND.out _ (below_drewN HB5.out q6))
    have HE2 := hide (HEND.out _ (below_drewN (Below.refl w4.heap.size w4) (q5 + q6)))
    go_wp2
    go_ret
    exact ⟨rfl, by first | exact HE.out | exact HE2.out⟩
  have hm12 : m3 = 12 := HML.out.symm.trans (by rw [← HRS.out]; exact apM_len HOK.out)
  subst hm12
  have hlm : m = 12 := (HM4.out w4 (Below.refl _ _)).1.symm.trans (mpV_iff.1 (apOk_iff.1 HOK.out).mp).2
  subst hlm
  have HLM := hide (HM4.out w4 (Below.refl _ _)).1
  have HVF := hide (validF_iff.1 (apOk_iff.1 HOK.out).fr)
  have hxl : xs.length ≤ 18 := by have := HVF.out.2.2.1; omega
  have HXL := hide hxl
  have HFN := hide (HF4.out w4 (Below.refl _ _)).1
  have HGP := hide fun (W : World) (h : Below w4.heap.size w4 W) => implGetP F fn fc _ xs W (HF4.out W h) (HZ4.out W h) (by omega) hfnc hfcm
  have HGC := hide fun (W : World) (h : Below w4.heap.size w4 W) => implGetC F fn fc _ xs W (HF4.out W h) (HZ4.out W h) (by omega) hfnc hfcm
  clear hxl
  by_cases hk1 : kd = 1
  · subst hk1
    have HRI := hide (apI_hot HOK.out)
    have HOKP := hide (okP_of HOK.out HFN.out)
    rw [HOKP.out] at HGP
    go_wp2_with fail
    refine (HSM.out w4 (Below.refl _ _)).mono ?_
    rintro e w5 ⟨rfl, q5, rfl⟩
    have HB5 := hide (below_drewN (Below.refl w4.heap.size w4) q5)
    obtain ⟨B0, hB0⟩ : ∃ B, w4.heap.size = B := ⟨_, rfl⟩
    have HB0 := hide hB0
    have HO5 := hide (Own.lit0 (w4.drewN q5) (w4.drewN q5).heap.size (Nat.le_refl _))
    obtain ⟨W5, hW5⟩ : ∃ W5, (w4.drewN q5).alloc (.cells #[] 3) = W5 := ⟨_, rfl⟩
    have HBW5 := hide (show Below w4.heap.size w4 W5 by rw [← hW5]; exact HB5.out.alloc HB5.out.size _)
    have HS5 := hide (show B0 < W5.heap.size by rw [← hW5, ← hB0]; simp [World.drewN])
    have HO5B := hide (show Own W5 B0 (some ⟨B0, 0, none⟩) 0 0 [] by rw [← hW5, ← hB0]; exact HO5.out)
    obtain ⟨hv0, hv1, hv2⟩ := HBOX.out _ HBW5.out
    have hqs : (w4.drewN q5).heap.size = B0 := hB0
    clear HO5 hqs
    go_wp2_with fail
    refine (HGP.out W5 HBW5.out).mono ?_
    rintro e w6 ⟨A6, N, c6, rfl, ho6, hb6⟩
    have HBW6 := hide (HBW5.out.trans (hb6.mono HBW5.out.size))
    have HOB6 := hide (HO5B.out.below hb6)
    have HS6 := hide hb6.size
    obtain ⟨hr0, hr1, hr2⟩ := HBOX.out _ HBW6.out
    clear hW5 hv0 hv1 hv2 HO5B
    rw [if_pos rfl] at ho6
    have hor := ho6
    have HOB := HOB6
    have HBV := HBW6
    clear ho6 hb6 HGP
    have HNN : Hid (xs.length / 2 = N) := by show _ = _; rw [show xs.length = N * 2 from hor.1]; omega
    have hN : N ≤ 18 := by have h1 := hor.1; have h2 := HXL.out; omega
    have HREC := hide hor
    have HFL0 : Hid (FL w6 w6 B0 (some ⟨B0, 0, none⟩) 0 0 (blks 2 xs 0)) := { own := HOB.out, gr := grown_refl _ _, at_ := fun b hb => by left; injection hb with hb; exact hb.symm }
    have HN1 := hide (show 1 ≤ N by have h := HRI.out.one; have h2 := HNN.out; omega)
    clear hor
    go_wp2
    go_loopw [11, 14] (fun o i wr => ∃ (k d : Nat) (X : Option Addr), k ≤ N ∧ i = .int .i64 k ∧ o = .slice X k d ∧ Hid (FL w6 wr B0 X k d (blks 2 xs k))) (fun _ i _ => N - (intOf i).toNat)
    case atStart => exact ⟨0, 0, _, Nat.zero_le _, rfl, rfl, HFL0.out⟩
    case round =>
      clear HFL0
      obtain ⟨k, d, X, hk, rfl, rfl, HFL⟩ := hrel
      have HBU := hide (fl_below HBV.out HB0.out HFL.out)
      obtain ⟨hy0, hy1, hy2⟩ := HBOX.out _ HBU.out
      by_cases hlt : k < N
      · have k0 : (0 : Int) ≤ (k : Int) := by omega
        have k1 : (k : Int) < (N : Int) := by omega
        have HBS := hide (blks_succ 2 xs k)
        obtain ⟨b, hb⟩ : ∃ b, xs.getD (k * 2) 0 = b := ⟨_, rfl⟩
        obtain ⟨ad, p, rfl, hp, hpb, hc0, _⟩ := ints_at2 (HREC.out.kept HFL.out.gr (by intro q hq; injection hq with hq; subst hq; intro e; have := (HREC.out.block _ e).1; have h5 := HS5.out; have h6 := HS6.out; omega)).ints hlt
        rw [hb] at hc0 HBS
        clear hb
        go_wp2_with (at_builtin; refine wpList_append_ints rfl (.tmp 84) (.tmp 90) rfl B0 k d (wr.heap.size + 1) 1 1 X (some ⟨wr.heap.size, 0, none⟩) (blks 2 xs k) [b] rfl (HFL.out.own.alloc _) rfl (Ints.one wr b) (by omega) (by have h1 := HFL.out.gr.size; have h2 := HBV.out.size; have h3 := HB0.out; simp; omega) ?_; intro A8 c8 w8 ho8 hg8 hat8; have HF8 := hide (HFL.out.app ho8 hg8 hat8); clear ho8 hg8 hat8)
        go_roundw
        case rel => exact ⟨k + 1, _, _, by omega, by go_num, rfl, by show FL _ _ _ _ _ _ _; rw [HBS.out]; exact HF8.out⟩
        case measure => simp [intOf]; omega
      · obtain rfl : N = k := by omega
        go_wp2_with fail
        refine (HGC.out _ HBU.out).mono ?_
        rintro e w7 ⟨A7, n7, c7, rfl, ho7, hb7⟩
        have HBW7 := hide (HBU.out.trans (hb7.mono HBU.out.size))
        obtain ⟨hx0, hx1, hx2⟩ := HBOX.out _ HBW7.out
        have HBL := hide (HFL.out.own.below hb7)
        clear ho7 hb7 hy0 hy1 hy2
        go_wp2
        go_loopw [11, 17] (fun o i W => i = .int .i64 0 ∧ o = .slice X N d ∧ w7 = W) (fun _ _ _ => 0)
        case atStart => exact ⟨rfl, rfl, rfl⟩
        case round =>
          obtain ⟨rfl, rfl, rfl⟩ := hrel
          by_cases hz : n7 = 0
          case neg =>
            have hz1 : (0 : Int) < (n7 : Int) := by omega
            have hz2 : 0 < n7 := by omega
            have HMU := hide (HM4.out _ HBW7.out)
            have HXU := hide (HX2.out.below HBW7.out HS34.out)
            have HENDU := hide fun (W : World) (h : Below w7.heap.size w7 W) => HEND.out W (HBW7.out.trans (h.mono HBW7.out.size))
            have hN1 : 0 < N := HN1.out
            have hN1i : (0 : Int) < (N : Int) := by omega
            have HNOT := hide fun (b : Nat) (h : (b : Int) ∉ blks 2 xs N) => (show rs[b]? = ms[b]? by rw [← HRS.out]; exact others_hot HOK.out (by rw [HNN.out]; exact h))
            go_wp2
            go_loopw [18] (fun i Wq => ∃ k q : Nat, k ≤ 12 ∧ i = .int .i64 k ∧ Wq = w7.drewN q) (fun i _ => 12 - (intOf i).toNat)
            case atStart => exact ⟨0, 0, by omega, rfl, rfl⟩
            case round =>
              obtain ⟨k, q, hk, rfl, rfl⟩ := hrel
              by_cases hlt : k < 12
              · have k0 : (0 : Int) ≤ (k : Int) := by omega
                have k1 : (k : Int) < 12 := by omega
                obtain ⟨x, hx⟩ : ∃ x, ms[k]? = some x := ⟨_, List.getElem?_eq_getElem (by rw [HLM.out]; exact hlt)⟩
                have hbl := HBL.out.ints.drewN q
                rcases hin : decide ((k : Int) ∈ blks 2 xs N) with _ | _
                · have hrk : rs[k]? = some x := by rw [HNOT.out k (of_decide_eq_false hin)]; exact hx
                  obtain ⟨ad, p, rfl, hp, hpb, h0, h1, h2, h3, h4⟩ := (HMU.out.drewN q).at_ hx
                  obtain ⟨ad2, p2, rfl, hp2, hpb2, g0, g1, g2, g3, g4⟩ := (HXU.out.drewN q).at_ hrk
                  obtain ⟨t, y, u, i, v⟩ := x
                  dsimp only at h0 h1 h2 h3 h4 g0 g1 g2 g3 g4
                  generalize hw : w7.drewN q = wz at hbl h0 h1 h2 h3 h4 g0 g1 g2 g3 g4 ⊢
                  have HHI := hide fun (j : Nat) => hasInt_any X N d _ (k : Int) _ (wz.drewN j) (hbl.drewN j) (by unfold maxLen; omega)
                  rw [hin] at HHI
                  clear hx hrk hin hbl
                  go_wp2_with fail
                  go_quiet ((go_at_call 21; exact quiet_inA (HHI.out _)))
                  go_wp2
                  go_roundw
                  case rel => exact ⟨k + 1, _, by omega, by go_num, by rw [← hw]; first | exact World.drewN_drewN _ _ _ | rfl⟩
                  case measure => simp [intOf]; omega
                · generalize hw : w7.drewN q = wz at hbl ⊢
                  have HHI := hide fun (j : Nat) => hasInt_any X N d _ (k : Int) _ (wz.drewN j) (hbl.drewN j) (by unfold maxLen; omega)
                  rw [hin] at HHI
                  clear hx hin hbl
                  go_wp2_with fail
                  go_quiet ((go_at_call 21; exact quiet_inA (HHI.out _)))
                  go_wp2
                  go_roundw
                  case rel => exact ⟨k + 1, _, by omega, by go_num, by rw [← hw]; first | exact World.drewN_drewN _ _ _ | rfl⟩
                  case measure => simp [intOf]; omega
              · have HE := hide (HENDU.out _ (below_drewN (Below.refl _ _) q))
                go_wp2
                go_ret
                exact ⟨rfl, HE.out⟩
          case pos =>
            subst hz
            have HMU := hide (HM4.out _ HBW7.out)
            have HXU := hide (HX2.out.below HBW7.out HS34.out)
            have HENDU := hide fun (W : World) (h : Below w7.heap.size w7 W) => HEND.out W (HBW7.out.trans (h.mono HBW7.out.size))
            have hN1 : 0 < N := HN1.out
            have hN1i : (0 : Int) < (N : Int) := by omega
            have HNOT := hide fun (b : Nat) (h : (b : Int) ∉ blks 2 xs N) => (show rs[b]? = ms[b]? by rw [← HRS.out]; exact others_hot HOK.out (by rw [HNN.out]; exact h))
            go_wp2
            go_loopw [18] (fun i Wq => ∃ k q : Nat, k ≤ 12 ∧ i = .int .i64 k ∧ Wq = w7.drewN q) (fun i _ => 12 - (intOf i).toNat)
            case atStart => exact ⟨0, 0, by omega, rfl, rfl⟩
            case round =>
              obtain ⟨k, q, hk, rfl, rfl⟩ := hrel
              by_cases hlt : k < 12
              · have k0 : (0 : Int) ≤ (k : Int) := by omega
                have k1 : (k : Int) < 12 := by omega
                obtain ⟨x, hx⟩ : ∃ x, ms[k]? = some x := ⟨_, List.getElem?_eq_getElem (by rw [HLM.out]; exact hlt)⟩
                have hbl := HBL.out.ints.drewN q
                rcases hin : decide ((k : Int) ∈ blks 2 xs N) with _ | _
                · have hrk : rs[k]? = some x := by rw [HNOT.out k (of_decide_eq_false hin)]; exact hx
                  obtain ⟨ad, p, rfl, hp, hpb, h0, h1, h2, h3, h4⟩ := (HMU.out.drewN q).at_ hx
                  obtain ⟨ad2, p2, rfl, hp2, hpb2, g0, g1, g2, g3, g4⟩ := (HXU.out.drewN q).at_ hrk
                  obtain ⟨t, y, u, i, v⟩ := x
                  dsimp only at h0 h1 h2 h3 h4 g0 g1 g2 g3 g4
                  generalize hw : w7.drewN q = wz at hbl h0 h1 h2 h3 h4 g0 g1 g2 g3 g4 ⊢
                  have HHI := hide fun (j : Nat) => hasInt_any X N d _ (k : Int) _ (wz.drewN j) (hbl.drewN j) (by unfold maxLen; omega)
                  rw [hin] at HHI
                  clear hx hrk hin hbl
                  go_wp2_with fail
                  go_quiet ((go_at_call 21; exact quiet_inA (HHI.out _)))
                  go_wp2
                  go_roundw
                  case rel => exact ⟨k + 1, _, by omega, by go_num, by rw [← hw]; first | exact World.drewN_drewN _ _ _ | rfl⟩
                  case measure => simp [intOf]; omega
                · generalize hw : w7.drewN q = wz at hbl ⊢
                  have HHI := hide fun (j : Nat) => hasInt_any X N d _ (k : Int) _ (wz.drewN j) (hbl.drewN j) (by unfold maxLen; omega)
                  rw [hin] at HHI
                  clear hx hin hbl
                  go_wp2_with fail
                  go_quiet ((go_at_call 21; exact quiet_inA (HHI.out _)))
                  go_wp2
                  go_roundw
                  case rel => exact ⟨k + 1, _, by omega, by go_num, by rw [← hw]; first | exact World.drewN_drewN _ _ _ | rfl⟩
                  case measure => simp [intOf]; omega
              · have HE := hide (HENDU.out _ (below_drewN (Below.refl _ _) q))
                go_wp2
                go_ret
                exact ⟨rfl, HE.out⟩
  · have hk2 : kd = 2 := by have := HVF.out.1; omega
    subst hk2
    have HRI := hide (apI_cold (by omega) HOK.out)
    have HOKC := hide (okC_of (by omega) HOK.out HFN.out)
    rw [HOKC.out] at HGC
    clear hk1
    go_wp2_with fail
    refine (HSM.out w4 (Below.refl _ _)).mono ?_
    rintro e w5 ⟨rfl, q5, rfl⟩
    have HB5 := hide (below_drewN (Below.refl w4.heap.size w4) q5)
    obtain ⟨B0, hB0⟩ : ∃ B, w4.heap.size = B := ⟨_, rfl⟩
    have HB0 := hide hB0
    have HO5 := hide (Own.lit0 (w4.drewN q5) (w4.drewN q5).heap.size (Nat.le_refl _))
    obtain ⟨W5, hW5⟩ : ∃ W5, (w4.drewN q5).alloc (.cells #[] 3) = W5 := ⟨_, rfl⟩
    have HBW5 := hide (show Below w4.heap.size w4 W5 by rw [← hW5]; exact HB5.out.alloc HB5.out.size _)
    have HS5 := hide (show B0 < W5.heap.size by rw [← hW5, ← hB0]; simp [World.drewN])
    have HO5B := hide (show Own W5 B0 (some ⟨B0, 0, none⟩) 0 0 [] by rw [← hW5, ← hB0]; exact HO5.out)
    obtain ⟨hv0, hv1, hv2⟩ := HBOX.out _ HBW5.out
    have hqs : (w4.drewN q5).heap.size = B0 := hB0
    clear HO5 hqs
    go_wp2_with fail
    refine (HGP.out W5 HBW5.out).mono ?_
    rintro e w6 ⟨A6, n6, c6, rfl, ho6, hb6⟩
    have HBW6 := hide (HBW5.out.trans (hb6.mono HBW5.out.size))
    have HOB6 := hide (HO5B.out.below hb6)
    have HS6 := hide hb6.size
    obtain ⟨hr0, hr1, hr2⟩ := HBOX.out _ HBW6.out
    clear hW5 hv0 hv1 hv2 HO5B
    clear ho6 hb6 HGP
    go_wp2
    go_loopw [11, 14] (fun o i W => i = .int .i64 0 ∧ o = .slice (some ⟨B0, 0, none⟩) 0 0 ∧ w6 = W) (fun _ _ _ => 0)
    case atStart => exact ⟨rfl, rfl, rfl⟩
    case round =>
      obtain ⟨rfl, rfl, rfl⟩ := hrel
      by_cases hz : n6 = 0
      case neg =>
        have hz1 : (0 : Int) < (n6 : Int) := by omega
        have hz2 : 0 < n6 := by omega
        go_wp2_with fail
        refine (HGC.out _ HBW6.out).mono ?_
        rintro e w7 ⟨A7, N, c7, rfl, ho7, hb7⟩
        have HBW7 := hide (HBW6.out.trans (hb7.mono HBW6.out.size))
        obtain ⟨hx0, hx1, hx2⟩ := HBOX.out _ HBW7.out
        rw [if_pos rfl] at ho7
        have hor := ho7
        have HOB := hide (HOB6.out.below hb7)
        have HBV := HBW7
        clear ho7 hb7 hr0 hr1 hr2
        have HNN : Hid (xs.length / 3 = N) := by show _ = _; rw [show xs.length = N * 3 from hor.1]; omega
        have hN : N ≤ 18 := by have h1 := hor.1; have h2 := HXL.out; omega
        have HREC := hide hor
        have HFL0 : Hid (FL w7 w7 B0 (some ⟨B0, 0, none⟩) 0 0 (blks 3 xs 0)) := { own := HOB.out, gr := grown_refl _ _, at_ := fun b hb => by left; injection hb with hb; exact hb.symm }
        have HN1 := hide (show 1 ≤ N by have h := HRI.out.one; have h2 := HNN.out; omega)
        clear hor
        go_wp2
        go_loopw [11, 17] (fun o i wr => ∃ (k d : Nat) (X : Option Addr), k ≤ N ∧ i = .int .i64 k ∧ o = .slice X k d ∧ Hid (FL w7 wr B0 X k d (blks 3 xs k))) (fun _ i _ => N - (intOf i).toNat)
        case atStart => exact ⟨0, 0, _, Nat.zero_le _, rfl, rfl, HFL0.out⟩
        case round =>
          clear HFL0
          obtain ⟨k, d, X, hk, rfl, rfl, HFL⟩ := hrel
          have HBU := hide (fl_below HBV.out HB0.out HFL.out)
          obtain ⟨hy0, hy1, hy2⟩ := HBOX.out _ HBU.out
          by_cases hlt : k < N
          · have k0 : (0 : Int) ≤ (k : Int) := by omega
            have k1 : (k : Int) < (N : Int) := by omega
            have HBS := hide (blks_succ 3 xs k)
            obtain ⟨b, hb⟩ : ∃ b, xs.getD (k * 3) 0 = b := ⟨_, rfl⟩
            obtain ⟨ad, p, rfl, hp, hpb, hc0, _⟩ := ints_at3 (HREC.out.kept HFL.out.gr (by intro q hq; injection hq with hq; subst hq; intro e; have := (HREC.out.block _ e).1; have h5 := HS5.out; have h6 := HS6.out; omega)).ints hlt
            rw [hb] at hc0 HBS
            clear hb
            go_wp2_with (at_builtin; refine wpList_append_ints rfl (.tmp 109) (.tmp 115) rfl B0 k d (wr.heap.size + 1) 1 1 X (some ⟨wr.heap.size, 0, none⟩) (blks 3 xs k) [b] rfl (HFL.out.own.alloc _) rfl (Ints.one wr b) (by omega) (by have h1 := HFL.out.gr.size; have h2 := HBV.out.size; have h3 := HB0.out; simp; omega) ?_; intro A8 c8 w8 ho8 hg8 hat8; have HF8 := hide (HFL.out.app ho8 hg8 hat8); clear ho8 hg8 hat8)
            go_roundw
            case rel => exact ⟨k + 1, _, _, by omega, by go_num, rfl, by show FL _ _ _ _ _ _ _; rw [HBS.out]; exact HF8.out⟩
            case measure => simp [intOf]; omega
          · obtain rfl : N = k := by omega
            have HBL := hide HFL.out.own
            have HMU := hide (HM4.out _ HBU.out)
            have HXU := hide (HX2.out.below HBU.out HS34.out)
            have HENDU := hide fun (W : World) (h : Below wr.heap.size wr W) => HEND.out W (HBU.out.trans (h.mono HBU.out.size))
            have hN1 : 0 < N := HN1.out
            have hN1i : (0 : Int) < (N : Int) := by omega
            have HNOT := hide fun (b : Nat) (h : (b : Int) ∉ blks 3 xs N) => (show rs[b]? = ms[b]? by rw [← HRS.out]; exact others_cold (by omega) HOK.out (by rw [HNN.out]; exact h))
            go_wp2
            go_loopw [18] (fun i Wq => ∃ k q : Nat, k ≤ 12 ∧ i = .int .i64 k ∧ Wq = wr.drewN q) (fun i _ => 12 - (intOf i).toNat)
            case atStart => exact ⟨0, 0, by omega, rfl, rfl⟩
            case round =>
              obtain ⟨k, q, hk, rfl, rfl⟩ := hrel
              by_cases hlt : k < 12
              · have k0 : (0 : Int) ≤ (k : Int) := by omega
                have k1 : (k : Int) < 12 := by omega
                obtain ⟨x, hx⟩ : ∃ x, ms[k]? = some x := ⟨_, List.getElem?_eq_getElem (by rw [HLM.out]; exact hlt)⟩
                have hbl := HBL.out.ints.drewN q
                rcases hin : decide ((k : Int) ∈ blks 3 xs N) with _ | _
                · have hrk : rs[k]? = some x := by rw [HNOT.out k (of_decide_eq_false hin)]; exact hx
                  obtain ⟨ad, p, rfl, hp, hpb, h0, h1, h2, h3, h4⟩ := (HMU.out.drewN q).at_ hx
                  obtain ⟨ad2, p2, rfl, hp2, hpb2, g0, g1, g2, g3, g4⟩ := (HXU.out.drewN q).at_ hrk
                  obtain ⟨t, y, u, i, v⟩ := x
                  dsimp only at h0 h1 h2 h3 h4 g0 g1 g2 g3 g4
                  generalize hw : wr.drewN q = wz at hbl h0 h1 h2 h3 h4 g0 g1 g2 g3 g4 ⊢
                  have HHI := hide fun (j : Nat) => hasInt_any X N d _ (k : Int) _ (wz.drewN j) (hbl.drewN j) (by unfold maxLen; omega)
                  rw [hin] at HHI
                  clear hx hrk hin hbl
                  go_wp2_with fail
                  go_quiet ((go_at_call 21; exact quiet_inA (HHI.out _)))
                  go_wp2
                  go_roundw
                  case rel => exact ⟨k + 1, _, by omega, by go_num, by rw [← hw]; first | exact World.drewN_drewN _ _ _ | rfl⟩
                  case measure => simp [intOf]; omega
                · generalize hw : wr.drewN q = wz at hbl ⊢
                  have HHI := hide fun (j : Nat) => hasInt_any X N d _ (k : Int) _ (wz.drewN j) (hbl.drewN j) (by unfold maxLen; omega)
                  rw [hin] at HHI
                  clear hx hin hbl
                  go_wp2_with fail
                  go_quiet ((go_at_call 21; exact quiet_inA (HHI.out _)))
                  go_wp2
                  go_roundw
                  case rel => exact ⟨k + 1, _, by omega, by go_num, by rw [← hw]; first | exact World.drewN_drewN _ _ _ | rfl⟩
                  case measure => simp [intOf]; omega
              · have HE := hide (HENDU.out _ (below_drewN (Below.refl _ _) q))
                go_wp2
                go_ret
                exact ⟨rfl, HE.out⟩
      case pos =>
        subst hz
        go_wp2_with fail
        refine (HGC.out _ HBW6.out).mono ?_
        rintro e w7 ⟨A7, N, c7, rfl, ho7, hb7⟩
        have HBW7 := hide (HBW6.out.trans (hb7.mono HBW6.out.size))
        obtain ⟨hx0, hx1, hx2⟩ := HBOX.out _ HBW7.out
        rw [if_pos rfl] at ho7
        have hor := ho7
        have HOB := hide (HOB6.out.below hb7)
        have HBV := HBW7
        clear ho7 hb7 hr0 hr1 hr2
        have HNN : Hid (xs.length / 3 = N) := by show _ = _; rw [show xs.length = N * 3 from hor.1]; omega
        have hN : N ≤ 18 := by have h1 := hor.1; have h2 := HXL.out; omega
        have HREC := hide hor
        have HFL0 : Hid (FL w7 w7 B0 (some ⟨B0, 0, none⟩) 0 0 (blks 3 xs 0)) := { own := HOB.out, gr := grown_refl _ _, at_ := fun b hb => by left; injection hb with hb; exact hb.symm }
        have HN1 := hide (show 1 ≤ N by have h := HRI.out.one; have h2 := HNN.out; omega)
        clear hor
        go_wp2
        go_loopw [11, 17] (fun o i wr => ∃ (k d : Nat) (X : Option Addr), k ≤ N ∧ i = .int .i64 k ∧ o = .slice X k d ∧ Hid (FL w7 wr B0 X k d (blks 3 xs k))) (fun _ i _ => N - (intOf i).toNat)
        case atStart => exact ⟨0, 0, _, Nat.zero_le _, rfl, rfl, HFL0.out⟩
        case round =>
          clear HFL0
          obtain ⟨k, d, X, hk, rfl, rfl, HFL⟩ := hrel
          have HBU := hide (fl_below HBV.out HB0.out HFL.out)
          obtain ⟨hy0, hy1, hy2⟩ := HBOX.out _ HBU.out
          by_cases hlt : k < N
          · have k0 : (0 : Int) ≤ (k : Int) := by omega
            have k1 : (k : Int) < (N : Int) := by omega
            have HBS := hide (blks_succ 3 xs k)
            obtain ⟨b, hb⟩ : ∃ b, xs.getD (k * 3) 0 = b := ⟨_, rfl⟩
            obtain ⟨ad, p, rfl, hp, hpb, hc0, _⟩ := ints_at3 (HREC.out.kept HFL.out.gr (by intro q hq; injection hq with hq; subst hq; intro e; have := (HREC.out.block _ e).1; have h5 := HS5.out; have h6 := HS6.out; omega)).ints hlt
            rw [hb] at hc0 HBS
            clear hb
            go_wp2_with (at_builtin; refine wpList_append_ints rfl (.tmp 109) (.tmp 115) rfl B0 k d (wr.heap.size + 1) 1 1 X (some ⟨wr.heap.size, 0, none⟩) (blks 3 xs k) [b] rfl (HFL.out.own.alloc _) rfl (Ints.one wr b) (by omega) (by have h1 := HFL.out.gr.size; have h2 := HBV.out.size; have h3 := HB0.out; simp; omega) ?_; intro A8 c8 w8 ho8 hg8 hat8; have HF8 := hide (HFL.out.app ho8 hg8 hat8); clear ho8 hg8 hat8)
            go_roundw
            case rel => exact ⟨k + 1, _, _, by omega, by go_num, rfl, by show FL _ _ _ _ _ _ _; rw [HBS.out]; exact HF8.out⟩
            case measure => simp [intOf]; omega
          · obtain rfl : N = k := by omega
            have HBL := hide HFL.out.own
            have HMU := hide (HM4.out _ HBU.out)
            have HXU := hide (HX2.out.below HBU.out HS34.out)
            have HENDU := hide fun (W : World) (h : Below wr.heap.size wr W) => HEND.out W (HBU.out.trans (h.mono HBU.out.size))
            have hN1 : 0 < N := HN1.out
            have hN1i : (0 : Int) < (N : Int) := by omega
            have HNOT := hide fun (b : Nat) (h : (b : Int) ∉ blks 3 xs N) => (show rs[b]? = ms[b]? by rw [← HRS.out]; exact others_cold (by omega) HOK.out (by rw [HNN.out]; exact h))
            go_wp2
            go_loopw [18] (fun i Wq => ∃ k q : Nat, k ≤ 12 ∧ i = .int .i64 k ∧ Wq = wr.drewN q) (fun i _ => 12 - (intOf i).toNat)
            case atStart => exact ⟨0, 0, by omega, rfl, rfl⟩
            case round =>
              obtain ⟨k, q, hk, rfl, rfl⟩ := hrel
              by_cases hlt : k < 12
              · have k0 : (0 : Int) ≤ (k : Int) := by omega
                have k1 : (k : Int) < 12 := by omega
                obtain ⟨x, hx⟩ : ∃ x, ms[k]? = some x := ⟨_, List.getElem?_eq_getElem (by rw [HLM.out]; exact hlt)⟩
                have hbl := HBL.out.ints.drewN q
                rcases hin : decide ((k : Int) ∈ blks 3 xs N) with _ | _
                · have hrk : rs[k]? = some x := by rw [HNOT.out k (of_decide_eq_false hin)]; exact hx
                  obtain ⟨ad, p, rfl, hp, hpb, h0, h1, h2, h3, h4⟩ := (HMU.out.drewN q).at_ hx
                  obtain ⟨ad2, p2, rfl, hp2, hpb2, g0, g1, g2, g3, g4⟩ := (HXU.out.drewN q).at_ hrk
                  obtain ⟨t, y, u, i, v⟩ := x
                  dsimp only at h0 h1 h2 h3 h4 g0 g1 g2 g3 g4
                  generalize hw : wr.drewN q = wz at hbl h0 h1 h2 h3 h4 g0 g1 g2 g3 g4 ⊢
                  have HHI := hide fun (j : Nat) => hasInt_any X N d _ (k : Int) _ (wz.drewN j) (hbl.drewN j) (by unfold maxLen; omega)
                  rw [hin] at HHI
                  clear hx hrk hin hbl
                  go_wp2_with fail
                  go_quiet ((go_at_call 21; exact quiet_inA (HHI.out _)))
                  go_wp2
                  go_roundw
                  case rel => exact ⟨k + 1, _, by omega, by go_num, by rw [← hw]; first | exact World.drewN_drewN _ _ _ | rfl⟩
                  case measure => simp [intOf]; omega
                · generalize hw : wr.drewN q = wz at hbl ⊢
                  have HHI := hide fun (j : Nat) => hasInt_any X N d _ (k : Int) _ (wz.drewN j) (hbl.drewN j) (by unfold maxLen; omega)
                  rw [hin] at HHI
                  clear hx hin hbl
                  go_wp2_with fail
                  go_quiet ((go_at_call 21; exact quiet_inA (HHI.out _)))
                  go_wp2
                  go_roundw
                  case rel => exact ⟨k + 1, _, by omega, by go_num, by rw [← hw]; first | exact World.drewN_drewN _ _ _ | rfl⟩
                  case measure => simp [intOf]; omega
              · have HE := hide (HENDU.out _ (below_drewN (Below.refl _ _) q))
                go_wp2
                go_ret
                exact ⟨rfl, HE.out⟩
end Go.Proofs.Ytgkjbickphdeoaa
