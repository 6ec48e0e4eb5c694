/-
  The walk of FnModelNew.
-/
import Derived.Test.YtiopbgenkalfaaaDrawR1
import Derived.Test.YtiopbgenkalfaaaSameR
import Derived.Test.YtiopbgenkalfaaaSpecR1
import Derived.Test.YtiopbgenkalfaaaImpR5
namespace Go.Proofs.Ytiopbgenkalfaaa
open Go.RowKit
set_option linter.unusedVariables false
set_option maxRecDepth 100000

/-- the first k values are in range, and there are enough -/
def fineN (xs : List Int) (k : Nat) : Bool := decide (xs.length = 12) && allN (xs.take k)
theorem fineN_succ {xs : List Int} {k : Nat} (h : k < xs.length) : fineN xs (k + 1) = (fineN xs k && inB (xs.getD k 0) 0 99) := by
  unfold fineN allN
  rw [List.take_succ_eq_append_getElem h, List.all_append]
  simp [List.getD, h, Bool.and_assoc]
theorem fineN_all (xs : List Int) : fineN xs xs.length = nowV xs := by
  unfold fineN nowV
  rw [List.take_length, Bool.and_comm]

/-- what the walk keeps: two models, and values, below B -/
structure LN (w0 W : World) (B g1 g2 : Nat) (A : Option Addr) (n : Nat) (xs : List Int) (q1 q2 : Mq) : Prop where
  a : Ints W B A n xs
  m1 : MdI W B q1
  m2 : MdI W B q2
  k1 : Blk W g1 27 #[.slice q1.A q1.n q1.c, .slice q1.P q1.m q1.d]
  k2 : Blk W g2 27 #[.slice q2.A q2.n q2.c, .slice q2.P q2.m q2.d]
  below : Below w0.heap.size w0 W
  hB : B ≤ W.heap.size
theorem LN.step {w0 W W' : World} {B g1 g2 n : Nat} {A : Option Addr} {xs : List Int} {q1 q2 : Mq} (h : LN w0 W B g1 g2 A n xs q1 q2) (hb : Below W.heap.size W W') : LN w0 W' B g1 g2 A n xs q1 q2 :=
  ⟨h.a.below hb h.hB, h.m1.below hb h.hB, h.m2.below hb h.hB, h.k1.below hb h.k1.lt, h.k2.below hb h.k2.lt, h.below.trans (hb.mono h.below.size), Nat.le_trans h.hB hb.size⟩
theorem LN.cells {w0 W : World} {B g1 g2 n : Nat} {A : Option Addr} {xs : List Int} {q1 q2 : Mq} (h : LN w0 W B g1 g2 A n xs q1 q2) : (W.cell? ⟨g1, 0, none⟩ = some (.slice q1.A q1.n q1.c) ∧ W.cell? ⟨g1, 1, none⟩ = some (.slice q1.P q1.m q1.d)) ∧ W.cell? ⟨g2, 0, none⟩ = some (.slice q2.A q2.n q2.c) ∧ W.cell? ⟨g2, 1, none⟩ = some (.slice q2.P q2.m q2.d) :=
  ⟨⟨by rw [h.k1.cell]; rfl, by rw [h.k1.cell]; rfl⟩, by rw [h.k2.cell]; rfl, by rw [h.k2.cell]; rfl⟩

set_option maxHeartbeats 6400000 in
theorem modelNew_walk (A : Option Addr) (n c : Nat) (bs : Nat → Int) (w : World) (hb : Bytes w w.heap.size A n bs) (hn : n ≤ c) (hc : c ≤ maxLen) :
    Calls Try.prog 3 #[.slice A n c] w fun e w' => e = .returned (.bool true) ∧ Below w.heap.size w w' := by
  by_cases hbig : 1048576 < n
  · have hd : decide (1048576 < n) = true := by simpa using hbig
    go_enter Try.func3, Try.ntmps3
    go_wp2
    go_ret
    exact ⟨rfl, Below.refl _ _⟩
  have hd : decide (1048576 < n) = false := by simpa using hbig
  go_enter Try.func3, Try.ntmps3
  go_wp2_with fail
  refine (drawNew_any A n c bs _ hb hn hc).mono ?_
  rintro e w1 ⟨A1, m, c1, xs, rfl, ho1, hm, hb1⟩
  have HO1 := hide ho1
  have HB1 := hide hb1
  have hcap1 := ho1.cap.2
  have hxl := hide ho1.1
  clear ho1 hb1 hb
  go_wp2_with fail
  refine (implNewM A1 m c1 w1.heap.size xs w1 HO1.out.ints (Nat.le_refl _) (by omega) (fun e => by have h1 := own_nilc HO1.out e; have h2 := HO1.out.cap.1; omega)).mono ?_
  rintro e w2 ⟨q1, rfl, hm1, hx1, hq1, hb2⟩
  have HQ1 := hide (And.intro hx1 hq1)
  have HM1 := hide (hm1.mdi.alloc (Nat.le_refl _) (.cells #[.slice q1.A q1.n q1.c, .slice q1.P q1.m q1.d] 27))
  have HK1 := hide (Blk.new w2 27 #[.slice q1.A q1.n q1.c, .slice q1.P q1.m q1.d])
  have HA1 := hide ((HO1.out.ints.below hb2 (Nat.le_refl _)).alloc hb2.size (.cells #[.slice q1.A q1.n q1.c, .slice q1.P q1.m q1.d] 27))
  have HB2 := hide ((HB1.out.trans (hb2.mono HB1.out.size)).alloc (Nat.le_trans HB1.out.size hb2.size) (.cells #[.slice q1.A q1.n q1.c, .slice q1.P q1.m q1.d] 27))
  have hs12 := hb2.size
  have HNC := hide (show A1 = none → m = 0 ∧ c1 = 0 from fun e => by have h1 := own_nilc HO1.out e; have h2 := HO1.out.cap.1; omega)
  clear hm1 hx1 hq1 hb2 HO1 HB1
  unfold Mq.val
  go_upto_region 5 with (fail)
  obtain ⟨W2, hW2⟩ : ∃ W2, w2.alloc (.cells #[.slice q1.A q1.n q1.c, .slice q1.P q1.m q1.d] 27) = W2 := ⟨_, rfl⟩
  have hs22 : w2.heap.size ≤ W2.heap.size := by rw [← hW2]; simp
  rw [hW2] at HM1 HK1 HA1 HB2 ⊢
  clear hW2
  generalize w2.heap.size = g1 at HM1 HK1 hs22 hs12 ⊢
  go_wp2_with fail
  refine (specNewM A1 m c1 w1.heap.size xs W2 HA1.out (by omega) (by omega)).mono ?_
  rintro e w3 ⟨q2, rfl, hm2, hx2, hq2, hb3⟩
  have HQ2 := hide (And.intro hx2 hq2)
  have hs3 := hb3.size
  have HL0 := hide (show LN w (w3.alloc (.cells #[.slice q2.A q2.n q2.c, .slice q2.P q2.m q2.d] 27)) w3.heap.size g1 w3.heap.size A1 m xs q1 q2 from
    { a := ((HA1.out.below hb3 (by omega)).more (by omega)).alloc (Nat.le_refl _) _, m1 := ((HM1.out.below hb3 hs22).more (by omega)).alloc (Nat.le_refl _) _, m2 := hm2.mdi.alloc (Nat.le_refl _) _,
      k1 := (HK1.out.below hb3 HK1.out.lt).alloc _, k2 := Blk.new w3 _ _, below := (HB2.out.trans (hb3.mono HB2.out.size)).alloc (Nat.le_trans HB2.out.size hs3) _, hB := by simp })
  clear hm2 hx2 hq2 hb3 HM1 HK1 HA1 HB2
  unfold Mq.val
  go_upto_region 6 with (fail)
  generalize w3.alloc (.cells #[.slice q2.A q2.n q2.c, .slice q2.P q2.m q2.d] 27) = W3 at HL0 ⊢
  generalize w3.heap.size = B at HL0 ⊢
  obtain ⟨⟨x0, x1⟩, x2, x3⟩ := HL0.out.cells
  have HSM := hide (sameMod_yes q1 q2 B B W3 HL0.out.m1 HL0.out.m2 HL0.out.hB HL0.out.hB (HQ1.out.1.trans HQ2.out.1.symm) (HQ1.out.2.trans HQ2.out.2.symm))
  obtain ⟨ok, hok⟩ : ∃ ok, (newR xs).isSome = ok := ⟨_, rfl⟩
  have hok2 : ok = nowV xs := by
    rw [← hok]
    rcases h : nowV xs with _ | _
    · rw [newR_no h]; rfl
    · rw [newR_yes h]; rfl
  have HOK := hide hok2
  rw [hok]
  clear hok hok2
  have hoo : (ok != ok) = false := by cases ok <;> rfl
  go_wp2_with fail
  refine HSM.out.mono ?_
  rintro e w4 ⟨rfl, hb4⟩
  have HL := hide (HL0.out.step hb4)
  clear hb4 HL0 x0 x1 x2 x3 HSM
  have hml : m ≤ 12 := hm
  obtain ⟨f12, hf12⟩ : ∃ f, ((m : Int) == 12) = f := ⟨_, rfl⟩
  have HF12 := hide (show fineN xs 0 = f12 from by
    unfold fineN
    rw [hxl.out, List.take_zero, ← hf12]
    rw [Bool.eq_iff_iff]
    simp [allN]
    omega)
  go_wp2_with fail
  clear hf12
  go_loop [8, 9] (fun f i => ∃ (k : Nat) (b : Bool), k ≤ m ∧ i = .int .i64 k ∧ f = .bool b ∧ Hid (fineN xs k = b)) (fun _ i => m - (intOf i).toNat)
  case atStart => exact ⟨0, f12, Nat.zero_le _, rfl, rfl, HF12⟩
  case round =>
    clear HF12
    obtain ⟨k, b, hk, rfl, rfl, HF⟩ := hrel
    by_cases hlt : k < m
    · have HS := hide (fineN_succ (xs := xs) (k := k) (by rw [hxl.out]; exact hlt))
      obtain ⟨ad, e1, _, hc1⟩ := HL.out.a.at_ hlt
      subst e1
      generalize xs.getD k 0 = x at hc1 HS
      have k0 : (0 : Int) ≤ (k : Int) := by omega
      have k1 : (k : Int) < (m : Int) := by omega
      rcases b with _ | _
      · have HF2 := hide (show fineN xs (k + 1) = false by rw [HS.out, HF.out]; rfl)
        go_wp2
        go_round
        case rel => exact ⟨k + 1, false, by omega, by go_num, rfl, HF2⟩
        case measure => simp [intOf]; omega
      · by_cases h0 : 0 ≤ x
        · have h0' : decide (0 ≤ x) = true := decide_eq_true h0
          by_cases h9 : x ≤ 99
          · have h9' : decide (x ≤ 99) = true := decide_eq_true h9
            have HF2 := hide (show fineN xs (k + 1) = true by rw [HS.out, HF.out, inB_true h0 h9]; rfl)
            go_wp2
            go_round
            case rel => exact ⟨k + 1, true, by omega, by go_num, rfl, HF2⟩
            case measure => simp [intOf]; omega
          · have h9' : decide (x ≤ 99) = false := decide_eq_false h9
            have HF2 := hide (show fineN xs (k + 1) = false by rw [HS.out, HF.out]; unfold inB; rw [h9']; simp)
            go_wp2
            go_round
            case rel => exact ⟨k + 1, false, by omega, by go_num, rfl, HF2⟩
            case measure => simp [intOf]; omega
        · have h0' : decide (0 ≤ x) = false := decide_eq_false h0
          have HF2 := hide (show fineN xs (k + 1) = false by rw [HS.out, HF.out]; unfold inB; rw [h0']; simp)
          go_wp2
          go_round
          case rel => exact ⟨k + 1, false, by omega, by go_num, rfl, HF2⟩
          case measure => simp [intOf]; omega
    · have hbk : b = ok := by
        rw [← HF.out, HOK.out, ← fineN_all, show k = xs.length from by rw [hxl.out]; omega]
      subst hbk
      obtain ⟨⟨x0, x1⟩, x2, x3⟩ := HL.out.cells
      rcases b with _ | _
      · go_wp2
        go_ret
        exact ⟨rfl, HL.out.below⟩
      · have hnv : nowV xs = true := HOK.out.symm
        have hq := HQ1.out
        rw [newR_yes hnv] at hq
        have hx1 : q1.xs = xs := hq.1
        have hv1 : vsN q1.qs = [xs] := hq.2
        obtain ⟨p, hp⟩ : ∃ p, q1.qs = [p] := by
          have h2 := congrArg List.length hv1
          rw [vsN_length] at h2
          exact List.length_eq_one_iff.1 h2
        have hpx : p.ps = xs := by
          rw [hp] at hv1
          simpa [vsN] using hv1
        have hm1 : q1.m = 1 := by rw [← HL.out.m1.past.1, hp]; rfl
        have hp0 : q1.qs[0]? = some p := by rw [hp]; rfl
        obtain ⟨ad, e1, _, hcp⟩ := HL.out.m1.past.at_ hp0
        have hcp0 : w4.cell? ad = some p.sl := hcp
        have hrow := HL.out.m1.past.row_ hp0
        rw [e1, hm1] at x1
        have hn1 : q1.n ≤ maxLen := by have := HL.out.m1.nc; omega
        have HS1 := hide fun (i : Nat) => sameInts_yes q1.A A1 q1.n q1.c m c1 B B q1.xs xs (w4.drewN i) (HL.out.m1.now.drewN i) (HL.out.a.drewN i) hn1 (by unfold maxLen; omega) hx1
        have HS2 := hide fun (i : Nat) => sameInts_yes p.addr A1 p.ps.length p.cap m c1 B B p.ps xs (w4.drewN i) (hrow.1.drewN i) (HL.out.a.drewN i) (by omega) (by unfold maxLen; omega) hpx
        unfold Nq.sl at hcp hcp0
        clear hnv hq hx1 hv1 hp hpx hm1 hp0 e1 hrow hn1
        go_wp2_with fail
        refine (HS1.out 0).mono ?_
        rintro e w5 ⟨rfl, z, rfl⟩
        go_wp2_with fail
        refine (HS2.out z).mono ?_
        rintro e w6 ⟨rfl, z2, rfl⟩
        go_wp2
        go_ret
        exact ⟨rfl, below_drewN HL.out.below (z + z2)⟩
end Go.Proofs.Ytiopbgenkalfaaa
