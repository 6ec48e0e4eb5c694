/-
  The program's ExtentsOf.
-/
import Derived.Test.YthpipgcgnhgphaaIterE
import Derived.Test.YthpipgcgnhgphaaSpecE4
import Derived.Test.YthpipgcgnhgphaaImpE2
import Derived.Test.YthpipgcgnhgphaaImpE4
namespace Go.Proofs.Ythpipgcgnhgphaa
open Go.RowKit Go.Shelf
set_option linter.unusedVariables false
set_option maxRecDepth 100000

theorem prevR_geE {bs : List Int} : ∀ k, asc 1 bs k = true → -1 ≤ prevR 1 bs k
  | 0, _ => Int.le_refl _
  | k + 1, h => by
    have hs : stepR 1 bs k = true := all_at h (Nat.lt_succ_self k)
    have h0 := prevR_geE k (all_of fun j hj => all_at h (Nat.lt_succ_of_lt hj))
    unfold stepR at hs
    rw [Bool.and_eq_true, decide_eq_true_eq, decide_eq_true_eq] at hs
    show -1 ≤ bs.getD (k * 1) 0
    omega
theorem asc_part (bs : List Int) : ∀ d k, d + k = bs.length → asc 1 bs bs.length = (asc 1 bs k && aB (prevR 1 bs k) (bs.drop k))
  | 0, k, h => by
    obtain rfl : k = bs.length := by omega
    rw [List.drop_of_length_le (Nat.le_refl _)]
    simp [aB]
  | d + 1, k, h => by
    have hk : k < bs.length := by omega
    rw [asc_part bs d (k + 1) (by omega), aB_step hk]
    have e1 : asc 1 bs (k + 1) = (asc 1 bs k && stepR 1 bs k) := by unfold asc; rw [all_succ]
    have e2 : prevR 1 bs (k + 1) = bs.getD k 0 := by show bs.getD (k * 1) 0 = _; rw [Nat.mul_one]
    rw [e1, e2]
    rcases ha : asc 1 bs k with _ | _
    · rfl
    · have h0 := prevR_geE k ha
      rw [Bool.true_and, Bool.true_and]
      congr 1
      unfold stepR
      rw [Nat.mul_one, Bool.eq_iff_iff, Bool.and_eq_true, Bool.and_eq_true, inB_iff, decide_eq_true_eq, decide_eq_true_eq]
      omega
theorem asc_okB (bs : List Int) : asc 1 bs bs.length = okB bs := by
  rw [asc_part bs bs.length 0 rfl]
  show (true && aB (-1) bs) = aB (-1) bs
  rw [Bool.true_and]

set_option maxHeartbeats 3200000 in
theorem implOf (X : Option Addr) (m d C : Nat) (bs : List Int) (w : World) (hx : Ints w C X m bs) (hC : C ≤ w.heap.size) (hm : m ≤ 1000000000) :
    Calls Try.prog 15 #[.slice X m d] w (ExPost w (okB bs) (ofB bs)) := by
  have HI := hide hx
  have hlen := hx.1
  have HAS := hide (callsIn_wide.1 (ascend_in _ _ (blocksOf 1 bs m) C m 4 (Nat.le_refl _) (w.alloc (.cells #[.slice X m d] 29)) (by simp; omega) (enters_of Try.func38 (by kernel_rfl) rfl)
    (values_stops X m d 3 w.heap.size C bs _ (by omega) (by simp) (by simp; omega) ((Blk.new w 29 #[.slice X m d]).cell 0) (hx.alloc hC _) (by omega))))
  rw [blocksOf_length, blocksOf_one hlen] at HAS
  have eA : asc 1 bs m = okB bs := by rw [← hlen]; exact asc_okB bs
  rw [eA] at HAS
  clear hx eA
  rcases hv : okB bs with _ | _
  · have HE := hide (show ofB bs = [] by unfold ofB; rw [hv]; rfl)
    rw [hv] at HAS
    clear hv
    go_enter Try.func15, Try.ntmps15
    go_wp2_with fail
    refine (values_any X m d _).mono ?_
    rintro e w1 ⟨rfl, rfl⟩
    go_wp2_with fail
    refine HAS.out.mono ?_
    rintro e w2 ⟨rfl, hb2⟩
    have HB2 := hide ((below_new w _).trans (hb2.mono (by simp)))
    clear hb2
    go_wp2
    go_ret2
    exact ⟨_, _, _, rfl, by rw [HE.out]; exact ⟨rfl, OwnR.nil_ _ _ _ _⟩, HB2.out⟩
  · have HE := hide (show ofB bs = R (hasB bs) by unfold ofB; rw [hv]; rfl)
    have HAL := hide (aB_all (show aB (-1) bs = true from hv))
    rw [hv] at HAS
    clear hv
    go_enter Try.func15, Try.ntmps15
    go_wp2_with fail
    refine (values_any X m d _).mono ?_
    rintro e w1 ⟨rfl, rfl⟩
    go_wp2_with fail
    refine HAS.out.mono ?_
    rintro e w2 ⟨rfl, hb2⟩
    have HB2 := hide ((below_new w _).trans (hb2.mono (by simp)))
    clear hb2 HAS
    have hs2 := HB2.out.size
    have HCN := hide (Chn.new w2 w.heap.size hs2)
    have HBN := hide (HB2.out.alloc hs2 (.cells #[.pointer none] 55))
    go_wp2_with fail
    obtain ⟨g, hg⟩ : ∃ g, w2.heap.size = g := ⟨_, rfl⟩
    rw [hg] at HCN
    try rw [hg]
    generalize hw3 : w2.alloc (.cells #[.pointer none] 55) = w3 at HCN HBN ⊢
    go_loopw [14] (fun i wr => ∃ (k : Nat), k ≤ m ∧ i = .int .i64 k ∧ Hid (∃ ns : Nds, Chn wr w.heap.size g ns ∧ exs ns = R (hasB (bs.take k))) ∧ Hid (Below w.heap.size w wr)) (fun i _ => m - (intOf i).toNat)
    case atStart => exact ⟨0, Nat.zero_le _, rfl, ⟨[], HCN.out, show ([] : Exs) = R (hasB []) by decide⟩, HBN.out⟩
    case round =>
      clear HCN HBN HB2 hw3
      obtain ⟨k, hk, rfl, HC, HB⟩ := hrel
      have hsz := HB.out.size
      by_cases hlt : k < m
      · obtain ⟨ns, hc, he⟩ := HC.out
        have hlk : k < bs.length := by omega
        obtain ⟨x, hx⟩ : ∃ x, bs[k]? = some x := ⟨_, List.getElem?_eq_getElem hlk⟩
        obtain ⟨h1, h2, h3⟩ := HAL.out x (List.mem_of_getElem? hx)
        obtain ⟨ad, rfl, hb, hc0⟩ := (HI.out.below HB.out hC).at_ hlt
        rw [show bs.getD k 0 = x by simp [List.getD, hx]] at hc0
        have HJ := hide (join_any w.heap.size g ns x (x + 1) wr hc (by rw [he]; exact R_val _) h2 (by omega) (by omega))
        rw [he, of_take hx] at HJ
        have y1 : IntKind.i64.wrap (x + 1) = x + 1 := IntWalk.i64_in _ (by omega)
        have k0 : (0 : Int) ≤ (k : Int) := by omega
        have k1 : (k : Int) < (m : Int) := by omega
        clear hx hc he hlk h1 HC
        go_wp2_with fail
        refine HJ.out.mono ?_
        rintro e w4 ⟨rfl, ns4, hc4, he4, hb4⟩
        have HC4 : Hid (∃ ns : Nds, Chn w4 w.heap.size g ns ∧ exs ns = R (hasB (bs.take (k + 1)))) := ⟨ns4, hc4, he4⟩
        have HB4 := hide (HB.out.trans hb4)
        clear hc4 he4 hb4
        go_wp2
        go_roundw
        case rel => exact ⟨k + 1, by omega, by go_num, HC4.out, HB4.out⟩
        case measure => simp [intOf]; omega
      · obtain rfl : k = m := by omega
        obtain ⟨ns, hc, he⟩ := HC.out
        rw [List.take_of_length_le (by omega), ← HE.out] at he
        have HX := hide (he ▸ extents_any w.heap.size g ns wr hc (by rw [he]; exact ofB_val bs))
        clear hc HC
        go_wp2_with fail
        refine HX.out.mono ?_
        rintro e w4 ⟨A2, n2, c2, rfl, ho4, hb4⟩
        have HO4 := hide (ho4.mono hsz)
        have HB4 := hide (HB.out.trans (hb4.mono hsz))
        clear ho4 hb4
        go_wp2
        go_ret2
        exact ⟨_, _, _, rfl, HO4.out, HB4.out⟩
end Go.Proofs.Ythpipgcgnhgphaa
