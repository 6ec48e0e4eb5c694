/-
  The model's ExtentsOf, ExtentsBlocks.
-/
import Derived.Test.YthpipgcgnhgphaaSpecE3
namespace Go.Proofs.Ythpipgcgnhgphaa
open Go.RowKit
set_option linter.unusedVariables false
set_option maxRecDepth 100000

def ExPost (w : World) (v : Bool) (es : Exs) (e : Ending) (w' : World) : Prop :=
  ∃ A2 n2 c2, e = .returned (.tuple #[.slice A2 n2 c2, .bool v]) ∧ ExR w' w.heap.size A2 n2 c2 es ∧ Below w.heap.size w w'
theorem hasB_take (xs : List Int) (k : Nat) (n : Int) (h : k < xs.length) : hasB (xs.take (k + 1)) n = (if n = xs.getD k 0 then true else hasB (xs.take k) n) := by
  have e : xs.getD k 0 = xs[k] := by simp [List.getD, h]
  have h2 : hasB (xs.take (k + 1)) n = (hasB (xs.take k) n || (xs[k] == n)) := by
    unfold hasB
    rw [List.take_succ_eq_append_getElem h, List.contains_eq_any_beq, List.contains_eq_any_beq, List.any_append]
    simp [Bool.beq_comm (a := n)]
  rw [h2, e]
  by_cases hn : n = xs[k]
  · rw [if_pos hn, hn]; simp
  · rw [if_neg hn]
    have : (xs[k] == n) = false := by simpa using fun e => hn e.symm
    rw [this, Bool.or_false]
theorem aB_step {xs : List Int} {k : Nat} (h : k < xs.length) (l : Int) : aB l (xs.drop k) = (inB (xs.getD k 0) 0 11 && decide (l < xs.getD k 0) && aB (xs.getD k 0) (xs.drop (k + 1))) := by
  have e : xs.getD k 0 = xs[k] := by simp [List.getD, h]
  rw [e, List.drop_eq_getElem_cons h]
  rfl
/-- the block ahead of block k, or -1 -/
def prevB (bs : List Int) (k : Nat) : Int := if k = 0 then -1 else bs.getD (k - 1) 0

set_option maxHeartbeats 6400000 in
theorem specOf (X : Option Addr) (m d C : Nat) (bs : List Int) (w : World) (hx : Ints w C X m bs) (hC : C ≤ w.heap.size) (hm : m ≤ 1000000000000) :
    Calls Try.prog 13 #[.slice X m d] w (ExPost w (okB bs) (ofB bs)) := by
  obtain ⟨i0, hi, hz0, hz1, hz2⟩ := info_parts info_bool
  have HX := hide hx
  have HL := hide hx.1
  clear hx
  go_enter Try.func13, Try.ntmps13
  go_wp2_with (at_make; refine wpList_make_full _ rfl _ _ 46 rfl w.heap.size 4 i0 (.bool false) 1 Try.underlying46 hi hz0 hz1 .i64 .i64 _ _ 12 rfl rfl rfl rfl (by rw [hz2]; omega) (by unfold maxLen; omega) (Nat.le_refl _) ?_; intro w1 hown hgrow; rw [made12] at hown)
  have HO0 : Hid (OwnM w1 w.heap.size w.heap.size (fun _ => false)) := hown
  have HB0 := hide (below_of_grown hgrow)
  clear hown hgrow hi hz0 hz1 hz2
  go_loopw [5] (fun i wr => ∃ (k : Nat), k ≤ m ∧ i = .int .i64 k ∧ Hid (okB bs = aB (prevB bs k) (bs.drop k)) ∧ Hid (OwnM wr w.heap.size w.heap.size (hasB (bs.take k))) ∧ Hid (Below w.heap.size w wr)) (fun i _ => m - (intOf i).toNat)
  case atStart => exact ⟨0, Nat.zero_le _, rfl, rfl, HO0.out, HB0.out⟩
  case round =>
    clear HO0 HB0
    obtain ⟨k, hk, rfl, HA, HO, HB⟩ := hrel
    have hsz := HB.out.size
    by_cases hlt : k < m
    · have HS := hide (HA.out.trans (aB_step (by rw [HL.out]; exact hlt) (prevB bs k)))
      have HT := hide (fun n => hasB_take bs k n (by rw [HL.out]; exact hlt))
      have hX := HX.out.below HB.out hC
      obtain ⟨ad, rfl, hb, hc⟩ := hX.at_ hlt
      have k0 : (0 : Int) ≤ (k : Int) := by omega
      have k1 : (k : Int) < (m : Int) := by omega
      have HPV : Hid (k + 1 = 0 ∨ prevB bs (k + 1) = bs.getD k 0) := by right; unfold prevB; rw [if_neg (by omega)]; rfl
      have HPK : Hid (∀ K1, k = K1 + 1 → prevB bs k = bs.getD K1 0) := fun K1 h => by subst h; unfold prevB; rw [if_neg (by omega)]; rfl
      have HPZ : Hid (k = 0 → prevB bs k = -1) := fun h => by unfold prevB; rw [if_pos h]
      have HCC : Hid (∀ K1, K1 < m → wr.cell? (ad.add K1) = some (.int .i64 (bs.getD K1 0))) := fun K1 h => by
        obtain ⟨ad', e, _, hc'⟩ := hX.at_ h
        injection e with e
        subst e
        exact hc'
      generalize bs.getD k 0 = b at hc HS HT HPV
      generalize prevB bs k = pv at HS HPK HPZ
      have BAD : Hid (okB bs = false → ∀ w8, Below w.heap.size w w8 → Below w.heap.size w (w8.alloc (.cells #[] 42)) ∧ ExR (w8.alloc (.cells #[] 42)) w.heap.size (some ⟨w8.heap.size, 0, none⟩) 0 0 (ofB bs)) := fun h w8 h8 => by
        refine ⟨h8.alloc h8.size _, ?_⟩
        unfold ofB
        rw [h]
        exact ExR.lit0 w8 _ h8.size
      clear hX HA
      rcases h1 : inB b 0 11 with _ | _
      · have H1 := hide h1
        have HNO := hide (show okB bs = false by rw [HS.out, h1]; rfl)
        clear h1
        go_wp2_with fail
        go_quiet ((go_at_call 27; exact quiet_in (in_no _ _ _ _ H1.out)))
        go_wp2
        go_ret2
        exact ⟨_, _, _, by rw [HNO.out]; rfl, (BAD.out HNO.out _ (below_drewN HB.out _)).2, (BAD.out HNO.out _ (below_drewN HB.out _)).1⟩
      · obtain ⟨b0, b1⟩ := inB_iff.1 h1
        have H1 := hide h1
        clear h1
        obtain ⟨b', rfl⟩ := Int.eq_ofNat_of_zero_le b0
        have hb12 : b' < 12 := by omega
        have GO : Hid (pv < (b' : Int) → okB bs = aB (prevB bs (k + 1)) (bs.drop (k + 1))) := fun h => by
          rw [HS.out, H1.out, decide_eq_true h]
          rcases HPV.out with h0 | h0
          · omega
          · rw [h0]; rfl
        have PUT : Hid (∀ z, (wr.drewN z).cell? ⟨w.heap.size, b', none⟩ = some (.bool (hasB (bs.take k) (b' : Int))) ∧ (wr.drewN z).frozen? ⟨w.heap.size, b', none⟩ = false ∧
            OwnM ((wr.drewN z).setCell ⟨w.heap.size, b', none⟩ (.bool true)) w.heap.size w.heap.size (hasB (bs.take (k + 1))) ∧ Below w.heap.size w ((wr.drewN z).setCell ⟨w.heap.size, b', none⟩ (.bool true))) := fun z => by
          have hO : OwnM (wr.drewN z) w.heap.size w.heap.size (hasB (bs.take k)) := HO.out
          have hp := hO.put hb12 true
          exact ⟨hO.cell hb12, hO.free b', hp.1.ext (fun i _ => (HT.out i).symm), (below_drewN HB.out z).grown hp.2 hsz (fun g hg => by injection hg with hg; omega)⟩
        have bb0 : (0 : Int) ≤ (b' : Int) := by omega
        have bb1 : (b' : Int) < 12 := by omega
        generalize hasB (bs.take k) (b' : Int) = y at PUT
        by_cases hk0 : k = 0
        · have hpv := HPZ.out hk0
          subst hk0
          have HG := hide (GO.out (by omega))
          have hca : wr.cell? ad = some (.int .i64 (b' : Int)) := by simpa [Addr.add] using hc
          go_wp2_with fail
          go_quiet ((go_at_call 27; exact quiet_in (in_yes _ _ _ _ H1.out)))
          have hc2 : (wr.drewN nq).cell? (ad) = some (.int .i64 (b' : Int)) := hca
          obtain ⟨hp1, hp2, hp3, hp4⟩ := PUT.out nq
          have HP3 := hide hp3
          have HP4 := hide hp4
          clear hp3 hp4 PUT BAD
          generalize wr.drewN nq = wq at hp1 hp2 HP3 HP4 hc2 ⊢
          go_wp2
          go_roundw
          case rel => exact ⟨0 + 1, by omega, by go_num, HG.out, HP3.out, HP4.out⟩
          case measure => simp [intOf]; omega
        · obtain ⟨K1, hK1⟩ : ∃ K1 : Nat, k = K1 + 1 := ⟨k - 1, by omega⟩
          have hpv := HPK.out K1 hK1
          have hd := HCC.out K1 (by omega)
          rw [← hpv] at hd
          have hK1i : (k : Int) - 1 = (K1 : Int) := by omega
          have kk0 : (0 : Int) ≤ (K1 : Int) := by omega
          have kk1 : (K1 : Int) < (m : Int) := by omega
          have kk2 : (0 : Int) < (k : Int) := by omega
          have kk3 : 0 < k := by omega
          have wK : IntKind.i64.wrap (K1 : Int) = (K1 : Int) := IntWalk.i64_in _ (by omega)
          clear hpv hK1
          by_cases hlt2 : pv < (b' : Int)
          · have HG := hide (GO.out hlt2)
            have hge : decide ((b' : Int) ≤ pv) = false := decide_eq_false (by omega)
            go_wp2_with fail
            go_quiet ((go_at_call 27; exact quiet_in (in_yes _ _ _ _ H1.out)))
            have hc2 : (wr.drewN nq).cell? (ad.add k) = some (.int .i64 (b' : Int)) := hc
            obtain ⟨hp1, hp2, hp3, hp4⟩ := PUT.out nq
            have HP3 := hide hp3
            have HP4 := hide hp4
            clear hp3 hp4 PUT BAD
            generalize wr.drewN nq = wq at hp1 hp2 HP3 HP4 hc2 ⊢
            go_wp2
            go_roundw
            case rel => exact ⟨k + 1, by omega, by go_num, HG.out, HP3.out, HP4.out⟩
            case measure => simp [intOf]; omega
          · have HNO := hide (show okB bs = false by rw [HS.out, H1.out, decide_eq_false hlt2]; rfl)
            have hge : decide ((b' : Int) ≤ pv) = true := decide_eq_true (by omega)
            go_wp2_with fail
            go_quiet ((go_at_call 27; exact quiet_in (in_yes _ _ _ _ H1.out)))
            go_wp2
            go_ret2
            exact ⟨_, _, _, by rw [HNO.out]; rfl, (BAD.out HNO.out _ (below_drewN HB.out _)).2, (BAD.out HNO.out _ (below_drewN HB.out _)).1⟩
    · obtain rfl : k = m := by omega
      have HO2 := hide HO.out
      rw [List.take_of_length_le (by rw [HL.out]; exact Nat.le_refl _)] at HO2
      have HOK := hide (show okB bs = true by rw [HA.out, List.drop_of_length_le (by rw [HL.out]; exact Nat.le_refl _)]; rfl)
      have HRD := hide HO2.out.rdm
      go_wp2_with fail
      refine (specExts w.heap.size _ (hasB bs) _ HRD.out (Nat.le_refl _)).mono ?_
      rintro e w2 ⟨A2, n2, c2, rfl, ho, hb⟩
      have HO3 := hide (ho.mono hsz)
      have HB3 := hide (HB.out.trans (hb.mono hsz))
      clear ho hb
      go_wp2
      go_ret2
      exact ⟨_, _, _, by rw [HOK.out]; rfl, by unfold ofB; rw [HOK.out]; exact HO3.out, HB3.out⟩
end Go.Proofs.Ythpipgcgnhgphaa
