/-
  The program's chainOf, ExtentsJoin and ExtentsWithout.
-/
import Derived.Test.YthpipgcgnhgphaaSpecE4
import Derived.Test.YthpipgcgnhgphaaImpE2
import Derived.Test.YthpipgcgnhgphaaImpE3
import Derived.Test.YthpipgcgnhgphaaImpE4
import Derived.Test.YthpipgcgnhgphaaImpE5
namespace Go.Proofs.Ythpipgcgnhgphaa
open Go.RowKit
set_option linter.unusedVariables false
set_option maxRecDepth 100000

theorem R_start (es : Exs) : ([] : Exs) = R (fun i => inE [] i || inE (es.take 0) i) := by
  show ([] : Exs) = R (fun i => inE [] i || inE [] i)
  decide
theorem R_all {es : Exs} (h : exV es = true) {n : Nat} (hn : es.length = n) : R (fun i => inE [] i || inE (es.take n) i) = es := by
  rw [List.take_of_length_le (by omega)]
  refine Eq.trans (R_congr fun b _ _ => ?_) (R_self h)
  rfl
/-- a chain, and whether there is one -/
def ChainPost (w : World) (v : Bool) (es : Exs) (e : Ending) (w' : World) : Prop :=
  ∃ q, e = .returned (.tuple #[.pointer q, .bool v]) ∧ Below w.heap.size w w' ∧ (v = true → ∃ g ns, q = some ⟨g, 0, none⟩ ∧ Chn w' w.heap.size g ns ∧ exs ns = es)

set_option maxHeartbeats 3200000 in
theorem chainOf_any (A : Option Addr) (n c B : Nat) (es : Exs) (w : World) (hr : ExI w B A n es) (hB : B ≤ w.heap.size) (hn : n ≤ 1000000000) (hg : Rg es) :
    Calls Try.prog 36 #[.slice A n c] w (ChainPost w (exV es) es) := by
  have HR := hide hr
  have HV := hide (implEV A n c B es w hr hB hn hg)
  clear hr hg
  rcases hv : exV es with _ | _
  · rw [hv] at HV
    clear hv
    go_enter Try.func36, Try.ntmps36
    go_wp2_with fail
    refine HV.out.mono ?_
    rintro e w2 ⟨rfl, hb2⟩
    have HB2 := hide hb2
    clear hb2
    go_wp2
    go_ret2
    exact ⟨_, rfl, HB2.out, fun h => by cases h⟩
  · rw [hv] at HV
    have HVV := hide hv
    clear hv
    go_enter Try.func36, Try.ntmps36
    go_wp2_with fail
    refine HV.out.mono ?_
    rintro e w2 ⟨rfl, hb2⟩
    have HB2 := hide hb2
    clear hb2 HV
    have hs2 := HB2.out.size
    have HCN := hide (Chn.new w2 w.heap.size hs2)
    have HBN := hide (HB2.out.alloc hs2 (.cells #[.pointer none] 55))
    go_wp2_with fail
    obtain ⟨g, hg⟩ : ∃ g, w2.heap.size = g := ⟨_, rfl⟩
    rw [hg] at HCN
    try rw [hg]
    generalize hw3 : w2.alloc (.cells #[.pointer none] 55) = w3 at HCN HBN ⊢
    go_loopw [13] (fun i wr => ∃ (k : Nat), k ≤ n ∧ i = .int .i64 k ∧ Hid (∃ ns : Nds, Chn wr w.heap.size g ns ∧ exs ns = R (fun i => inE [] i || inE (es.take k) i)) ∧ Hid (Below w.heap.size w wr)) (fun i _ => n - (intOf i).toNat)
    case atStart => exact ⟨0, Nat.zero_le _, rfl, ⟨[], HCN.out, R_start es⟩, HBN.out⟩
    case round =>
      clear HCN HBN HB2 hw3
      obtain ⟨k, hk, rfl, HC, HB⟩ := hrel
      have hsz := HB.out.size
      by_cases hlt : k < n
      · obtain ⟨ns, hc, he⟩ := HC.out
        obtain ⟨x, hx⟩ : ∃ x, es[k]? = some x := ⟨_, List.getElem?_eq_getElem (by rw [HR.out.1]; exact hlt)⟩
        obtain ⟨h1, h2, h3⟩ := vE_far (show vE 0 es = true from HVV.out) x (List.mem_of_getElem? hx)
        obtain ⟨ad, p, rfl, hp, hbl, hc0, hc1⟩ := (HR.out.below HB.out hB).at_ hx
        have HBA := hide (HB.out.alloc hsz (.cells #[.int .i64 x.1, .int .i64 x.2] 42))
        have HJ := hide (join_any w.heap.size g ns x.1 (x.1 + x.2) _ (hc.alloc (.cells #[.int .i64 x.1, .int .i64 x.2] 42)) (by rw [he]; exact R_val _) h1 (by omega) h3)
        rw [he, join_take hx] at HJ
        obtain ⟨f, m⟩ := x
        simp only at hc0 hc1 HJ h1 h2 h3 HBA
        have y1 : IntKind.i64.wrap (f + m) = f + m := IntWalk.i64_in _ (by omega)
        have k0 : (0 : Int) ≤ (k : Int) := by omega
        have k1 : (k : Int) < (n : Int) := by omega
        clear hx hc he h1 HC
        go_wp2_with fail
        refine HJ.out.mono ?_
        rintro e w4 ⟨rfl, ns4, hc4, he4, hb4⟩
        have HC4 : Hid (∃ ns : Nds, Chn w4 w.heap.size g ns ∧ exs ns = R (fun i => inE [] i || inE (es.take (k + 1)) i)) := ⟨ns4, hc4, he4⟩
        have HB4 := hide (HBA.out.trans hb4)
        clear hc4 he4 hb4
        go_wp2
        go_roundw
        case rel => exact ⟨k + 1, by omega, by go_num, HC4.out, HB4.out⟩
        case measure => simp [intOf]; omega
      · obtain rfl : k = n := by omega
        obtain ⟨ns, hc, he⟩ := HC.out
        rw [R_all HVV.out HR.out.1] at he
        have HE := hide (And.intro hc he)
        clear hc he HC
        go_wp2
        go_ret2
        exact ⟨_, rfl, HB.out, fun _ => ⟨g, ns, rfl, HE.out.1, HE.out.2⟩⟩

set_option maxHeartbeats 3200000 in
theorem implJoin (A A' : Option Addr) (n c n' c' B B' : Nat) (es fs : Exs) (w : World) (hr : ExI w B A n es) (hB : B ≤ w.heap.size) (hn : n ≤ 1000000000) (hr' : ExI w B' A' n' fs) (hB' : B' ≤ w.heap.size) (hn' : n' ≤ 1000000000) (hg : Rg es) (hg' : Rg fs) :
    Calls Try.prog 24 #[.slice A n c, .slice A' n' c'] w (ExPost w (bothV es fs) (joinE es fs)) := by
  have HR := hide hr'
  have HCO := hide (chainOf_any A n c B es w hr hB hn hg)
  have HG := hide hg'
  clear hr hr' hg hg'
  rcases hv : exV es with _ | _
  · have e1 : bothV es fs = false := by unfold bothV; rw [hv]; rfl
    have e2 : joinE es fs = [] := by unfold joinE; rw [hv]; rfl
    rw [e1, e2]
    rw [hv] at HCO
    clear hv e1 e2
    go_enter Try.func24, Try.ntmps24
    go_wp2_with fail
    refine HCO.out.mono ?_
    rintro e w2 ⟨q, rfl, hb2, _⟩
    have HB2 := hide hb2
    clear hb2
    go_wp2
    go_ret2
    exact ⟨_, _, _, rfl, ⟨rfl, OwnR.nil_ _ _ _ _⟩, HB2.out⟩
  · have HVE := hide hv
    rw [hv] at HCO
    rcases hv' : exV fs with _ | _
    · have e1 : bothV es fs = false := by unfold bothV; rw [hv, hv']; rfl
      have e2 : joinE es fs = [] := by unfold joinE; rw [hv, hv']; rfl
      rw [e1, e2]
      have HVF := hide hv'
      clear hv hv' e1 e2
      go_enter Try.func24, Try.ntmps24
      go_wp2_with fail
      refine HCO.out.mono ?_
      rintro e w2 ⟨q, rfl, hb2, hch⟩
      obtain ⟨g, ns, rfl, hc, he⟩ := hch rfl
      have HB2 := hide hb2
      have HV2 := hide (implEV A' n' c' B' fs w2 (HR.out.below hb2 hB') (Nat.le_trans hB' hb2.size) hn' HG.out)
      rw [HVF.out] at HV2
      clear hb2 hch hc he HCO
      go_wp2_with fail
      refine HV2.out.mono ?_
      rintro e w3 ⟨rfl, hb3⟩
      have HB3 := hide (HB2.out.trans (hb3.mono HB2.out.size))
      clear hb3
      go_wp2
      go_ret2
      exact ⟨_, _, _, rfl, ⟨rfl, OwnR.nil_ _ _ _ _⟩, HB3.out⟩
    · have e1 : bothV es fs = true := by unfold bothV; rw [hv, hv']; rfl
      have HED := hide (show joinE es fs = R (fun i => inE es i || inE fs i) by unfold joinE; rw [hv, hv']; rfl)
      rw [e1]
      have HVF := hide hv'
      clear hv hv' e1
      go_enter Try.func24, Try.ntmps24
      go_wp2_with fail
      refine HCO.out.mono ?_
      rintro e w2 ⟨q, rfl, hb2, hch⟩
      obtain ⟨g, ns, rfl, hc, he⟩ := hch rfl
      have HB2 := hide hb2
      have HC2 := hide (And.intro hc he)
      have HV2 := hide (implEV A' n' c' B' fs w2 (HR.out.below hb2 hB') (Nat.le_trans hB' hb2.size) hn' HG.out)
      rw [HVF.out] at HV2
      clear hb2 hch hc he HCO
      go_wp2_with fail
      refine HV2.out.mono ?_
      rintro e w3 ⟨rfl, hb3⟩
      have HB3 := hide (HB2.out.trans (hb3.mono HB2.out.size))
      have HC3 := hide (HC2.out.1.below hb3)
      have HEX := hide HC2.out.2
      clear hb3 HV2 HC2 HB2
      go_wp2_with fail
      go_loopw [24] (fun i wr => ∃ (k : Nat), k ≤ n' ∧ i = .int .i64 k ∧ Hid (∃ ns : Nds, Chn wr w.heap.size g ns ∧ exs ns = R (fun i => inE es i || inE (fs.take k) i)) ∧ Hid (Below w.heap.size w wr)) (fun i _ => n' - (intOf i).toNat)
      case atStart => exact ⟨0, Nat.zero_le _, rfl, ⟨ns, HC3.out, by rw [HEX.out]; exact (join_zero HVE.out _ (fun _ => rfl)).symm⟩, HB3.out⟩
      case round =>
        clear HC3 HB3 HEX
        obtain ⟨k, hk, rfl, HC, HB⟩ := hrel
        have hsz := HB.out.size
        by_cases hlt : k < n'
        · obtain ⟨ns, hc, he⟩ := HC.out
          obtain ⟨x, hx⟩ : ∃ x, fs[k]? = some x := ⟨_, List.getElem?_eq_getElem (by rw [HR.out.1]; exact hlt)⟩
          obtain ⟨h1, h2, h3⟩ := vE_far (show vE 0 fs = true from HVF.out) x (List.mem_of_getElem? hx)
          obtain ⟨ad, p, rfl, hp, hbl, hc0, hc1⟩ := (HR.out.below HB.out hB').at_ hx
          have HBA := hide (HB.out.alloc hsz (.cells #[.int .i64 x.1, .int .i64 x.2] 42))
          have HJ := hide (join_any w.heap.size g ns x.1 (x.1 + x.2) _ (hc.alloc (.cells #[.int .i64 x.1, .int .i64 x.2] 42)) (by rw [he]; exact R_val _) h1 (by omega) h3)
          rw [he, join_take hx] at HJ
          obtain ⟨f, m⟩ := x
          simp only at hc0 hc1 HJ h1 h2 h3 HBA
          have y1 : IntKind.i64.wrap (f + m) = f + m := IntWalk.i64_in _ (by omega)
          have k0 : (0 : Int) ≤ (k : Int) := by omega
          have k1 : (k : Int) < (n' : Int) := by omega
          clear hx hc he h1 HC
          go_wp2_with fail
          refine HJ.out.mono ?_
          rintro e w4 ⟨rfl, ns4, hc4, he4, hb4⟩
          have HC4 : Hid (∃ ns : Nds, Chn w4 w.heap.size g ns ∧ exs ns = R (fun i => inE es i || inE (fs.take (k + 1)) i)) := ⟨ns4, hc4, he4⟩
          have HB4 := hide (HBA.out.trans hb4)
          clear hc4 he4 hb4
          go_wp2
          go_roundw
          case rel => exact ⟨k + 1, by omega, by go_num, HC4.out, HB4.out⟩
          case measure => simp [intOf]; omega
        · obtain rfl : k = n' := by omega
          obtain ⟨ns, hc, he⟩ := HC.out
          rw [List.take_of_length_le (by rw [HR.out.1]; exact Nat.le_refl _), ← HED.out] at he
          have HX := hide (he ▸ extents_any w.heap.size g ns wr hc (by rw [he, HED.out]; exact R_val _))
          clear hc HC
          go_wp2_with fail
          refine HX.out.mono ?_
          rintro e w4 ⟨A2, n2, c2, rfl, ho4, hb4⟩
          have HO4 := hide (ho4.mono hsz)
          have HB4 := hide (HB.out.trans (hb4.mono hsz))
          clear ho4 hb4
          go_wp2
          go_ret2
          exact ⟨_, _, _, rfl, HO4.out, HB4.out⟩

set_option maxHeartbeats 3200000 in
theorem implLess (A A' : Option Addr) (n c n' c' B B' : Nat) (es fs : Exs) (w : World) (hr : ExI w B A n es) (hB : B ≤ w.heap.size) (hn : n ≤ 1000000000) (hr' : ExI w B' A' n' fs) (hB' : B' ≤ w.heap.size) (hn' : n' ≤ 1000000000) (hg : Rg es) (hg' : Rg fs) :
    Calls Try.prog 26 #[.slice A n c, .slice A' n' c'] w (ExPost w (bothV es fs) (lessE es fs)) := by
  have HR := hide hr'
  have HCO := hide (chainOf_any A n c B es w hr hB hn hg)
  have HG := hide hg'
  clear hr hr' hg hg'
  rcases hv : exV es with _ | _
  · have e1 : bothV es fs = false := by unfold bothV; rw [hv]; rfl
    have e2 : lessE es fs = [] := by unfold lessE; rw [hv]; rfl
    rw [e1, e2]
    rw [hv] at HCO
    clear hv e1 e2
    go_enter Try.func26, Try.ntmps26
    go_wp2_with fail
    refine HCO.out.mono ?_
    rintro e w2 ⟨q, rfl, hb2, _⟩
    have HB2 := hide hb2
    clear hb2
    go_wp2
    go_ret2
    exact ⟨_, _, _, rfl, ⟨rfl, OwnR.nil_ _ _ _ _⟩, HB2.out⟩
  · have HVE := hide hv
    rw [hv] at HCO
    rcases hv' : exV fs with _ | _
    · have e1 : bothV es fs = false := by unfold bothV; rw [hv, hv']; rfl
      have e2 : lessE es fs = [] := by unfold lessE; rw [hv, hv']; rfl
      rw [e1, e2]
      have HVF := hide hv'
      clear hv hv' e1 e2
      go_enter Try.func26, Try.ntmps26
      go_wp2_with fail
      refine HCO.out.mono ?_
      rintro e w2 ⟨q, rfl, hb2, hch⟩
      obtain ⟨g, ns, rfl, hc, he⟩ := hch rfl
      have HB2 := hide hb2
      have HV2 := hide (implEV A' n' c' B' fs w2 (HR.out.below hb2 hB') (Nat.le_trans hB' hb2.size) hn' HG.out)
      rw [HVF.out] at HV2
      clear hb2 hch hc he HCO
      go_wp2_with fail
      refine HV2.out.mono ?_
      rintro e w3 ⟨rfl, hb3⟩
      have HB3 := hide (HB2.out.trans (hb3.mono HB2.out.size))
      clear hb3
      go_wp2
      go_ret2
      exact ⟨_, _, _, rfl, ⟨rfl, OwnR.nil_ _ _ _ _⟩, HB3.out⟩
    · have e1 : bothV es fs = true := by unfold bothV; rw [hv, hv']; rfl
      have HED := hide (show lessE es fs = R (fun i => inE es i && !inE fs i) by unfold lessE; rw [hv, hv']; rfl)
      rw [e1]
      have HVF := hide hv'
      clear hv hv' e1
      go_enter Try.func26, Try.ntmps26
      go_wp2_with fail
      refine HCO.out.mono ?_
      rintro e w2 ⟨q, rfl, hb2, hch⟩
      obtain ⟨g, ns, rfl, hc, he⟩ := hch rfl
      have HB2 := hide hb2
      have HC2 := hide (And.intro hc he)
      have HV2 := hide (implEV A' n' c' B' fs w2 (HR.out.below hb2 hB') (Nat.le_trans hB' hb2.size) hn' HG.out)
      rw [HVF.out] at HV2
      clear hb2 hch hc he HCO
      go_wp2_with fail
      refine HV2.out.mono ?_
      rintro e w3 ⟨rfl, hb3⟩
      have HB3 := hide (HB2.out.trans (hb3.mono HB2.out.size))
      have HC3 := hide (HC2.out.1.below hb3)
      have HEX := hide HC2.out.2
      clear hb3 HV2 HC2 HB2
      go_wp2_with fail
      go_loopw [24] (fun i wr => ∃ (k : Nat), k ≤ n' ∧ i = .int .i64 k ∧ Hid (∃ ns : Nds, Chn wr w.heap.size g ns ∧ exs ns = R (fun i => inE es i && !inE (fs.take k) i)) ∧ Hid (Below w.heap.size w wr)) (fun i _ => n' - (intOf i).toNat)
      case atStart => exact ⟨0, Nat.zero_le _, rfl, ⟨ns, HC3.out, by rw [HEX.out]; exact (cut_zero HVE.out _ (fun _ => rfl)).symm⟩, HB3.out⟩
      case round =>
        clear HC3 HB3 HEX
        obtain ⟨k, hk, rfl, HC, HB⟩ := hrel
        have hsz := HB.out.size
        by_cases hlt : k < n'
        · obtain ⟨ns, hc, he⟩ := HC.out
          obtain ⟨x, hx⟩ : ∃ x, fs[k]? = some x := ⟨_, List.getElem?_eq_getElem (by rw [HR.out.1]; exact hlt)⟩
          obtain ⟨h1, h2, h3⟩ := vE_far (show vE 0 fs = true from HVF.out) x (List.mem_of_getElem? hx)
          obtain ⟨ad, p, rfl, hp, hbl, hc0, hc1⟩ := (HR.out.below HB.out hB').at_ hx
          have HBA := hide (HB.out.alloc hsz (.cells #[.int .i64 x.1, .int .i64 x.2] 42))
          have HJ := hide (cut_any w.heap.size g ns x.1 (x.1 + x.2) _ (hc.alloc (.cells #[.int .i64 x.1, .int .i64 x.2] 42)) (by rw [he]; exact R_val _) h1 (by omega))
          rw [he, cut_take hx] at HJ
          obtain ⟨f, m⟩ := x
          simp only at hc0 hc1 HJ h1 h2 h3 HBA
          have y1 : IntKind.i64.wrap (f + m) = f + m := IntWalk.i64_in _ (by omega)
          have k0 : (0 : Int) ≤ (k : Int) := by omega
          have k1 : (k : Int) < (n' : Int) := by omega
          clear hx hc he h1 HC
          go_wp2_with fail
          refine HJ.out.mono ?_
          rintro e w4 ⟨rfl, ns4, hc4, he4, hb4⟩
          have HC4 : Hid (∃ ns : Nds, Chn w4 w.heap.size g ns ∧ exs ns = R (fun i => inE es i && !inE (fs.take (k + 1)) i)) := ⟨ns4, hc4, he4⟩
          have HB4 := hide (HBA.out.trans hb4)
          clear hc4 he4 hb4
          go_wp2
          go_roundw
          case rel => exact ⟨k + 1, by omega, by go_num, HC4.out, HB4.out⟩
          case measure => simp [intOf]; omega
        · obtain rfl : k = n' := by omega
          obtain ⟨ns, hc, he⟩ := HC.out
          rw [List.take_of_length_le (by rw [HR.out.1]; exact Nat.le_refl _), ← HED.out] at he
          have HX := hide (he ▸ extents_any w.heap.size g ns wr hc (by rw [he, HED.out]; exact R_val _))
          clear hc HC
          go_wp2_with fail
          refine HX.out.mono ?_
          rintro e w4 ⟨A2, n2, c2, rfl, ho4, hb4⟩
          have HO4 := hide (ho4.mono hsz)
          have HB4 := hide (HB.out.trans (hb4.mono hsz))
          clear ho4 hb4
          go_wp2
          go_ret2
          exact ⟨_, _, _, rfl, HO4.out, HB4.out⟩
end Go.Proofs.Ythpipgcgnhgphaa
