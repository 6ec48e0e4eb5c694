/-
  The exact laws' helpers on stores: a copy.
-/
import Derived.Test.YtblainmjmdbanaaExHO
import Derived.Test.YtblainmjmdbanaaOPut
namespace Go.Proofs.Ytblainmjmdbanaa
open Go.RowKit
set_option linter.unusedVariables false
set_option maxRecDepth 100000

def oqz : Oq := ⟨0, [], none, 0⟩
theorem madeO (n : Nat) : (madeCells (Value.agg #[.int .i64 0, .slice none 0 0]).cells (n * 2)).toList = flatO (List.replicate n oqz) := by
  apply List.ext_getElem?
  intro i
  by_cases h : i < n * 2
  · have hk : (List.replicate n oqz)[i / 2]? = some oqz := by rw [List.getElem?_replicate, if_pos (by omega)]
    have hj := flatO_get hk (i % 2) (Nat.mod_lt _ (by decide))
    rw [show i / 2 * 2 + i % 2 = i by omega] at hj
    rw [hj]
    have h3 : i % 2 = 0 ∨ i % 2 = 1 := by omega
    simp only [madeCells, Array.toList_map, List.getElem?_map]
    rw [Array.getElem?_toList, Array.getElem?_range, if_pos h]
    show some _ = _
    rcases h3 with e | e <;> simp [Value.cells, e, oqz, Oq.cells, Oq.sl]
  · rw [List.getElem?_eq_none (by simp [madeCells]; omega), List.getElem?_eq_none (by rw [flatO_length, List.length_replicate]; omega)]

theorem OwnO.made {w' : World} {base n c : Nat} {A : Option Addr} (h : w'.ownsRow base 47 2 (.slice A n c) n (flatO (List.replicate n oqz))) : OwnO w' base A n c (List.replicate n oqz) := by
  have get : ∀ {k q}, (List.replicate n oqz)[k]? = some q → q = oqz := fun h => (List.mem_replicate.1 (List.mem_of_getElem? h)).2
  refine ⟨by simp, h, fun k q hk => ?_, fun i j q r hi hj hij g hg => ?_⟩
  · rw [get hk]; exact Own.nil_ _ _
  · rw [get hi] at hg
    simp [oqz, Oq.sl, Value.ownBlock] at hg

set_option maxHeartbeats 6400000 in
theorem toObjectS_any (A : Option Addr) (n c B : Nat) (qs : List Oq) (w : World) (hr : Objs w B A n qs) (hB : B ≤ w.heap.size) (hn : n ≤ 1000000000) (hl : ∀ q ∈ qs, q.vals.length ≤ 1048576) :
    Calls Try.prog 9 #[.slice A n c] w fun e w' => ∃ A2 c2 qs2, e = .returned (.slice A2 n c2) ∧ OwnO w' w.heap.size A2 n c2 qs2 ∧ obs qs2 = obs qs ∧ Below w.heap.size w w' := by
  obtain ⟨i0, hi, hz0, hz1, hz2⟩ := info_parts objT.info
  have HR := hide hr
  have HL := hide hl
  clear hr hl
  go_enter Try.func9, Try.ntmps9
  go_wp2_with (at_make; refine wpList_make_full _ rfl _ _ 25 rfl w.heap.size 47 i0 (Value.agg #[.int .i64 0, .slice none 0 0]) 2 Try.underlying25 hi hz0 hz1 .i64 .i64 _ _ n rfl rfl rfl rfl (by rw [hz2]; omega) (by unfold maxLen; omega) (Nat.le_refl _) ?_; intro w1 hown hgrow; rw [madeO] at hown)
  have HO0 := hide (OwnO.made hown)
  have HB0 := hide (below_of_grown hgrow)
  clear hown hgrow hi hz0 hz1 hz2
  go_loopw [4] (fun i wr => ∃ (k : Nat) (rs : List Oq), k ≤ n ∧ i = .int .i64 k ∧ Hid (OwnO wr w.heap.size (some ⟨w.heap.size, 0, none⟩) n n rs) ∧ Hid (∀ j, j < k → (obs rs)[j]? = (obs qs)[j]?) ∧ Hid (Below w.heap.size w wr)) (fun i _ => n - (intOf i).toNat)
  case atStart => exact ⟨0, _, Nat.zero_le _, rfl, HO0.out, (fun j hj => absurd hj (by omega)), HB0.out⟩
  case round =>
    obtain ⟨k, rs, hk, rfl, HO, HD, HB⟩ := hrel
    have hs := HB.out.size
    by_cases hlt : k < n
    · obtain ⟨q, hq⟩ : ∃ q, qs[k]? = some q := ⟨_, List.getElem?_eq_getElem (by rw [HR.out.1]; exact hlt)⟩
      have hqz : (obs qs)[k]? = some q.ob := obs_get hq
      have HQZ := hide hqz
      have hR := HR.out.below HB.out hB
      obtain ⟨ad, p, rfl, hp, hb, hc0, hc1⟩ := hR.at_ hq
      obtain ⟨hiw, hle, hcm, hnl⟩ := hR.words hq
      have hql := HL.out q (List.mem_of_getElem? hq)
      obtain ⟨r, hr⟩ : ∃ r, rs[k]? = some r := ⟨_, List.getElem?_eq_getElem (by rw [HO.out.len]; exact hlt)⟩
      clear hq hR hqz hnl
      obtain ⟨id, ws, qa, qc⟩ := q
      simp only [Oq.sl] at hc0 hc1 hiw hle hcm hql
      obtain ⟨m, hm⟩ : ∃ m, ws.length = m := ⟨_, rfl⟩
      rw [hm] at hc1 hiw hle hql
      have HM := hide hm
      have HTZ := hide (toObject_any qa m qc B id ws wr hiw (by omega) (by omega))
      have HAN := hide fun (w3 : World) (c3 : Nat) (A3 : Option Addr) hg ho hat => HO.out.anew (w3 := w3) (c3 := c3) (A3 := A3) (ws3 := ws) (row := none) hr hg (by simp) ho hat id
      have HRR := hide hr
      have k0 : (0 : Int) ≤ (k : Int) := by omega
      have k1 : (k : Int) < (n : Int) := by omega
      clear hiw hle hcm hm hr
      go_wp2_with fail
      refine HTZ.out.mono ?_
      rintro e w2 ⟨A2, c2, rfl, ho2, hb2⟩
      have hg2 : wr.grownBy w2 none := grown_of_below hb2 none
      have hO2 := HO.out.below hb2
      have HE := hide (HAN.out w2 c2 A2 hg2 (by rw [HM.out]; exact ho2.mono hs) (fun b hb => by rw [HM.out] at hb; exact (ho2.block b hb).1))
      rw [HM.out] at HE
      obtain ⟨hm0, hm1⟩ := hO2.at_ HRR.out
      have hf0 := hO2.free (j := k * 2)
      have hf1 := hO2.free (j := k * 2 + 1)
      have hsz2 := hb2.size
      have HB2 := hide ((HB.out.trans (hb2.mono hs)).grown HE.out.2 (by omega) (fun b hb => by injection hb with hb; omega))
      have hrl : (obs rs).length = n := by unfold obs; rw [List.length_map]; exact HO.out.len
      have HD2 : Hid (∀ j, j < k + 1 → (obs (rs.set k ⟨id, ws, A2, c2⟩))[j]? = (obs qs)[j]?) := by
        intro j hj
        rw [obs_set, List.getElem?_set]
        by_cases e : k = j
        · subst e
          rw [if_pos rfl, if_pos (by omega), HQZ.out]
          rfl
        · rw [if_neg e]
          exact HD.out j (by omega)
      clear hg2 hO2 ho2 hb2 hrl hc0 hc1 HAN HTZ
      go_wp2
      go_roundw
      case rel => exact ⟨k + 1, _, by omega, by go_num, HE.out.1, HD2.out, HB2.out⟩
      case measure => simp [intOf]; omega
    · obtain rfl : k = n := by omega
      go_wp2
      go_ret
      refine ⟨_, _, _, rfl, HO.out, ?_, HB.out⟩
      apply List.ext_getElem?
      intro j
      by_cases hj : j < k
      · exact HD.out j hj
      · rw [List.getElem?_eq_none (by unfold obs; rw [List.length_map, HO.out.len]; omega), List.getElem?_eq_none (by unfold obs; rw [List.length_map, HR.out.1]; omega)]
end Go.Proofs.Ytblainmjmdbanaa
