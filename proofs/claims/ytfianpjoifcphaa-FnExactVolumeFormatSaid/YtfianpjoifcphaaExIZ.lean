/-
  The exact laws' helpers on devices: a copy.
-/
import Derived.Test.YtfianpjoifcphaaExHZ
import Derived.Test.YtfianpjoifcphaaSpecZ5
namespace Go.Proofs.Ytfianpjoifcphaa
open Go.RowKit
set_option linter.unusedVariables false
set_option maxRecDepth 100000

def zqz : Zq := ⟨[], 0, false, none, 0⟩
theorem madeZ (n : Nat) : (madeCells (Value.agg #[.slice none 0 0, .int .i64 0, .bool false]).cells (n * 3)).toList = flat (List.replicate n zqz) := by
  apply List.ext_getElem?
  intro i
  by_cases h : i < n * 3
  · have hk : (List.replicate n zqz)[i / 3]? = some zqz := by rw [List.getElem?_replicate, if_pos (by omega)]
    have hj := flat_get hk (i % 3) (Nat.mod_lt _ (by decide))
    rw [show i / 3 * 3 + i % 3 = i by omega] at hj
    rw [hj]
    have h3 : i % 3 = 0 ∨ i % 3 = 1 ∨ i % 3 = 2 := by omega
    simp only [madeCells, Array.toList_map, List.getElem?_map]
    rw [Array.getElem?_toList, Array.getElem?_range, if_pos h]
    show some _ = _
    rcases h3 with e | e | e <;> simp [Value.cells, e, zqz, Zq.vals, Zq.sl]
  · rw [List.getElem?_eq_none (by simp [madeCells]; omega), List.getElem?_eq_none (by rw [flat_length, List.length_replicate]; omega)]

theorem OwnZ.made {w' : World} {base n c : Nat} {A : Option Addr} (h : w'.ownsRow base 43 3 (.slice A n c) n (flat (List.replicate n zqz))) : OwnZ w' base A n c (List.replicate n zqz) := by
  have get : ∀ {k q}, (List.replicate n zqz)[k]? = some q → q = zqz := fun h => (List.mem_replicate.1 (List.mem_of_getElem? h)).2
  refine ⟨by simp, h, fun k q hk => ?_, fun i j q r hi hj hij g hg => ?_⟩
  · rw [get hk]; exact Own.nil_ _ _
  · rw [get hi] at hg
    simp [zqz, Zq.sl, Value.ownBlock] at hg

set_option maxHeartbeats 6400000 in
theorem toZoneS_any (A : Option Addr) (n c B : Nat) (qs : List Zq) (w : World) (hr : Zns w B A n qs) (hB : B ≤ w.heap.size) (hn : n ≤ 1000000000) (hl : ∀ q ∈ qs, q.words.length ≤ 1048576) :
    Calls Try.prog 6 #[.slice A n c] w fun e w' => ∃ A2 c2 qs2, e = .returned (.slice A2 n c2) ∧ OwnZ w' w.heap.size A2 n c2 qs2 ∧ zns qs2 = zns qs ∧ Below w.heap.size w w' := by
  obtain ⟨i0, hi, hz0, hz1, hz2⟩ := info_parts zoneT.info
  have HR := hide hr
  have HL := hide hl
  clear hr hl
  go_enter Try.func6, Try.ntmps6
  go_wp2_with (at_make; refine wpList_make_full _ rfl _ _ 24 rfl w.heap.size 43 i0 (Value.agg #[.slice none 0 0, .int .i64 0, .bool false]) 3 Try.underlying24 hi hz0 hz1 .i64 .i64 _ _ n rfl rfl rfl rfl (by rw [hz2]; omega) (by unfold maxLen; omega) (Nat.le_refl _) ?_; intro w1 hown hgrow; rw [madeZ] at hown)
  have HO0 := hide (OwnZ.made hown)
  have HB0 := hide (below_of_grown hgrow)
  clear hown hgrow hi hz0 hz1 hz2
  go_loopw [4] (fun i wr => ∃ (k : Nat) (rs : List Zq), k ≤ n ∧ i = .int .i64 k ∧ Hid (OwnZ wr w.heap.size (some ⟨w.heap.size, 0, none⟩) n n rs) ∧ Hid (∀ j, j < k → (zns rs)[j]? = (zns qs)[j]?) ∧ Hid (Below w.heap.size w wr)) (fun i _ => n - (intOf i).toNat)
  case atStart => exact ⟨0, _, Nat.zero_le _, rfl, HO0.out, (fun j hj => absurd hj (by omega)), HB0.out⟩
  case round =>
    obtain ⟨k, rs, hk, rfl, HO, HD, HB⟩ := hrel
    have hs := HB.out.size
    by_cases hlt : k < n
    · obtain ⟨q, hq⟩ : ∃ q, qs[k]? = some q := ⟨_, List.getElem?_eq_getElem (by rw [HR.out.1]; exact hlt)⟩
      have hqz : (zns qs)[k]? = some q.zn := zns_get hq
      have HQZ := hide hqz
      have hR := HR.out.below HB.out hB
      obtain ⟨ad, p, rfl, hp, hb, hc0, hc1, hc2⟩ := hR.at_ hq
      obtain ⟨hiw, hle, hcm⟩ := hR.words hq
      have hql := HL.out q (List.mem_of_getElem? hq)
      obtain ⟨r, hr⟩ : ∃ r, rs[k]? = some r := ⟨_, List.getElem?_eq_getElem (by rw [HO.out.len]; exact hlt)⟩
      clear hq hR hqz
      obtain ⟨ws, sy, fu, qa, qc⟩ := q
      simp only [Zq.sl] at hc0 hc1 hc2 hiw hle hcm hql
      obtain ⟨m, hm⟩ : ∃ m, ws.length = m := ⟨_, rfl⟩
      rw [hm] at hc0 hiw hle hql
      have HM := hide hm
      have HTZ := hide (toZone_any qa m qc B sy fu ws wr hiw (by omega) (by omega))
      have HAN := hide fun (w3 : World) (c3 : Nat) (A3 : Option Addr) hg ho hat => HO.out.anew (w3 := w3) (c3 := c3) (A3 := A3) (ws3 := ws) (row := none) hr hg (by simp) ho hat sy fu
      have HRR := hide hr
      have k0 : (0 : Int) ≤ (k : Int) := by omega
      have k1 : (k : Int) < (n : Int) := by omega
      clear hiw hle hcm hm hr
      go_wp2_with fail
      refine HTZ.out.mono ?_
      rintro e w2 ⟨A2, c2, rfl, ho2, hb2⟩
      have hg2 : wr.grownBy w2 none := grown_of_below hb2 none
      have hO2 := HO.out.below hb2
      have HE := hide (HAN.out w2 c2 A2 hg2 (by rw [HM.out]; exact ho2.mono hs) (fun b hb => by rw [HM.out] at hb; exact (ho2.block b hb).1))
      rw [HM.out] at HE
      obtain ⟨hm0, hm1, hm2⟩ := hO2.at_ HRR.out
      have hf0 := hO2.free (j := k * 3)
      have hf1 := hO2.free (j := k * 3 + 1)
      have hf2 := hO2.free (j := k * 3 + 2)
      have hsz2 := hb2.size
      have HB2 := hide ((HB.out.trans (hb2.mono hs)).grown HE.out.2 (by omega) (fun b hb => by injection hb with hb; omega))
      have hrl : (zns rs).length = n := by unfold zns; rw [List.length_map]; exact HO.out.len
      have HD2 : Hid (∀ j, j < k + 1 → (zns (rs.set k ⟨ws, sy, fu, A2, c2⟩))[j]? = (zns qs)[j]?) := by
        intro j hj
        rw [zns_set, List.getElem?_set]
        by_cases e : k = j
        · subst e
          rw [if_pos rfl, if_pos (by omega), HQZ.out]
          rfl
        · rw [if_neg e]
          exact HD.out j (by omega)
      clear hg2 hO2 ho2 hb2 hrl hc0 hc1 hc2 HAN HTZ
      go_wp2
      go_roundw
      case rel => exact ⟨k + 1, _, by omega, by go_num, HE.out.1, HD2.out, HB2.out⟩
      case measure => simp [intOf]; omega
    · obtain rfl : k = n := by omega
      go_wp2
      go_ret
      refine ⟨_, _, _, rfl, HO.out, ?_, HB.out⟩
      apply List.ext_getElem?
      intro j
      by_cases hj : j < k
      · exact HD.out j hj
      · rw [List.getElem?_eq_none (by unfold zns; rw [List.length_map, HO.out.len]; omega), List.getElem?_eq_none (by unfold zns; rw [List.length_map, HR.out.1]; omega)]
end Go.Proofs.Ytfianpjoifcphaa
