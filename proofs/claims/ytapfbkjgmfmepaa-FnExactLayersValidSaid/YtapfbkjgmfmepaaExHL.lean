/-
  The exact laws' helpers on lists of layers: a count, a copy, equality.
-/
import Derived.Test.YtapfbkjgmfmepaaExHP
import Derived.Test.YtapfbkjgmfmepaaLy
import Derived.Deep.RegionHeld3
namespace Go.Proofs.Ytapfbkjgmfmepaa
open Go.RowKit
set_option linter.unusedVariables false
set_option maxRecDepth 100000

/-- where marks from v on end -/
def mvL : Int → List Lq → Int
  | v, [] => v
  | v, q :: qs => mvL (v + ((q.ps.length * 2 : Nat) : Int)) qs
theorem mvL_append (v : Int) (qs rs : List Lq) : mvL v (qs ++ rs) = mvL (mvL v qs) rs := by
  induction qs generalizing v with
  | nil => rfl
  | cons q qs ih => simp only [List.cons_append, mvL, ih]
theorem mvL_ge (v : Int) (qs : List Lq) : v ≤ mvL v qs := by
  induction qs generalizing v with
  | nil => exact Int.le_refl _
  | cons q qs ih => have := ih (v + ((q.ps.length * 2 : Nat) : Int)); simp only [mvL]; omega
theorem mvL_mem (v : Int) (qs : List Lq) : ∀ q ∈ qs, v + ((q.ps.length * 2 : Nat) : Int) ≤ mvL v qs := by
  induction qs generalizing v with
  | nil => intro q h; cases h
  | cons q qs ih =>
    intro r hr
    simp only [mvL]
    rcases List.mem_cons.1 hr with rfl | hr
    · exact mvL_ge _ _
    · have := ih (v + ((q.ps.length * 2 : Nat) : Int)) r hr; omega
theorem take_nextL {qs : List Lq} {j : Nat} {q : Lq} (h : qs[j]? = some q) : qs.take (j + 1) = qs.take j ++ [q] := by rw [List.take_add_one, h]; rfl
theorem mvL_next (v : Int) {qs : List Lq} {j : Nat} {q : Lq} (h : qs[j]? = some q) : mvL v (qs.take (j + 1)) = mvL v (qs.take j) + ((q.ps.length * 2 : Nat) : Int) := by
  rw [take_nextL h, mvL_append]; rfl
theorem mvL_take_le (v : Int) (qs : List Lq) (j : Nat) : mvL v (qs.take j) ≤ mvL v qs := by
  conv => rhs; rw [← List.take_append_drop j qs, mvL_append]
  exact mvL_ge _ _
theorem mvL_lys (v : Int) {qs rs : List Lq} (h : lys qs = lys rs) : mvL v qs = mvL v rs := by
  induction qs generalizing v rs with
  | nil => cases rs with
    | nil => rfl
    | cons r rs => cases h
  | cons q qs ih => cases rs with
    | nil => cases h
    | cons r rs =>
      have h1 : q.ps = r.ps := by injection h
      have h2 : lys qs = lys rs := by injection h
      simp only [mvL, h1]
      exact ih _ h2

set_option maxHeartbeats 800000 in
/-- a count: what is left, or -1 -/
theorem szPair_var (A : Option Addr) (n c : Nat) (l : Int) (w : World) (hn : n ≤ 9223372036854775807) (h0 : 0 ≤ l) (h1 : l ≤ 1048576) :
    Calls Try.prog 38 #[.slice A n c, .int .i64 l] w fun e w' => (∃ r : Int, e = .returned (.int .i64 r) ∧ r ≤ l ∧ -1 ≤ r ∧ (0 ≤ r → r = l - (n : Int))) ∧ w = w' := by
  by_cases h : l - (n : Int) < 0
  · go_enter Try.func38, Try.ntmps38
    go_wp2
    go_ret
    exact ⟨⟨-1, rfl, by omega, by omega, fun h2 => absurd h2 (by omega)⟩, rfl⟩
  · go_enter Try.func38, Try.ntmps38
    go_wp2
    go_ret
    exact ⟨⟨l - n, rfl, by omega, by omega, fun _ => rfl⟩, rfl⟩

set_option maxHeartbeats 3200000 in
theorem szPairSS_any (A : Option Addr) (n c B : Nat) (qs : List Lq) (w : World) (hr : LyI w B A n qs) (hn : n ≤ c) (hc : c ≤ maxLen) :
    Calls Try.prog 35 #[.slice A n c, .int .i64 1048576] w fun e w' => ∃ r : Int, e = .returned (.int .i64 r) ∧ r ≤ 1048576 ∧ -1 ≤ r ∧ (0 ≤ r → n ≤ 1048576 ∧ mvL 1 qs + 2 * r ≤ 2097153) ∧ w = w' := by
  have hn' : n ≤ 9223372036854775807 := by unfold maxLen at hc; omega
  have HR := hide hr
  clear hr
  by_cases h : (1048576 : Int) - (n : Int) < 0
  · go_enter Try.func35, Try.ntmps35
    go_wp2
    go_ret
    exact ⟨-1, rfl, by omega, by omega, fun h2 => absurd h2 (by omega), rfl⟩
  · go_enter Try.func35, Try.ntmps35
    go_wp2
    go_loop [1, 5] (fun s i => ∃ (k : Nat) (l : Int), k ≤ n ∧ i = .int .i64 k ∧ s = .int .i64 l ∧ 0 ≤ l ∧ l ≤ 1048576 ∧ Hid (mvL 1 (qs.take k) + 2 * l ≤ 2097153)) (fun _ i => n - (intOf i).toNat)
    case atStart => exact ⟨0, _, Nat.zero_le _, rfl, rfl, by omega, by omega, (show (1 : Int) + 2 * _ ≤ 2097153 by omega)⟩
    case round =>
      obtain ⟨k, l, hk, rfl, rfl, hl0, hl1, HQ⟩ := hrel
      by_cases hlt : k < n
      · obtain ⟨q, hq⟩ : ∃ q, qs[k]? = some q := ⟨_, List.getElem?_eq_getElem (by rw [HR.out.1]; exact hlt)⟩
        obtain ⟨ad, rfl, hb, hc0⟩ := HR.out.at_ hq
        obtain ⟨hp, hle, hcm, hnl⟩ := HR.out.layer hq
        have hqm : q.ps.length ≤ 9223372036854775807 := by have := hcm; unfold maxLen at this; omega
        have HSZ := hide (szPair_var q.addr q.ps.length q.cap l w hqm hl0 hl1)
        have HN := hide (mvL_next 1 hq)
        unfold Lq.sl at hc0
        have k0 : (0 : Int) ≤ (k : Int) := by omega
        have k1 : (k : Int) < (n : Int) := by omega
        clear hq hp hle hcm hnl
        go_wp2_with fail
        refine HSZ.out.mono ?_
        rintro e w1 ⟨⟨r, rfl, hr1, hr2, hr3⟩, rfl⟩
        by_cases hneg : r < 0
        · go_wp2
          go_ret
          exact ⟨-1, rfl, by omega, by omega, fun h2 => absurd h2 (by omega), rfl⟩
        · have HQ1 : Hid (mvL 1 (qs.take (k + 1)) + 2 * r ≤ 2097153) := by
            show _ ≤ _
            have h1 := HN.out
            have h2 := HQ.out
            have h3 := hr3 (by omega)
            omega
          clear hr3
          go_wp2
          go_round
          case rel => exact ⟨k + 1, _, by omega, by go_num, rfl, by omega, by omega, HQ1.out⟩
          case measure => simp [intOf]; omega
      · obtain rfl : k = n := by omega
        have HF := hide (show mvL 1 qs + 2 * l ≤ 2097153 by
          have := HQ.out
          rwa [List.take_of_length_le (by rw [HR.out.1]; exact Nat.le_refl _)] at this)
        go_wp2
        go_ret
        exact ⟨l, rfl, by omega, by omega, fun _ => ⟨by omega, HF.out⟩, rfl⟩

def lqz : Lq := ⟨[], none, 0⟩
theorem info_lyE : (Try.prog.info? 27).map (fun i => (i.zero, i.size, i.bytes)) = some (some (.slice none 0 0), 1, 24) := by kernel_rfl
theorem madeL (n : Nat) : (madeCells (Value.slice none 0 0).cells (n * 1)).toList = slL (List.replicate n lqz) := by
  rw [made_same (Value.slice none 0 0).cells (.slice none 0 0) (by decide) (fun i hi => by have h2 : i < 1 := hi; obtain rfl : i = 0 := by omega
                                                                                           rfl) (n * 1), Nat.mul_one]
  unfold slL
  rw [List.map_replicate]
  rfl
theorem OwnL.madeE {w' : World} {base n c : Nat} {A : Option Addr} (h : w'.ownsRow base 27 1 (.slice A n c) n (slL (List.replicate n lqz))) : OwnL w' base A n c (List.replicate n lqz) := by
  have get : ∀ {k q}, (List.replicate n lqz)[k]? = some q → q = lqz := fun h => (List.mem_replicate.1 (List.mem_of_getElem? h)).2
  refine ⟨by simp, h, fun k q hk => ?_, fun i j q r hi hj hij g hg => ?_⟩
  · rw [get hk]; exact PrR.nil_ _ _
  · rw [get hi] at hg
    simp [lqz, Lq.sl, Value.ownBlock] at hg

set_option maxHeartbeats 6400000 in
theorem toPairSS_any (A : Option Addr) (n c B : Nat) (qs : List Lq) (w : World) (hr : LyI w B A n qs) (hB : B ≤ w.heap.size) (hn : n ≤ 1000000000) (hl : ∀ q ∈ qs, q.ps.length ≤ 1000000000) :
    Calls Try.prog 36 #[.slice A n c] w fun e w' => ∃ A2 c2 qs2, e = .returned (.slice A2 n c2) ∧ OwnL w' w.heap.size A2 n c2 qs2 ∧ lys qs2 = lys qs ∧ Below w.heap.size w w' := by
  obtain ⟨i0, hi, hz0, hz1, hz2⟩ := info_parts info_lyE
  have HR := hide hr
  have HL := hide hl
  clear hr hl
  go_enter Try.func36, Try.ntmps36
  go_wp2_with (at_make; refine wpList_make_full _ rfl _ _ 23 rfl w.heap.size 27 i0 (.slice none 0 0) 1 Try.underlying23 hi hz0 hz1 .i64 .i64 _ _ n rfl rfl rfl rfl (by rw [hz2]; omega) (by unfold maxLen; omega) (Nat.le_refl _) ?_; intro w1 hown hgrow; rw [madeL] at hown)
  have HO0 := hide (OwnL.madeE hown)
  have HB0 := hide (below_of_grown hgrow)
  clear hown hgrow hi hz0 hz1 hz2
  go_loopw [4] (fun i wr => ∃ (k : Nat) (rs : List Lq), k ≤ n ∧ i = .int .i64 k ∧ Hid (OwnL wr w.heap.size (some ⟨w.heap.size, 0, none⟩) n n rs) ∧ Hid (∀ j, j < k → (lys rs)[j]? = (lys qs)[j]?) ∧ Hid (Below w.heap.size w wr)) (fun i _ => n - (intOf i).toNat)
  case atStart => exact ⟨0, _, Nat.zero_le _, rfl, HO0.out, (fun j hj => absurd hj (by omega)), HB0.out⟩
  case round =>
    obtain ⟨k, rs, hk, rfl, HO, HD, HB⟩ := hrel
    have hs := HB.out.size
    by_cases hlt : k < n
    · obtain ⟨q, hq⟩ : ∃ q, qs[k]? = some q := ⟨_, List.getElem?_eq_getElem (by rw [HR.out.1]; exact hlt)⟩
      have HQZ := hide (lys_get hq)
      have hR := HR.out.below HB.out hB
      obtain ⟨ad, rfl, hb, hc0⟩ := hR.at_ hq
      obtain ⟨hp, hle, hcm, hnl⟩ := hR.layer hq
      have hql := HL.out q (List.mem_of_getElem? hq)
      obtain ⟨r, hr⟩ : ∃ r, rs[k]? = some r := ⟨_, List.getElem?_eq_getElem (by rw [HO.out.len]; exact hlt)⟩
      have HTP := hide (toPairS_any q.addr q.ps.length q.cap B (fl q.ps) wr hp.2 (by omega) hql)
      have HRR := hide hr
      unfold Lq.sl at hc0
      have k0 : (0 : Int) ≤ (k : Int) := by omega
      have k1 : (k : Int) < (n : Int) := by omega
      clear hq hR hp hle hcm hnl hr
      go_wp2_with fail
      refine HTP.out.mono ?_
      rintro e w2 ⟨A2, c2, rfl, ho2, hb2⟩
      have hO2 := HO.out.below hb2
      have hm0 := hO2.cell HRR.out
      have hf0 := hO2.free (j := k)
      have hpr : PrR w2 wr.heap.size A2 q.ps.length c2 q.ps := ⟨rfl, ho2⟩
      have hput := hO2.put (k := k) (q := r) ⟨q.ps, A2, c2⟩ (hpr.mono hs) (fun j s hj hne g hg hg' => by
        have h1 := (hpr.block g hg).1
        have h2 := (HO.out.wblock hj g hg').2
        omega)
      have hsz2 := hb2.size
      have HE := hide hput.1
      have HB2 := hide ((HB.out.trans (hb2.mono hs)).grown hput.2 (by omega) (fun b hb => by injection hb with hb; omega))
      have hrl : (lys rs).length = n := by rw [lys_length]; exact HO.out.len
      have HD2 : Hid (∀ j, j < k + 1 → (lys (rs.set k ⟨q.ps, A2, c2⟩))[j]? = (lys qs)[j]?) := by
        intro j hj
        rw [lys_set, List.getElem?_set]
        by_cases e : k = j
        · subst e
          rw [if_pos rfl, if_pos (by omega), HQZ.out]
        · rw [if_neg e]
          exact HD.out j (by omega)
      clear hO2 ho2 hb2 hrl hc0 HTP hpr hput
      unfold Lq.sl at hm0
      go_wp2
      go_roundw
      case rel => exact ⟨k + 1, _, by omega, by go_num, HE.out, HD2.out, HB2.out⟩
      case measure => simp [intOf]; omega
    · obtain rfl : k = n := by omega
      go_wp2
      go_ret
      refine ⟨_, _, _, rfl, HO.out, ?_, HB.out⟩
      apply List.ext_getElem?
      intro j
      by_cases hj : j < k
      · exact HD.out j hj
      · rw [List.getElem?_eq_none (by rw [lys_length, HO.out.len]; omega), List.getElem?_eq_none (by rw [lys_length, HR.out.1]; omega)]

set_option maxHeartbeats 3200000 in
theorem eqPairSS_yes (A A' : Option Addr) (n c d B B' : Nat) (qs rs : List Lq) (w : World) (hx : LyI w B A n qs) (hy : LyI w B' A' n rs) (hB : B ≤ w.heap.size) (hB' : B' ≤ w.heap.size) (hn : n ≤ 1000000000) (hl : ∀ q ∈ qs, q.ps.length ≤ 1000000000) (h : lys qs = lys rs) :
    Calls Try.prog 37 #[.slice A n c, .slice A' n d] w fun e w' => e = .returned (.bool true) ∧ Below w.heap.size w w' := by
  have HX := hide hx
  have HY := hide hy
  have HE := hide h
  have HL := hide hl
  clear hx hy h hl
  go_enter Try.func37, Try.ntmps37
  go_wp2
  go_loopw [5] (fun i wr => ∃ (k : Nat), k ≤ n ∧ i = .int .i64 k ∧ Hid (Below w.heap.size w wr)) (fun i _ => n - (intOf i).toNat)
  case atStart => exact ⟨0, Nat.zero_le _, rfl, Below.refl _ _⟩
  case round =>
    obtain ⟨k, hk, rfl, HB⟩ := hrel
    have hs := HB.out.size
    by_cases hlt : k < n
    · obtain ⟨q, hq⟩ : ∃ q, qs[k]? = some q := ⟨_, List.getElem?_eq_getElem (by rw [HX.out.1]; exact hlt)⟩
      obtain ⟨r, hr⟩ : ∃ r, rs[k]? = some r := ⟨_, List.getElem?_eq_getElem (by rw [HY.out.1]; exact hlt)⟩
      have her : r.ps = q.ps := by
        have h1 := lys_get hq
        have h2 := lys_get hr
        rw [HE.out, h2] at h1
        injection h1
      have hX := HX.out.below HB.out hB
      have hY := HY.out.below HB.out hB'
      obtain ⟨ad, rfl, hb, hc0⟩ := hX.at_ hq
      obtain ⟨ad', rfl, hb', hd0⟩ := hY.at_ hr
      have hi := (hX.layer hq).1.2
      have hi' := (hY.layer hr).1.2
      have hql := HL.out q (List.mem_of_getElem? hq)
      unfold Lq.sl at hc0 hd0
      rw [her] at hi' hd0
      have HSZ := hide fun (i : Nat) => eqPairS_yes q.addr r.addr q.ps.length q.cap r.cap B B' (fl q.ps) (wr.drewN i) (hi.drewN i) (Nat.le_trans hB hs) (hi'.drewN i) (Nat.le_trans hB' hs) hql
      have k0 : (0 : Int) ≤ (k : Int) := by omega
      have k1 : (k : Int) < (n : Int) := by omega
      obtain ⟨p, hp⟩ : ∃ p, ad.add k = p := ⟨_, rfl⟩
      obtain ⟨p', hp'⟩ : ∃ p, ad'.add k = p := ⟨_, rfl⟩
      have hbp : p.block < wr.heap.size := by rw [← hp, block_of_add]; omega
      have hbp' : p'.block < wr.heap.size := by rw [← hp', block_of_add]; omega
      rw [hp] at hc0
      rw [hp'] at hd0
      clear hi hi' hq hr hX hY her
      go_wp2_with fail
      go_region_held3 (fun W => W.cell? p = some (.slice q.addr q.ps.length q.cap) ∧ W.cell? p' = some (.slice r.addr q.ps.length r.cap))
        (first
          | go_keep
          | (exact ⟨(hb1.cell (p := p) hbp).trans hc0, (hb1.cell (p := p') hbp').trans hd0⟩))
        ((first
          | (go_at_call 40; refine (HSZ.out 1).mono ?_; rintro e w1 ⟨rfl, hb1'⟩; have hb1 : Below wr.heap.size wr w1 := ⟨hb1'.os, hb1'.tape, hb1'.output, hb1'.size, hb1'.block⟩; clear hb1')))
      have HB1 := hide (HB.out.trans (hb1.mono hs))
      clear hb1
      go_wp2
      go_roundw
      case rel => exact ⟨k + 1, by omega, by go_num, HB1.out⟩
      case measure => simp [intOf]; omega
    · obtain rfl : k = n := by omega
      go_wp2
      go_ret
      exact ⟨rfl, HB.out⟩
end Go.Proofs.Ytapfbkjgmfmepaa
