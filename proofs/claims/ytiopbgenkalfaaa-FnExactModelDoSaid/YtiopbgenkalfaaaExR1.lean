/-
  The exact laws' helpers on lists of lists of integers: a count, a copy, equality.
-/
import Derived.Test.YtiopbgenkalfaaaExHP
import Derived.Test.YtiopbgenkalfaaaNt
import Derived.Test.YtiopbgenkalfaaaInts
import Derived.Test.YtiopbgenkalfaaaQo
import Derived.Deep.RegionHeld3
namespace Go.Proofs.Ytiopbgenkalfaaa
open Go.RowKit
set_option linter.unusedVariables false
set_option maxRecDepth 100000

/-- where marks from v on end -/
def mvN : Int → List Nq → Int
  | v, [] => v
  | v, q :: qs => mvN (v + ((q.ps.length : Nat) : Int)) qs
theorem mvN_append (v : Int) (qs rs : List Nq) : mvN v (qs ++ rs) = mvN (mvN v qs) rs := by
  induction qs generalizing v with
  | nil => rfl
  | cons q qs ih => simp only [List.cons_append, mvN, ih]
theorem mvN_ge (v : Int) (qs : List Nq) : v ≤ mvN v qs := by
  induction qs generalizing v with
  | nil => exact Int.le_refl _
  | cons q qs ih => have := ih (v + ((q.ps.length : Nat) : Int)); simp only [mvN]; omega
theorem mvN_mem (v : Int) (qs : List Nq) : ∀ q ∈ qs, v + ((q.ps.length : Nat) : Int) ≤ mvN v qs := by
  induction qs generalizing v with
  | nil => intro q h; cases h
  | cons q qs ih =>
    intro r hr
    simp only [mvN]
    rcases List.mem_cons.1 hr with rfl | hr
    · exact mvN_ge _ _
    · have := ih (v + ((q.ps.length : Nat) : Int)) r hr; omega
theorem take_nextN {qs : List Nq} {j : Nat} {q : Nq} (h : qs[j]? = some q) : qs.take (j + 1) = qs.take j ++ [q] := by rw [List.take_add_one, h]; rfl
theorem mvN_next (v : Int) {qs : List Nq} {j : Nat} {q : Nq} (h : qs[j]? = some q) : mvN v (qs.take (j + 1)) = mvN v (qs.take j) + ((q.ps.length : Nat) : Int) := by
  rw [take_nextN h, mvN_append]; rfl
theorem mvN_take_le (v : Int) (qs : List Nq) (j : Nat) : mvN v (qs.take j) ≤ mvN v qs := by
  conv => rhs; rw [← List.take_append_drop j qs, mvN_append]
  exact mvN_ge _ _
theorem mvN_vs (v : Int) {qs rs : List Nq} (h : vsN qs = vsN rs) : mvN v qs = mvN v rs := by
  induction qs generalizing v rs with
  | nil => cases rs with
    | nil => rfl
    | cons r rs => cases h
  | cons q qs ih => cases rs with
    | nil => cases h
    | cons r rs =>
      have h1 : q.ps = r.ps := by injection h
      have h2 : vsN qs = vsN rs := by injection h
      simp only [mvN, h1]
      exact ih _ h2


theorem mvN_add (v d : Int) (qs : List Nq) : mvN (v + d) qs = mvN v qs + d := by
  induction qs generalizing v with
  | nil => rfl
  | cons q qs ih =>
    simp only [mvN]
    rw [show v + d + ((q.ps.length : Nat) : Int) = v + ((q.ps.length : Nat) : Int) + d by omega, ih]
set_option maxHeartbeats 800000 in
theorem szInt_var (A : Option Addr) (n c : Nat) (l : Int) (w : World) (hn : n ≤ 9223372036854775807) (h0 : 0 ≤ l) (h1 : l ≤ 1048576) :
    Calls Try.prog 52 #[.slice A n c, .int .i64 l] w fun e w' => (∃ r : Int, e = .returned (.int .i64 r) ∧ r ≤ l ∧ -1 ≤ r ∧ (0 ≤ r → r = l - (n : Int))) ∧ w = w' := by
  by_cases h : l - (n : Int) < 0
  · go_enter Try.func52, Try.ntmps52
    go_wp2
    go_ret
    exact ⟨⟨-1, rfl, by omega, by omega, fun h2 => absurd h2 (by omega)⟩, rfl⟩
  · go_enter Try.func52, Try.ntmps52
    go_wp2
    go_ret
    exact ⟨⟨l - n, rfl, by omega, by omega, fun _ => rfl⟩, rfl⟩

set_option maxHeartbeats 3200000 in
theorem szIntSS_any (A : Option Addr) (n c B : Nat) (l0 : Int) (qs : List Nq) (w : World) (hr : NyI w B A n qs) (hn : n ≤ c) (hc : c ≤ maxLen) (h0 : 0 ≤ l0) (h1 : l0 ≤ 1048576) :
    Calls Try.prog 53 #[.slice A n c, .int .i64 l0] w fun e w' => ∃ r : Int, e = .returned (.int .i64 r) ∧ r ≤ l0 ∧ -1 ≤ r ∧ (0 ≤ r → n ≤ 1048576 ∧ (n : Int) + mvN 0 qs + r ≤ l0) ∧ w = w' := by
  have hn' : n ≤ 9223372036854775807 := by unfold maxLen at hc; omega
  have HR := hide hr
  clear hr
  by_cases h : l0 - (n : Int) < 0
  · go_enter Try.func53, Try.ntmps53
    go_wp2
    go_ret
    exact ⟨-1, rfl, by omega, by omega, fun h2 => absurd h2 (by omega), rfl⟩
  · go_enter Try.func53, Try.ntmps53
    go_wp2
    go_loop [1, 5] (fun s i => ∃ (k : Nat) (l : Int), k ≤ n ∧ i = .int .i64 k ∧ s = .int .i64 l ∧ 0 ≤ l ∧ l ≤ l0 ∧ Hid ((n : Int) + mvN 0 (qs.take k) + l ≤ l0)) (fun _ i => n - (intOf i).toNat)
    case atStart => exact ⟨0, _, Nat.zero_le _, rfl, rfl, by omega, by omega, (show (n : Int) + 0 + _ ≤ l0 by omega)⟩
    case round =>
      obtain ⟨k, l, hk, rfl, rfl, hl0, hl1, HQ⟩ := hrel
      by_cases hlt : k < n
      · obtain ⟨q, hq⟩ : ∃ q, qs[k]? = some q := ⟨_, List.getElem?_eq_getElem (by rw [HR.out.1]; exact hlt)⟩
        obtain ⟨ad, rfl, hb, hc0⟩ := HR.out.at_ hq
        obtain ⟨hp, hle, hcm, hnl⟩ := HR.out.row_ hq
        have hqm : q.ps.length ≤ 9223372036854775807 := by have := hcm; unfold maxLen at this; omega
        have HSZ := hide (szInt_var q.addr q.ps.length q.cap l w hqm hl0 (by omega))
        have HN := hide (mvN_next 0 hq)
        unfold Nq.sl at hc0
        have k0 : (0 : Int) ≤ (k : Int) := by omega
        have k1 : (k : Int) < (n : Int) := by omega
        clear hq hp hle hcm hnl
        go_wp2_with fail
        refine HSZ.out.mono ?_
        rintro e w1 ⟨⟨r, rfl, hr1, hr2, hr3⟩, rfl⟩
        by_cases hneg : r < 0
        · go_wp2
          go_ret
          exact ⟨-1, rfl, by omega, by omega, fun h2 => absurd h2 (by omega), rfl⟩
        · have HQ1 : Hid ((n : Int) + mvN 0 (qs.take (k + 1)) + r ≤ l0) := by
            show _ ≤ _
            have h1 := HN.out
            have h2 := HQ.out
            have h3 := hr3 (by omega)
            omega
          clear hr3
          go_wp2
          go_round
          case rel => exact ⟨k + 1, _, by omega, by go_num, rfl, by omega, by omega, HQ1.out⟩
          case measure => simp [intOf]; omega
      · obtain rfl : k = n := by omega
        have HF := hide (show (k : Int) + mvN 0 qs + l ≤ l0 by
          have := HQ.out
          rwa [List.take_of_length_le (by rw [HR.out.1]; exact Nat.le_refl _)] at this)
        go_wp2
        go_ret
        exact ⟨l, rfl, by omega, by omega, fun _ => ⟨by omega, HF.out⟩, rfl⟩

set_option maxHeartbeats 800000 in
/-- a count: what is left, or -1 -/
theorem szPair_varN (A : Option Addr) (n c : Nat) (l : Int) (w : World) (hn : n ≤ 9223372036854775807) (h0 : 0 ≤ l) (h1 : l ≤ 1048576) :
    Calls Try.prog 54 #[.slice A n c, .int .i64 l] w fun e w' => (∃ r : Int, e = .returned (.int .i64 r) ∧ r ≤ l ∧ -1 ≤ r ∧ (0 ≤ r → r = l - (n : Int))) ∧ w = w' := by
  by_cases h : l - (n : Int) < 0
  · go_enter Try.func54, Try.ntmps54
    go_wp2
    go_ret
    exact ⟨⟨-1, rfl, by omega, by omega, fun h2 => absurd h2 (by omega)⟩, rfl⟩
  · go_enter Try.func54, Try.ntmps54
    go_wp2
    go_ret
    exact ⟨⟨l - n, rfl, by omega, by omega, fun _ => rfl⟩, rfl⟩

def nqz : Nq := ⟨[], none, 0⟩
theorem info_ntE : (Try.prog.info? 23).map (fun i => (i.zero, i.size, i.bytes)) = some (some (.slice none 0 0), 1, 24) := by kernel_rfl
theorem madeN (n : Nat) : (madeCells (Value.slice none 0 0).cells (n * 1)).toList = slN (List.replicate n nqz) := by
  rw [made_same (Value.slice none 0 0).cells (.slice none 0 0) (by decide) (fun i hi => by have h2 : i < 1 := hi; obtain rfl : i = 0 := by omega
                                                                                           rfl) (n * 1), Nat.mul_one]
  unfold slN
  rw [List.map_replicate]
  rfl
theorem OwnN.madeE {w' : World} {base n c : Nat} {A : Option Addr} (h : w'.ownsRow base 23 1 (.slice A n c) n (slN (List.replicate n nqz))) : OwnN w' base A n c (List.replicate n nqz) := by
  have get : ∀ {k q}, (List.replicate n nqz)[k]? = some q → q = nqz := fun h => (List.mem_replicate.1 (List.mem_of_getElem? h)).2
  refine ⟨by simp, h, fun k q hk => ?_, fun i j q r hi hj hij g hg => ?_⟩
  · rw [get hk]; exact Own.nil_ _ _
  · rw [get hi] at hg
    simp [nqz, Nq.sl, Value.ownBlock] at hg

set_option maxHeartbeats 6400000 in
theorem toIntSS_any (A : Option Addr) (n c B : Nat) (qs : List Nq) (w : World) (hr : NyI w B A n qs) (hB : B ≤ w.heap.size) (hn : n ≤ 1000000000) (hl : ∀ q ∈ qs, q.ps.length ≤ 1000000000) :
    Calls Try.prog 55 #[.slice A n c] w fun e w' => ∃ A2 c2 qs2, e = .returned (.slice A2 n c2) ∧ OwnN w' w.heap.size A2 n c2 qs2 ∧ vsN qs2 = vsN qs ∧ Below w.heap.size w w' := by
  obtain ⟨i0, hi, hz0, hz1, hz2⟩ := info_parts info_ntE
  have HR := hide hr
  have HL := hide hl
  clear hr hl
  go_enter Try.func55, Try.ntmps55
  go_wp2_with (at_make; refine wpList_make_full _ rfl _ _ 25 rfl w.heap.size 23 i0 (.slice none 0 0) 1 Try.underlying25 hi hz0 hz1 .i64 .i64 _ _ n rfl rfl rfl rfl (by rw [hz2]; omega) (by unfold maxLen; omega) (Nat.le_refl _) ?_; intro w1 hown hgrow; rw [madeN] at hown)
  have HO0 := hide (OwnN.madeE hown)
  have HB0 := hide (below_of_grown hgrow)
  clear hown hgrow hi hz0 hz1 hz2
  go_loopw [4] (fun i wr => ∃ (k : Nat) (rs : List Nq), k ≤ n ∧ i = .int .i64 k ∧ Hid (OwnN wr w.heap.size (some ⟨w.heap.size, 0, none⟩) n n rs) ∧ Hid (∀ j, j < k → (vsN rs)[j]? = (vsN qs)[j]?) ∧ Hid (Below w.heap.size w wr)) (fun i _ => n - (intOf i).toNat)
  case atStart => exact ⟨0, _, Nat.zero_le _, rfl, HO0.out, (fun j hj => absurd hj (by omega)), HB0.out⟩
  case round =>
    obtain ⟨k, rs, hk, rfl, HO, HD, HB⟩ := hrel
    have hs := HB.out.size
    by_cases hlt : k < n
    · obtain ⟨q, hq⟩ : ∃ q, qs[k]? = some q := ⟨_, List.getElem?_eq_getElem (by rw [HR.out.1]; exact hlt)⟩
      have HQZ := hide (vsN_get hq)
      have hR := HR.out.below HB.out hB
      obtain ⟨ad, rfl, hb, hc0⟩ := hR.at_ hq
      obtain ⟨hp, hle, hcm, hnl⟩ := hR.row_ hq
      have hql := HL.out q (List.mem_of_getElem? hq)
      obtain ⟨r, hr⟩ : ∃ r, rs[k]? = some r := ⟨_, List.getElem?_eq_getElem (by rw [HO.out.len]; exact hlt)⟩
      have HTP := hide (toInts_any q.addr q.ps.length q.cap B q.ps wr hp (by omega) (by omega))
      have HRR := hide hr
      unfold Nq.sl at hc0
      have k0 : (0 : Int) ≤ (k : Int) := by omega
      have k1 : (k : Int) < (n : Int) := by omega
      clear hq hR hp hle hcm hnl hr
      go_wp2_with fail
      refine HTP.out.mono ?_
      rintro e w2 ⟨A2, c2, rfl, ho2, hb2⟩
      have hO2 := HO.out.below hb2
      have hm0 := hO2.cell HRR.out
      have hf0 := hO2.free (j := k)
      have hpr : Own w2 wr.heap.size A2 q.ps.length c2 q.ps := ho2
      have hput := hO2.put (k := k) (q := r) ⟨q.ps, A2, c2⟩ (hpr.mono hs) (fun j s hj hne g hg hg' => by
        have h1 := (hpr.block g hg).1
        have h2 := (HO.out.wblock hj g hg').2
        omega)
      have hsz2 := hb2.size
      have HE := hide hput.1
      have HB2 := hide ((HB.out.trans (hb2.mono hs)).grown hput.2 (by omega) (fun b hb => by injection hb with hb; omega))
      have hrl : (vsN rs).length = n := by rw [vsN_length]; exact HO.out.len
      have HD2 : Hid (∀ j, j < k + 1 → (vsN (rs.set k ⟨q.ps, A2, c2⟩))[j]? = (vsN qs)[j]?) := by
        intro j hj
        rw [vsN_set, List.getElem?_set]
        by_cases e : k = j
        · subst e
          rw [if_pos rfl, if_pos (by omega), HQZ.out]
        · rw [if_neg e]
          exact HD.out j (by omega)
      clear hO2 ho2 hb2 hrl hc0 HTP hpr hput
      unfold Nq.sl at hm0
      go_wp2
      go_roundw
      case rel => exact ⟨k + 1, _, by omega, by go_num, HE.out, HD2.out, HB2.out⟩
      case measure => simp [intOf]; omega
    · obtain rfl : k = n := by omega
      go_wp2
      go_ret
      refine ⟨_, _, _, rfl, HO.out, ?_, HB.out⟩
      apply List.ext_getElem?
      intro j
      by_cases hj : j < k
      · exact HD.out j hj
      · rw [List.getElem?_eq_none (by rw [vsN_length, HO.out.len]; omega), List.getElem?_eq_none (by rw [vsN_length, HR.out.1]; omega)]


set_option maxHeartbeats 3200000 in
theorem eqIntSS_yes (A A' : Option Addr) (n c d B B' : Nat) (qs rs : List Nq) (w : World) (hx : NyI w B A n qs) (hy : NyI w B' A' n rs) (hn : n ≤ 1000000000) (h : vsN qs = vsN rs) :
    Calls Try.prog 48 #[.slice A n c, .slice A' n d] w fun e w' => e = .returned (.bool true) ∧ ∃ z, w' = w.drewN z := by
  have HX := hide hx
  have HY := hide hy
  have HV := hide h
  clear hx hy h
  go_enter Try.func48, Try.ntmps48
  go_wp2
  go_loopw [5] (fun i wr => ∃ (k z : Nat), k ≤ n ∧ i = .int .i64 k ∧ wr = w.drewN z) (fun i _ => n - (intOf i).toNat)
  case atStart => exact ⟨0, 0, Nat.zero_le _, rfl, rfl⟩
  case round =>
    obtain ⟨k, z, hk, rfl, rfl⟩ := hrel
    by_cases hlt : k < n
    · obtain ⟨a, ha⟩ : ∃ x, qs[k]? = some x := ⟨_, List.getElem?_eq_getElem (by rw [HX.out.1]; exact hlt)⟩
      obtain ⟨b, hb⟩ : ∃ x, rs[k]? = some x := ⟨_, List.getElem?_eq_getElem (by rw [HY.out.1]; exact hlt)⟩
      have her : a.ps = b.ps := by
        have h1 := vsN_get ha
        have h2 := vsN_get hb
        rw [HV.out, h2] at h1
        injection h1 with h1
        exact h1.symm
      have hX := HX.out.drewN z
      have hY := HY.out.drewN z
      obtain ⟨ad, rfl, _, hc0⟩ := hX.at_ ha
      obtain ⟨ad', rfl, _, hd0⟩ := hY.at_ hb
      have hla := (hX.row_ ha).2
      have hlb := (hY.row_ hb).2
      have HSI := hide fun (i : Nat) => quiet_on3 (eqIntS_yes a.addr b.addr a.ps.length a.cap b.ps.length b.cap B B' a.ps b.ps ((w.drewN z).drewN i) ((hX.row_ ha).1.drewN i) ((hY.row_ hb).1.drewN i) (by omega) (by omega) her)
      unfold Nq.sl at hc0 hd0
      have k0 : (0 : Int) ≤ (k : Int) := by omega
      have k1 : (k : Int) < (n : Int) := by omega
      clear ha hb hX hY her hla hlb
      generalize hw : w.drewN z = wz at hc0 hd0 HSI ⊢
      go_wp2_with fail
      go_quiet ((go_at_call 21; exact HSI.out _))
      go_wp2
      go_roundw
      case rel => exact ⟨k + 1, _, by omega, by go_num, by rw [← hw]; first | exact World.drewN_drewN _ _ _ | rfl⟩
      case measure => simp [intOf]; omega
    · obtain rfl : k = n := by omega
      go_wp2
      go_ret
      exact ⟨rfl, z, rfl⟩
end Go.Proofs.Ytiopbgenkalfaaa
