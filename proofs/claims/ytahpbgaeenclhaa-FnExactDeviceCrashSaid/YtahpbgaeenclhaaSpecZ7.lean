/-
  The model's DeviceCrash.
-/
import Derived.Test.YtahpbgaeenclhaaSpecZ6
namespace Go.Proofs.Ytahpbgaeenclhaa
open Go.RowKit
set_option linter.unusedVariables false
set_option maxRecDepth 100000

/-- how many words a zone keeps -/
def keepN (q : List Int × Int × Bool) (n : Int) : Int := q.2.1 + min n (q.1.length - q.2.1)
def crashZ (q : List Int × Int × Bool) (n : Int) : List Int × Int × Bool := (q.1.take (keepN q n).toNat, keepN q n, q.2.2)
def crashOk (ds : Dev) (ks : List Int) : Bool := devV ds && decide (ks.length = 4) && ks.all (fun n => decide (0 ≤ n))
def crashD (ds : Dev) (ks : List Int) : Dev := if crashOk ds ks then List.zipWith crashZ ds ks else []
theorem crashOk_iff {ds : Dev} {ks : List Int} : crashOk ds ks = true ↔ devV ds = true ∧ ks.length = 4 ∧ ∀ n ∈ ks, 0 ≤ n := by
  unfold crashOk
  simp [Bool.and_eq_true, and_assoc]
theorem crashOk_neg {ds : Dev} {ks : List Int} {k : Nat} (hk : k < ks.length) (h : ks.getD k 0 < 0) : crashOk ds ks = false := by
  rcases e : crashOk ds ks with _ | _
  · rfl
  · have := (crashOk_iff.1 e).2.2 (ks.getD k 0) (by simp [List.getD, hk])
    omega
theorem crashOk_all {ds : Dev} {ks : List Int} (hv : devV ds = true) (h4 : ks.length = 4) (h : ∀ i, i < 4 → 0 ≤ ks.getD i 0) : crashOk ds ks = true := by
  refine crashOk_iff.2 ⟨hv, h4, fun n hn => ?_⟩
  obtain ⟨i, hi⟩ := List.getElem?_of_mem hn
  have hl : i < ks.length := (List.getElem?_eq_some_iff.1 hi).1
  have := h i (by omega)
  simp [List.getD, hi] at this
  exact this
theorem crash_get {ds : Dev} {ks : List Int} {k : Nat} {q : List Int × Int × Bool} (hq : ds[k]? = some q) (hk : k < ks.length) : (List.zipWith crashZ ds ks)[k]? = some (crashZ q (ks.getD k 0)) := by
  rw [List.getElem?_zipWith, hq]
  simp [List.getD, hk]
theorem crash_len {ds : Dev} {ks : List Int} (h : ds.length = 4) (hk : ks.length = 4) : (List.zipWith crashZ ds ks).length = 4 := by rw [List.length_zipWith, h, hk]; rfl
/-- one more zone -/
theorem crash_step {ds ds' : Dev} {ks : List Int} {k : Nat} {q : List Int × Int × Bool} (h4 : ds.length = 4) (hk4 : ks.length = 4) (hq : ds[k]? = some q) (hd : ds' = (List.zipWith crashZ ds ks).take k ++ ds.drop k) :
    ds'[k]? = some q ∧ ds'.set k (crashZ q (ks.getD k 0)) = (List.zipWith crashZ ds ks).take (k + 1) ++ ds.drop (k + 1) := by
  have hl : k < ds.length := (List.getElem?_eq_some_iff.1 hq).1
  have hzl := crash_len h4 hk4
  subst hd
  refine ⟨?_, set_step (by rw [hzl, h4]) (crash_get hq (by omega))⟩
  rw [List.getElem?_append_right (by rw [List.length_take]; omega), List.getElem?_drop, ← hq]
  congr 1
  rw [List.length_take]
  omega
/-- what a valid zone's numbers are -/
theorem keep_rng {q : List Int × Int × Bool} {n : Int} (h : zoneOk q = true) (hn : 0 ≤ n) : 0 ≤ q.2.1 ∧ q.2.1 ≤ q.1.length ∧ q.1.length ≤ 64 ∧ q.2.1 ≤ keepN q n ∧ keepN q n ≤ q.1.length := by
  unfold zoneOk at h
  simp only [Bool.and_eq_true, decide_eq_true_eq] at h
  obtain ⟨h1, h2⟩ := inB_iff.1 h.2
  have h3 := h.1.2
  unfold keepN
  refine ⟨h1, h2, h3, by omega, by omega⟩

set_option maxHeartbeats 1600000 in
theorem specCrash_no (A K : Option Addr) (n c m d : Nat) (v : Bool) (ds : Dev) (ks : List Int) (w : World)
    (hv : Calls Try.prog 12 #[.slice A n c] w fun e w' => e = .returned (.bool v) ∧ ∃ z, w' = w.drewN z) (hm : m ≤ maxLen) (hno : v = false ∨ m ≠ 4) :
    Calls Try.prog 33 #[.slice A n c, .slice K m d] w (DevPost w false []) := by
  have HV := hide hv
  have hm' : m ≤ 9223372036854775807 := by unfold maxLen at hm; omega
  clear hv
  rcases v with _ | _
  · clear hno
    go_enter Try.func33, Try.ntmps33
    go_wp2_with fail
    refine HV.out.mono ?_
    rintro e w1 ⟨rfl, q, rfl⟩
    go_wp2
    go_ret2
    exact devpost_none q
  · have h4 : m ≠ 4 := by rcases hno with h | h; cases h; exact h
    have h4' : ((m : Int) != 4) = true := by simp; omega
    have h4'' : ((m : Int) == 4) = false := by simp; omega
    clear hno h4
    go_enter Try.func33, Try.ntmps33
    go_wp2_with fail
    refine HV.out.mono ?_
    rintro e w1 ⟨rfl, q, rfl⟩
    go_wp2
    go_ret2
    exact devpost_none q

set_option maxHeartbeats 6400000 in
theorem specCrash_yes (A K : Option Addr) (c B C d : Nat) (qs : List Zq) (ks : List Int) (w : World) (hr : Zns w B A 4 qs) (hB : B ≤ w.heap.size) (hx : Ints w C K 4 ks) (hC : C ≤ w.heap.size) (hv : devV (zns qs) = true) :
    Calls Try.prog 33 #[.slice A 4 c, .slice K 4 d] w (DevPost w (crashOk (zns qs) ks) (crashD (zns qs) ks)) := by
  have HV := hide (hv ▸ specDV A 4 c B qs w hr (by omega))
  have HR := hide hr
  have HX := hide hx
  have HC := hide fun (W : World) (h : Zns W B A 4 qs) (hBW : B ≤ W.heap.size) => specCopy A 4 c B qs W h hBW (by omega) (fun r hr' => by have := devV_len hv r hr'; omega)
  have HVV := hide hv
  have HL4 := hide (show (zns qs).length = 4 by unfold zns; rw [List.length_map]; exact hr.1)
  clear hr hx hv
  go_enter Try.func33, Try.ntmps33
  go_wp2_with fail
  refine HV.out.mono ?_
  rintro e w1 ⟨rfl, i, rfl⟩
  go_wp2_with fail
  refine (HC.out _ (HR.out.drewN i) hB).mono ?_
  rintro e w2 ⟨A2, c2, qs2, rfl, ho, hz, hb2⟩
  have hb2' : Below w.heap.size w w2 := (below_drewN (Below.refl _ _) i).trans hb2
  have HO := hide (ho : OwnZ w2 w.heap.size A2 4 c2 qs2)
  have HB2 := hide hb2'
  have HZ2 := hide hz
  obtain ⟨g, rfl, hg0, hg1⟩ := HO.out.shape (by omega)
  have hg0' : w.heap.size ≤ g := hg0
  clear ho hz hb2 hb2' HC HV
  go_wp2
  go_loopw [7] (fun i wr => ∃ (k : Nat) (rs : List Zq), k ≤ 4 ∧ i = .int .i64 k ∧ Hid (OwnZ wr w.heap.size (some ⟨g, 0, none⟩) 4 c2 rs) ∧ Hid (zns rs = (List.zipWith crashZ (zns qs) ks).take k ++ (zns qs).drop k) ∧ Hid (Below w.heap.size w wr) ∧ Hid (∀ i, i < k → 0 ≤ ks.getD i 0)) (fun i _ => 4 - (intOf i).toNat)
  case atStart => exact ⟨0, qs2, Nat.zero_le _, rfl, HO.out, by show _ = _; rw [HZ2.out]; simp, HB2.out, fun i hi => absurd hi (by omega)⟩
  case round =>
    obtain ⟨k, rs, hk, rfl, HOR, HZR, HBR, HNN⟩ := hrel
    have hs := HBR.out.size
    by_cases hlt : k < 4
    · have k0 : (0 : Int) ≤ (k : Int) := by omega
      have k1 : (k : Int) < ((4 : Nat) : Int) := by omega
      have k2 : (k : Int) < 4 := by omega
      obtain ⟨adk, e2, hkb, hkc⟩ := (HX.out.below HBR.out hC).at_ hlt
      subst e2
      have HKN := hide fun (h : ks.getD k 0 < 0) => crashOk_neg (ds := zns qs) (by rw [HX.out.1]; exact hlt) h
      obtain ⟨n, hn⟩ : ∃ n, ks.getD k 0 = n := ⟨_, rfl⟩
      rw [hn] at hkc HKN
      have HN := hide hn
      clear hn
      by_cases hneg : n < 0
      · have HF := hide (HKN.out hneg)
        clear HKN
        go_wp2
        go_ret2
        rw [show crashD (zns qs) ks = [] by unfold crashD; rw [HF.out]; rfl, HF.out]
        exact ⟨_, _, _, [], rfl, OwnZ.lit0 _ w.heap.size hs, rfl, HBR.out.alloc hs _⟩
      · clear HKN
        obtain ⟨q, hq⟩ : ∃ q, qs[k]? = some q := ⟨_, List.getElem?_eq_getElem (by rw [HR.out.1]; exact hlt)⟩
        have hqz := zns_get hq
        have HST := hide (crash_step HL4.out HX.out.1 hqz HZR.out)
        have hzok : zoneOk q.zn = true := (devV_iff.1 HVV.out).1 q.zn (List.mem_map_of_mem (List.mem_of_getElem? hq))
        have hkr := keep_rng hzok (n := n) (by omega)
        obtain ⟨r, hr, her⟩ := zns_get_inv HST.out.1
        have HRR := hide hr
        have HDR := hide (HR.out.below HBR.out hB)
        obtain ⟨ad, p, rfl, hp, hb5, hc0, hc1, hc2⟩ := HDR.out.at_ hq
        obtain ⟨hi, hle, hcm⟩ := HDR.out.words hq
        have HER := hide her
        clear hq hr her hqz hc2 hzok
        obtain ⟨ws, sy, fu, qa, qc⟩ := q
        simp only [Zq.zn] at hkr HST HER
        rw [HN.out] at HST
        obtain ⟨x, hx⟩ : ∃ x : Nat, keepN (ws, sy, fu) n = (x : Int) := ⟨(keepN (ws, sy, fu) n).toNat, by omega⟩
        have hxe : sy + min n (ws.length - sy) = (x : Int) := hx
        have HCZ := hide (show crashZ (ws, sy, fu) n = (ws.take x, (x : Int), fu) by unfold crashZ; rw [hx]; simp)
        rw [hx] at hkr
        simp only [Zq.sl] at hc0 hc1 hi hle hcm
        obtain ⟨m, hm⟩ : ∃ m, ws.length = m := ⟨_, rfl⟩
        rw [hm] at hc0 hi hle hkr hxe
        obtain ⟨hr0, hr1, hr2, hr3, hr4⟩ := hkr
        try simp only at hr0 hr1 hr2 hr3 hr4
        have hqc2 : qc ≤ 9223372036854775807 := by unfold maxLen at hcm; omega
        have hxm : x ≤ m := by omega
        have x0 : (0 : Int) ≤ (x : Int) := by omega
        have x1 : (x : Int) ≤ (qc : Int) := by omega
        have HI0 := hide hi
        have hBr : B ≤ wr.heap.size := by omega
        have HIN := hide ((hi.alloc (by omega) (.cells #[] 3)).firsts hxm)
        have HQI := hide (Own.lit0 wr w.heap.size hs)
        have hnm : 0 + x ≤ 17592186044416 := by omega
        have hbs : w.heap.size ≤ (wr.alloc (.cells #[] 3)).heap.size := by simp; omega
        have hpb : p.block < wr.heap.size := by omega
        have HX1 := hide hxe
        clear hi hle hm hx hxe hcm
        have HEND : Hid (∀ (W : World) (nq : Nat) (A4 : Option Addr) (c4 : Nat) (w4 : World), W = wr.drewN nq → Own w4 w.heap.size A4 x c4 (ws.take x) → (W.alloc (.cells #[] 3)).grownBy w4 (some W.heap.size) →
            ((Value.slice A4 x c4).ownBlock = (Value.slice (some ⟨W.heap.size, 0, none⟩) 0 0).ownBlock ∨ (Value.slice A4 x c4).ownBlock = some (W.alloc (.cells #[] 3)).heap.size) →
            w4.cell? ⟨g, k * 3, none⟩ = some r.sl ∧ w4.frozen? ⟨g, k * 3, none⟩ = false ∧ (w4.setCell ⟨g, k * 3, none⟩ (.slice A4 x c4)).cell? ⟨g, k * 3 + 1, none⟩ = some (.int .i64 r.synced) ∧
            (w4.setCell ⟨g, k * 3, none⟩ (.slice A4 x c4)).frozen? ⟨g, k * 3 + 1, none⟩ = false ∧
            (∃ rs', OwnZ ((w4.setCell ⟨g, k * 3, none⟩ (.slice A4 x c4)).setCell ⟨g, k * 3 + 1, none⟩ (.int .i64 x)) w.heap.size (some ⟨g, 0, none⟩) 4 c2 rs' ∧ zns rs' = (List.zipWith crashZ (zns qs) ks).take (k + 1) ++ (zns qs).drop (k + 1) ∧
              Below w.heap.size w ((w4.setCell ⟨g, k * 3, none⟩ (.slice A4 x c4)).setCell ⟨g, k * 3 + 1, none⟩ (.int .i64 x)))) := by
          intro W nq A4 c4 w4 hW ho hg hat
          subst hW
          have HK := cut_kept (w := w) (HOR.out.drewN nq) HRR.out (below_drewN HBR.out nq) ho hg hat
          refine ⟨HK.2.1, HK.2.2.1, HK.2.2.2.2.1, HK.2.2.2.2.2.1, _, (HK.1 x).1, ?_, HK.2.2.2.1.grown (HK.1 x).2 HK.2.2.2.1.size (fun b hb => by injection hb with hb; subst hb; exact hg0')⟩
          rw [zns_set, ← HST.out.2, HCZ.out]
          congr 1
          have he := HER.out
          unfold Zq.zn at he ⊢
          injection he with h1 h2
          injection h2 with h2 h3
          rw [h3]
        have HNN' : Hid (∀ i, i < k + 1 → 0 ≤ ks.getD i 0) := by
          intro i hi
          by_cases e : i = k
          · subst e; rw [HN.out]; omega
          · exact HNN.out i (by omega)
        clear HRR HST HCZ HER
        have HIW := hide fun (nq : Nat) => ((HI0.out.drewN nq).alloc (show B ≤ (wr.drewN nq).heap.size from hBr) (.cells #[] 3)).firsts hxm
        clear HIN HQI hbs HI0
        rcases (show n ≤ (m : Int) - sy ∨ (m : Int) - sy < n by omega) with hmn | hmn
        · have hsum : sy + n = (x : Int) := by have := HX1.out; omega
          go_upto_region 9 with (fail)
          go_quiet (fail)
          go_upto_region 10 with (fail)
          obtain ⟨W, hW⟩ : ∃ W, wr.drewN nq = W := ⟨_, rfl⟩
          have HW := hide hW.symm
          have hWs : W.heap.size = wr.heap.size := by rw [← hW]; rfl
          have hw0 : W.cell? p = some (.slice qa m qc) := by rw [← hW]; exact hc0
          have HQW : Hid (Own (W.alloc (.cells #[] 3)) w.heap.size (some ⟨W.heap.size, 0, none⟩) 0 0 []) := Own.lit0 W w.heap.size (by omega)
          have HIX := hide (HIW.out nq)
          rw [hW] at HIX ⊢
          have hw0a := (World.cell?_alloc_lt W (.cells #[] 3) p (by omega)).trans hw0
          have hbs : w.heap.size ≤ (W.alloc (.cells #[] 3)).heap.size := by simp; omega
          have HWS := hide hWs
          clear hW hsum hmn hw0 hc0 hc1 HIW hWs
          go_upto_region 11 with
            (at_builtin; refine wpList_append_ints rfl (.tmp 55) (.tmp 62) rfl w.heap.size 0 0 B x qc (some ⟨W.heap.size, 0, none⟩) qa [] (ws.take x) rfl HQW.out rfl HIX.out hnm hbs ?_; intro A4 c4 w4 ho4 hg4' hat4; simp only [Nat.zero_add, List.nil_append] at ho4 hat4 ⊢; have hg4 : (W.alloc (.cells #[] 3)).grownBy w4 (some W.heap.size) := hg4'; have HK4 := hide (HEND.out W nq A4 c4 w4 HW.out ho4 hg4 hat4); have hk40 := HK4.out.1; have hf40 := HK4.out.2.1; clear hg4 hg4' hat4 ho4)
          have hk51 := HK4.out.2.2.1
          have hf51 := HK4.out.2.2.2.1
          obtain ⟨rs', ho', hz', hb'⟩ := HK4.out.2.2.2.2
          have HO' := hide ho'
          have HZ' := hide hz'
          have HB' := hide hb'
          clear ho' hz' hb' hk40 hf40 hw0a
          go_wp2
          go_roundw
          case rel => exact ⟨k + 1, rs', by omega, by go_num, HO'.out, HZ'.out, HB'.out, HNN'.out⟩
          case measure => simp [intOf]; omega
        · obtain rfl : m = x := by have := HX1.out; omega
          have hsum : sy + ((m : Int) - sy) = (m : Int) := by omega
          go_upto_region 9 with (fail)
          go_quiet (fail)
          go_upto_region 10 with (fail)
          obtain ⟨W, hW⟩ : ∃ W, wr.drewN nq = W := ⟨_, rfl⟩
          have HW := hide hW.symm
          have hWs : W.heap.size = wr.heap.size := by rw [← hW]; rfl
          have hw0 : W.cell? p = some (.slice qa m qc) := by rw [← hW]; exact hc0
          have HQW : Hid (Own (W.alloc (.cells #[] 3)) w.heap.size (some ⟨W.heap.size, 0, none⟩) 0 0 []) := Own.lit0 W w.heap.size (by omega)
          have HIX := hide (HIW.out nq)
          rw [hW] at HIX ⊢
          have hw0a := (World.cell?_alloc_lt W (.cells #[] 3) p (by omega)).trans hw0
          have hbs : w.heap.size ≤ (W.alloc (.cells #[] 3)).heap.size := by simp; omega
          have HWS := hide hWs
          clear hW hsum hmn hw0 hc0 hc1 HIW hWs
          go_upto_region 11 with
            (at_builtin; refine wpList_append_ints rfl (.tmp 55) (.tmp 62) rfl w.heap.size 0 0 B m qc (some ⟨W.heap.size, 0, none⟩) qa [] (ws.take m) rfl HQW.out rfl HIX.out hnm hbs ?_; intro A4 c4 w4 ho4 hg4' hat4; simp only [Nat.zero_add, List.nil_append] at ho4 hat4 ⊢; have hg4 : (W.alloc (.cells #[] 3)).grownBy w4 (some W.heap.size) := hg4'; have HK4 := hide (HEND.out W nq A4 c4 w4 HW.out ho4 hg4 hat4); have hk40 := HK4.out.1; have hf40 := HK4.out.2.1; clear hg4 hg4' hat4 ho4)
          have hk51 := HK4.out.2.2.1
          have hf51 := HK4.out.2.2.2.1
          obtain ⟨rs', ho', hz', hb'⟩ := HK4.out.2.2.2.2
          have HO' := hide ho'
          have HZ' := hide hz'
          have HB' := hide hb'
          clear ho' hz' hb' hk40 hf40 hw0a
          go_wp2
          go_roundw
          case rel => exact ⟨k + 1, rs', by omega, by go_num, HO'.out, HZ'.out, HB'.out, HNN'.out⟩
          case measure => simp [intOf]; omega
    · obtain rfl : k = 4 := by omega
      have HOK := hide (crashOk_all HVV.out HX.out.1 HNN.out)
      go_wp2
      go_ret2
      rw [HOK.out, show crashD (zns qs) ks = List.zipWith crashZ (zns qs) ks by unfold crashD; rw [HOK.out]; rfl]
      refine ⟨_, _, _, _, rfl, HOR.out, ?_, HBR.out⟩
      rw [HZR.out, List.take_of_length_le (by rw [crash_len HL4.out HX.out.1]; exact Nat.le_refl _), List.drop_of_length_le (by rw [HL4.out]; exact Nat.le_refl _), List.append_nil]

theorem specCrash (A K : Option Addr) (n c B C m d : Nat) (qs : List Zq) (ks : List Int) (w : World) (hr : Zns w B A n qs) (hB : B ≤ w.heap.size) (hn : n ≤ 1000000000) (hx : Ints w C K m ks) (hC : C ≤ w.heap.size) (hm : m ≤ maxLen) :
    Calls Try.prog 33 #[.slice A n c, .slice K m d] w (DevPost w (crashOk (zns qs) ks) (crashD (zns qs) ks)) := by
  by_cases h : devV (zns qs) = true ∧ m = 4
  · obtain ⟨hv, rfl⟩ := h
    have h4 : n = 4 := by rw [← hr.1]; exact devV_four hv
    subst h4
    exact specCrash_yes A K c B C d qs ks w hr hB hx hC hv
  · have hno : crashOk (zns qs) ks = false := by
      rcases e : crashOk (zns qs) ks with _ | _
      · rfl
      · have h2 := crashOk_iff.1 e
        exact absurd ⟨h2.1, by rw [← hx.1]; exact h2.2.1⟩ h
    rw [hno, show crashD (zns qs) ks = [] by unfold crashD; rw [hno]; rfl]
    refine specCrash_no A K n c m d _ (zns qs) ks w (specDV A n c B qs w hr (by omega)) hm ?_
    rcases hv : devV (zns qs) with _ | _
    · exact .inl rfl
    · exact .inr fun h2 => h ⟨hv, h2⟩
end Go.Proofs.Ytahpbgaeenclhaa
