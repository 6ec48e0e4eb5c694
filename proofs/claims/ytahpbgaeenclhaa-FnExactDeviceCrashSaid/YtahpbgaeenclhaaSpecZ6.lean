/-
  The model's DeviceCut.
-/
import Derived.Test.YtahpbgaeenclhaaSpecZ5
import Derived.Deep.DeepCutAuto
import Derived.Deep.CutBlock
namespace Go.Proofs.Ytahpbgaeenclhaa
open Go.RowKit
set_option linter.unusedVariables false
set_option maxRecDepth 100000

def cutOk (ds : Dev) (z n : Int) : Bool := zoneV ds z && (match ds[z.toNat]? with | some q => inB n 0 q.1.length | none => false)
def cutZ (n : Int) (q : List Int × Int × Bool) : List Int × Int × Bool := (q.1.take n.toNat, min q.2.1 n, q.2.2)
def cutD (ds : Dev) (z n : Int) : Dev := if cutOk ds z n then modD ds z (cutZ n) else []
theorem cutOk_no {ds : Dev} {z n : Int} (h : zoneV ds z = false) : cutOk ds z n = false := by unfold cutOk; rw [h]; rfl
theorem cutOk_at {ds : Dev} {k : Nat} {n : Int} {q : List Int × Int × Bool} (h : zoneV ds k = true) (hq : ds[k]? = some q) : cutOk ds k n = inB n 0 q.1.length := by
  unfold cutOk; rw [h]; simp only [Int.toNat_natCast, hq, Bool.true_and]

/-- a zone's words and how many of them last, laid anew -/
theorem OwnZ.anew2 {w w3 : World} {base g n c k c3 : Nat} {qs : List Zq} {q : Zq} {A3 : Option Addr} {ws3 : List Int} {row : Option Nat} (h : OwnZ w base (some ⟨g, 0, none⟩) n c qs) (hk : qs[k]? = some q) (hg : w.grownBy w3 row)
    (hrow : ∀ b, row = some b → w.heap.size ≤ b) (ho : Own w3 base A3 ws3.length c3 ws3) (hat : ∀ b, (Value.slice A3 ws3.length c3).ownBlock = some b → w.heap.size ≤ b) (sy : Int) :
    OwnZ ((w3.setCell ⟨g, k * 3, none⟩ (.slice A3 ws3.length c3)).setCell ⟨g, k * 3 + 1, none⟩ (.int .i64 sy)) base (some ⟨g, 0, none⟩) n c (qs.set k ⟨ws3, sy, q.full, A3, c3⟩) ∧
      w3.grownBy ((w3.setCell ⟨g, k * 3, none⟩ (.slice A3 ws3.length c3)).setCell ⟨g, k * 3 + 1, none⟩ (.int .i64 sy)) (some g) ∧
      OwnZ (w3.setCell ⟨g, k * 3, none⟩ (.slice A3 ws3.length c3)) base (some ⟨g, 0, none⟩) n c (qs.set k ⟨ws3, q.synced, q.full, A3, c3⟩) ∧ w3.grownBy (w3.setCell ⟨g, k * 3, none⟩ (.slice A3 ws3.length c3)) (some g) := by
  have hlt : g < w.heap.size := by
    obtain ⟨g', e, _, hl⟩ := h.shape (by rw [← h.len]; exact Nat.lt_of_le_of_lt (Nat.zero_le _) (List.getElem?_eq_some_iff.1 hk).1)
    injection e with e
    injection e with e
    subst e
    exact hl
  have p1 := h.put hk hg (fun b hb => ⟨fun e => by have := hrow b hb; omega, fun i r hi hik e => by have := hrow b hb; have := (h.wblock hi b e).2; omega⟩) ⟨ws3, q.synced, q.full, A3, c3⟩ 0 (.slice A3 ws3.length c3) (by omega) rfl ho
    (fun i r hi hik b hb e => by have := hat b e; have := (h.wblock hi b hb).2; omega)
  have hl : k < qs.length := (List.getElem?_eq_some_iff.1 hk).1
  have p2 := p1.1.put_in (k := k) (q := ⟨ws3, q.synced, q.full, A3, c3⟩) (by rw [List.getElem?_set_self hl]) ⟨ws3, sy, q.full, A3, c3⟩ 1 (.int .i64 sy) (by omega) rfl rfl rfl rfl
  rw [List.set_set] at p2
  exact ⟨p2.1, grown_trans' p1.2 p2.2, p1⟩

set_option maxHeartbeats 1600000 in
theorem specCut_no (A : Option Addr) (n c B : Nat) (z x : Int) (qs : List Zq) (w : World) (hr : Zns w B A n qs) (hB : B ≤ w.heap.size) (hn : n ≤ 100000000000) (hno : cutOk (zns qs) z x = false) :
    Calls Try.prog 31 #[.slice A n c, .int .i64 z, .int .i64 x] w (DevPost w false []) := by
  have HZ := hide (specZone A n c B z qs w hr (by omega))
  have HR := hide hr
  rcases hv : zoneV (zns qs) z with _ | _
  · have e : (devV (zns qs) && inB z 0 3) = false := hv
    rw [e] at HZ
    clear hv hr e hno
    go_enter Try.func31, Try.ntmps31
    go_wp2_with fail
    refine HZ.out.mono ?_
    rintro e w1 ⟨rfl, q, rfl⟩
    go_wp2
    go_ret2
    exact devpost_none q
  · have e : (devV (zns qs) && inB z 0 3) = true := hv
    rw [e] at HZ
    obtain ⟨k, q, rfl, hk4, h4, hq, hl⟩ := zone_parts hr hv
    subst h4
    rw [cutOk_at hv (zns_get hq)] at hno
    have HI := hide fun (W : World) => in_any x 0 q.words.length W
    have hno' : inB x 0 q.words.length = false := hno
    rw [hno'] at HI
    obtain ⟨ad, p, rfl, hp, hb, hc0, hc1, hc2⟩ := hr.at_ hq
    have hql := hl q (List.mem_of_getElem? hq)
    clear hv hr e hno hno' hq hl hc1 hc2
    obtain ⟨ws, sy, fu, qa, qc⟩ := q
    simp only [Zq.sl] at hc0 HI hql
    generalize ws.length = m at hc0 HI hql
    have k0 : (0 : Int) ≤ (k : Int) := by omega
    have k1 : (k : Int) < ((4 : Nat) : Int) := by omega
    have k2 : (k : Int) < 4 := by omega
    go_enter Try.func31, Try.ntmps31
    go_wp2_with fail
    refine HZ.out.mono ?_
    rintro e w1 ⟨rfl, i, rfl⟩
    go_wp2_with fail
    refine (HI.out _).mono ?_
    rintro e w1 ⟨rfl, rfl⟩
    go_wp2
    go_ret2
    exact devpost_none i

/-- what is known behind the append of a cut -/
theorem cut_kept {w w2 w4 : World} {g k c2 x c4 : Nat} {qs2 : List Zq} {q2 : Zq} {A4 : Option Addr} {ws : List Int} (hO : OwnZ w2 w.heap.size (some ⟨g, 0, none⟩) 4 c2 qs2) (hq : qs2[k]? = some q2) (hB : Below w.heap.size w w2)
    (ho : Own w4 w.heap.size A4 x c4 ws) (hg : (w2.alloc (.cells #[] 3)).grownBy w4 (some w2.heap.size))
    (hat : (Value.slice A4 x c4).ownBlock = (Value.slice (some ⟨w2.heap.size, 0, none⟩) 0 0).ownBlock ∨ (Value.slice A4 x c4).ownBlock = some (w2.alloc (.cells #[] 3)).heap.size) :
    (∀ s : Int, OwnZ ((w4.setCell ⟨g, k * 3, none⟩ (.slice A4 x c4)).setCell ⟨g, k * 3 + 1, none⟩ (.int .i64 s)) w.heap.size (some ⟨g, 0, none⟩) 4 c2 (qs2.set k ⟨ws, s, q2.full, A4, c4⟩) ∧
      w4.grownBy ((w4.setCell ⟨g, k * 3, none⟩ (.slice A4 x c4)).setCell ⟨g, k * 3 + 1, none⟩ (.int .i64 s)) (some g)) ∧
    w4.cell? ⟨g, k * 3, none⟩ = some q2.sl ∧ w4.frozen? ⟨g, k * 3, none⟩ = false ∧ Below w.heap.size w w4 ∧
    (w4.setCell ⟨g, k * 3, none⟩ (.slice A4 x c4)).cell? ⟨g, k * 3 + 1, none⟩ = some (.int .i64 q2.synced) ∧ (w4.setCell ⟨g, k * 3, none⟩ (.slice A4 x c4)).frozen? ⟨g, k * 3 + 1, none⟩ = false ∧
    Below w.heap.size w (w4.setCell ⟨g, k * 3, none⟩ (.slice A4 x c4)) := by
  have hs := hB.size
  have hg0 : w.heap.size ≤ g ∧ g < w2.heap.size := hO.block g rfl
  have hx := ho.1
  subst hx
  have hat' : ∀ b, (Value.slice A4 ws.length c4).ownBlock = some b → w2.heap.size ≤ b := by
    intro b hb
    rw [hb] at hat
    rcases hat with e | e
    · injection e with e; rw [e]; exact Nat.le_refl _
    · injection e with e; rw [e, size_alloc]; omega
  have hK := (hO.alloc (.cells #[] 3)).kept hg (fun b hb => by
    injection hb with hb
    subst hb
    exact ⟨fun e => by have := (hO.block _ e).2; omega, fun j r hj e => by have := (hO.wblock hj _ e).2; omega⟩)
  have hB4 : Below w.heap.size w w4 := (hB.alloc hs (.cells #[] 3)).grown hg (by rw [size_alloc]; omega) (fun b hb => by injection hb with hb; omega)
  have hA := fun s => hO.anew2 (w3 := w4) (c3 := c4) (A3 := A4) (row := some w2.heap.size) hq ((World.grownBy_alloc w2 (.cells #[] 3) (some w2.heap.size)).trans hg) (fun b hb => by injection hb with hb; omega) ho hat' s
  have h3 := (hA 0).2.2.1
  have hl : k < qs2.length := (List.getElem?_eq_some_iff.1 hq).1
  have hqk : (qs2.set k ⟨ws, q2.synced, q2.full, A4, c4⟩)[k]? = some ⟨ws, q2.synced, q2.full, A4, c4⟩ := by rw [List.getElem?_set_self hl]
  exact ⟨fun s => ⟨(hA s).1, (hA s).2.1⟩, (hK.at_ hq).1, hK.free, hB4, (h3.at_ hqk).2.1, h3.free, hB4.grown (hA 0).2.2.2 hB4.size (fun b hb => by injection hb with hb; omega)⟩

set_option maxHeartbeats 3200000 in
theorem specCut_yes (A : Option Addr) (c B k x : Nat) (q : Zq) (qs : List Zq) (w : World) (hr : Zns w B A 4 qs) (hB : B ≤ w.heap.size)
    (hz : Calls Try.prog 44 #[.slice A 4 c, .int .i64 k] w fun e w' => e = .returned (.bool true) ∧ ∃ q, w' = w.drewN q) (hk4 : k < 4) (hq : qs[k]? = some q) (hl : ∀ r ∈ qs, r.words.length ≤ 64) (hx : x ≤ q.words.length) :
    Calls Try.prog 31 #[.slice A 4 c, .int .i64 k, .int .i64 x] w (DevPost w true ((zns qs).set k (cutZ x q.zn))) := by
  have HZ := hide hz
  have HR := hide hr
  have HC := hide fun (W : World) (h : Zns W B A 4 qs) (hBW : B ≤ W.heap.size) => specCopy A 4 c B qs W h hBW (by omega) (fun r hr' => by have := hl r hr'; omega)
  have HI := hide fun (W : World) => (inB_true (by omega) (by omega) : inB (x : Int) 0 q.words.length = true) ▸ in_any (x : Int) 0 q.words.length W
  have HQ := hide (zns_get hq)
  have hql := hl q (List.mem_of_getElem? hq)
  have HQ1 := hide hq
  have HWD := hide (hr.words hq)
  have HAT := hide fun (W : World) (h : Zns W B A 4 qs) => h.at_ hq
  obtain ⟨D, hD⟩ : ∃ D : Dev, (zns qs).set k (cutZ x q.zn) = D := ⟨_, rfl⟩
  rw [hD]
  have HD := hide hD
  obtain ⟨ad, p, rfl, hp, hb, hc0, hc1, hc2⟩ := hr.at_ hq
  have hpe := hp
  have hqc := HWD.out.2
  clear hz hr hq hl hD hc2
  obtain ⟨ws, sy, fu, qa, qc⟩ := q
  simp only [Zq.sl] at hc0 hc1 HI hql hx HWD HAT hqc
  obtain ⟨m, hm⟩ : ∃ m, ws.length = m := ⟨_, rfl⟩
  rw [hm] at hc0 HI hql hx HWD HAT hqc
  have HM := hide hm
  have hqc1 := hqc.1
  have hqc2 : qc ≤ 9223372036854775807 := by have := hqc.2; unfold maxLen at this; omega
  have k0 : (0 : Int) ≤ (k : Int) := by omega
  have k1 : (k : Int) < ((4 : Nat) : Int) := by omega
  have k2 : (k : Int) < 4 := by omega
  have x0 : (0 : Int) ≤ (x : Int) := by omega
  have x1 : (x : Int) ≤ (qc : Int) := by omega
  clear hm hqc hpe
  go_enter Try.func31, Try.ntmps31
  go_wp2_with fail
  refine HZ.out.mono ?_
  rintro e w1 ⟨rfl, i, rfl⟩
  go_wp2_with fail
  refine (HI.out _).mono ?_
  rintro e w1 ⟨rfl, rfl⟩
  go_wp2_with fail
  refine (HC.out _ (HR.out.drewN i) hB).mono ?_
  rintro e w2 ⟨A2, c2, qs2, rfl, ho, hz, hb2⟩
  have hb2' : Below w.heap.size w w2 := (below_drewN (Below.refl _ _) i).trans hb2
  have HO := hide (ho : OwnZ w2 w.heap.size A2 4 c2 qs2)
  have HB2 := hide hb2'
  obtain ⟨q2, hq2, he2⟩ := zns_get_inv (hz ▸ HQ.out)
  have HQ2 := hide hq2
  have HE2 := hide he2
  have HZ2 := hide hz
  obtain ⟨g, rfl, hg0, hg1⟩ := HO.out.shape (by omega)
  have hs2 := HB2.out.size
  have HQI := hide (Own.lit0 w2 w.heap.size hs2)
  have HIN := hide (((HWD.out.1.below HB2.out hB).alloc (by omega) (.cells #[] 3)).firsts hx)
  have hd0 := (HB2.out.alloc hs2 (.cells #[] 3)).cell (p := p) (by omega)
  rw [hc0] at hd0
  have hnm : 0 + x ≤ 17592186044416 := by omega
  have hbs : w.heap.size ≤ (w2.alloc (.cells #[] 3)).heap.size := by simp; omega
  clear ho hz hb2 hb2' hq2 he2
  go_upto_region 5 with
    (at_builtin; refine wpList_append_ints rfl (.tmp 29) (.tmp 36) rfl w.heap.size 0 0 B x qc (some ⟨w2.heap.size, 0, none⟩) qa [] (ws.take x) rfl HQI.out rfl HIN.out hnm hbs ?_; intro A4 c4 w4 ho4 hg4' hat4; simp only [Nat.zero_add, List.nil_append] at ho4 hat4 ⊢; have hg4 : (w2.alloc (.cells #[] 3)).grownBy w4 (some w2.heap.size) := hg4'; have HK4 := hide (cut_kept (w := w) HO.out HQ2.out HB2.out ho4 hg4 hat4); have hk40 := HK4.out.2.1; have hf40 := HK4.out.2.2.1; have HS4 := hide hg4.size; clear hg4 hg4' hat4 ho4)
  have HB5 := HK4.out.2.2.2.2.2.2
  have hk51 := HK4.out.2.2.2.2.1
  have hf51 := HK4.out.2.2.2.2.2.1
  have hd1 := HB5.cell (p := ⟨p.block, p.off + 1, none⟩) (by show p.block < _; omega)
  rw [hc1] at hd1
  have HEND : Hid (∀ s : Int, s = min sy x → DevPost w true D (.returned (.tuple #[.slice (some ⟨g, 0, none⟩) 4 c2, .bool true])) ((w4.setCell ⟨g, k * 3, none⟩ (.slice A4 x c4)).setCell ⟨g, k * 3 + 1, none⟩ (.int .i64 s))) := by
    intro s hs
    refine ⟨_, _, _, _, rfl, (HK4.out.1 s).1, ?_, HK4.out.2.2.2.1.grown (HK4.out.1 s).2 HK4.out.2.2.2.1.size (fun b hb => by injection hb with hb; subst hb; exact hg0)⟩
    rw [zns_set, HZ2.out, ← HD.out]
    congr 1
    have he := HE2.out
    unfold Zq.zn at he ⊢
    injection he with h1 h2
    injection h2 with h2 h3
    unfold cutZ
    simp only [Int.toNat_natCast]
    rw [hs, h3]
  clear HB5 hk40 hf40 hd0 hc0 hc1
  by_cases hl : sy ≤ (x : Int)
  · have HE := hide (HEND.out sy (by omega))
    clear HEND
    go_wp2
    go_ret2
    exact HE.out
  · have HE := hide (HEND.out x (by omega))
    clear HEND
    go_wp2
    go_ret2
    exact HE.out

theorem specCut (A : Option Addr) (n c B : Nat) (z x : Int) (qs : List Zq) (w : World) (hr : Zns w B A n qs) (hB : B ≤ w.heap.size) (hn : n ≤ 100000000000) :
    Calls Try.prog 31 #[.slice A n c, .int .i64 z, .int .i64 x] w (DevPost w (cutOk (zns qs) z x) (cutD (zns qs) z x)) := by
  unfold cutD
  rcases hok : cutOk (zns qs) z x with _ | _
  · exact specCut_no A n c B z x qs w hr hB hn hok
  · rw [if_pos rfl]
    have hv : zoneV (zns qs) z = true := by
      rcases h : zoneV (zns qs) z with _ | _
      · rw [cutOk_no h] at hok; cases hok
      · rfl
    have hz := specZone A n c B z qs w hr (by omega)
    have e : (devV (zns qs) && inB z 0 3) = true := hv
    rw [e] at hz
    obtain ⟨k, q, rfl, hk4, h4, hq, hl⟩ := zone_parts hr hv
    subst h4
    rw [cutOk_at hv (zns_get hq)] at hok
    obtain ⟨h0, h1⟩ := inB_iff.1 hok
    obtain ⟨y, rfl⟩ : ∃ y : Nat, x = (y : Int) := ⟨x.toNat, by omega⟩
    rw [modD_at (zns_get hq)]
    exact specCut_yes A c B k y q qs w hr hB hz hk4 hq hl (by have : q.zn.1 = q.words := rfl; rw [this] at h1; omega)
end Go.Proofs.Ytahpbgaeenclhaa
