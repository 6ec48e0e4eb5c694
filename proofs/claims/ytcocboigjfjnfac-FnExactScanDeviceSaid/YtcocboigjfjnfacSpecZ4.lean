/-
  The model's DeviceErase, DeviceAppend.
-/
import Derived.Test.YtcocboigjfjnfacSpecZ3
namespace Go.Proofs.Ytcocboigjfjnfac
open Go.RowKit
set_option linter.unusedVariables false
set_option maxRecDepth 100000

/-- a device and whether it could be done -/
def DevPost (w : World) (v : Bool) (ds : Dev) (e : Ending) (w' : World) : Prop :=
  ∃ A2 m c2 qs2, e = .returned (.tuple #[.slice A2 m c2, .bool v]) ∧ OwnZ w' w.heap.size A2 m c2 qs2 ∧ zns qs2 = ds ∧ Below w.heap.size w w'
/-- a device and a number -/
def DevPostI (w : World) (v : Int) (ds : Dev) (e : Ending) (w' : World) : Prop :=
  ∃ A2 m c2 qs2, e = .returned (.tuple #[.slice A2 m c2, .int .i64 v]) ∧ OwnZ w' w.heap.size A2 m c2 qs2 ∧ zns qs2 = ds ∧ Below w.heap.size w w'

theorem devV_iff {ds : Dev} : devV ds = true ↔ (∀ z ∈ ds, zoneOk z = true) ∧ ds.length = 4 := by simp [devV]
theorem devV_len {qs : List Zq} (h : devV (zns qs) = true) : ∀ q ∈ qs, q.words.length ≤ 64 := by
  intro q hq
  have h1 := (devV_iff.1 h).1 q.zn (List.mem_map_of_mem hq)
  simp only [zoneOk, Zq.zn, Bool.and_eq_true] at h1
  exact of_decide_eq_true h1.1.2
theorem devV_four {qs : List Zq} (h : devV (zns qs) = true) : qs.length = 4 := by
  have := (devV_iff.1 h).2
  simpa [zns] using this


theorem OwnZ.after {w w3 : World} {base g n c k : Nat} {qs : List Zq} {q : Zq} (h : OwnZ w base (some ⟨g, 0, none⟩) n c qs) (hk : qs[k]? = some q) (hg : w.grownBy w3 q.sl.ownBlock) :
    w3.cell? ⟨g, k * 3, none⟩ = some q.sl ∧ w3.frozen? ⟨g, k * 3, none⟩ = false := by
  have hob : (Value.slice (some (⟨g, 0, none⟩ : Addr)) n c).ownBlock = some g := rfl
  have hr := h.row.kept hg (by
    rcases hb : q.sl.ownBlock with _ | b
    · exact .inr (by rw [hob]; simp)
    · exact .inr (by rw [hob]; intro e; injection e with e; subst e; exact h.far hk hob hb))
  refine ⟨?_, hr.frozenAt (k * 3)⟩
  have h0 : (flat qs)[k * 3]? = some q.sl := by rw [show k * 3 = k * 3 + 0 from rfl, flat_get hk 0 (by omega)]; rfl
  have := hr.cells rfl (k * 3) q.sl h0
  rwa [add_plain'] at this

/-- behind 'd[k].Words = append(d[k].Words, ..)' -/
theorem OwnZ.wrote {w w3 : World} {base g n c k m c3 : Nat} {qs : List Zq} {q : Zq} {A3 : Option Addr} {ws3 : List Int} (h : OwnZ w base (some ⟨g, 0, none⟩) n c qs) (hk : qs[k]? = some q) (hg : w.grownBy w3 q.sl.ownBlock)
    (ho : Own w3 base A3 m c3 ws3) (hat : (Value.slice A3 m c3).ownBlock = q.sl.ownBlock ∨ (Value.slice A3 m c3).ownBlock = some w.heap.size) :
    OwnZ (w3.setCell ⟨g, k * 3, none⟩ (.slice A3 m c3)) base (some ⟨g, 0, none⟩) n c (qs.set k ⟨ws3, q.synced, q.full, A3, c3⟩) ∧ w3.grownBy (w3.setCell ⟨g, k * 3, none⟩ (.slice A3 m c3)) (some g) := by
  have hm := ho.1
  subst hm
  refine h.put hk hg (fun b hb => ⟨fun e => ?_, fun i r hi hik e => ?_⟩) ⟨ws3, q.synced, q.full, A3, c3⟩ 0 (.slice A3 ws3.length c3) (by omega) rfl ho (fun i r hi hik b hb => ?_)
  · subst e
    exact h.far hk rfl hb
  · exact h.sep k i q r hk hi (fun e => hik e.symm) b hb e
  · show (Value.slice A3 ws3.length c3).ownBlock ≠ some b
    rcases hat with e | e
    · rw [e]; exact h.sep i k r q hi hk hik b hb
    · rw [e]
      have := (h.wblock hi b hb).2
      intro e2
      injection e2 with e2
      omega

/-- what DeviceAppend tells -/
def appendD (ds : Dev) (z : Int) (ws : List Int) : Dev :=
  if devV ds && inB z 0 3 && allW ws then
    match ds[z.toNat]? with
    | some q => if !q.2.2 && decide (q.1.length + ws.length ≤ 64) then ds.set z.toNat (q.1 ++ ws, q.2.1, q.2.2) else ds
    | none => ds
  else []
def appendN (ds : Dev) (z : Int) (ws : List Int) : Int :=
  if devV ds && inB z 0 3 && allW ws then
    match ds[z.toNat]? with
    | some q => if !q.2.2 && decide (q.1.length + ws.length ≤ 64) then 0 else 1
    | none => 1
  else 2

theorem appendD_no {ds : Dev} {z : Int} {ws : List Int} (h : (devV ds && inB z 0 3 && allW ws) = false) : appendD ds z ws = [] := by unfold appendD; rw [h]; rfl
theorem appendN_no {ds : Dev} {z : Int} {ws : List Int} (h : (devV ds && inB z 0 3 && allW ws) = false) : appendN ds z ws = 2 := by unfold appendN; rw [h]; rfl
theorem zns_get {qs : List Zq} {k : Nat} {q : Zq} (h : qs[k]? = some q) : (zns qs)[k]? = some q.zn := by unfold zns; rw [List.getElem?_map, h]; rfl
theorem zns_get_inv {qs : List Zq} {k : Nat} {z : List Int × Int × Bool} (h : (zns qs)[k]? = some z) : ∃ q, qs[k]? = some q ∧ q.zn = z := by
  unfold zns at h
  rw [List.getElem?_map] at h
  rcases h2 : qs[k]? with _ | q
  · rw [h2] at h; cases h
  · rw [h2] at h; exact ⟨q, rfl, by injection h⟩
theorem appendD_yes {ds : Dev} {k : Nat} {ws : List Int} {q : List Int × Int × Bool} (h : (devV ds && inB k 0 3 && allW ws) = true) (hq : ds[k]? = some q) :
    appendD ds k ws = if !q.2.2 && decide (q.1.length + ws.length ≤ 64) then ds.set k (q.1 ++ ws, q.2.1, q.2.2) else ds := by
  unfold appendD; rw [if_pos h]; simp only [Int.toNat_natCast, hq]
theorem appendN_yes {ds : Dev} {k : Nat} {ws : List Int} {q : List Int × Int × Bool} (h : (devV ds && inB k 0 3 && allW ws) = true) (hq : ds[k]? = some q) :
    appendN ds k ws = if !q.2.2 && decide (q.1.length + ws.length ≤ 64) then 0 else 1 := by
  unfold appendN; rw [if_pos h]; simp only [Int.toNat_natCast, hq]

set_option maxHeartbeats 1600000 in
/-- no such zone, an invalid device, or a word out of range -/
theorem specAppend_no (A X : Option Addr) (n c C m d : Nat) (z : Int) (v : Bool) (ws : List Int) (w : World)
    (hz : Calls Try.prog 70 #[.slice A n c, .int .i64 z] w fun e w' => e = .returned (.bool v) ∧ ∃ q, w' = w.drewN q) (hx : Ints w C X m ws) (hm : m ≤ maxLen) (hno : (v && allW ws) = false) :
    Calls Try.prog 47 #[.slice A n c, .int .i64 z, .slice X m d] w (DevPostI w 2 []) := by
  have HZ := hide hz
  have HW := hide fun (W : World) (h : Ints W C X m ws) => words_any X m d C ws W h hm
  have HX := hide hx
  clear hz hx
  generalize allW ws = u at HW hno
  go_enter Try.func47, Try.ntmps47
  rcases v with _ | _
  · clear hno
    go_wp2_with fail
    refine HZ.out.mono ?_
    rintro e w1 ⟨rfl, i, rfl⟩
    go_wp2
    go_ret2
    exact ⟨_, _, _, [], rfl, OwnZ.lit0 (w.drewN i) w.heap.size (Nat.le_refl _), rfl, (below_drewN (Below.refl _ _) i).alloc (Nat.le_refl _) _⟩
  · obtain rfl : u = false := by simpa using hno
    clear hno
    go_wp2_with fail
    refine HZ.out.mono ?_
    rintro e w1 ⟨rfl, i, rfl⟩
    go_wp2_with fail
    refine (HW.out _ (HX.out.drewN i)).mono ?_
    rintro e w1 ⟨rfl, rfl⟩
    go_wp2
    go_ret2
    exact ⟨_, _, _, [], rfl, OwnZ.lit0 (w.drewN i) w.heap.size (Nat.le_refl _), rfl, (below_drewN (Below.refl _ _) i).alloc (Nat.le_refl _) _⟩

/-- what is known of the copied device, ahead of the append -/
structure Mine (w w2 : World) (g k c2 : Nat) (qs2 : List Zq) (q2 : Zq) : Prop where
  own : OwnZ w2 w.heap.size (some ⟨g, 0, none⟩) 4 c2 qs2
  at_ : qs2[k]? = some q2
  below : Below w.heap.size w w2

set_option maxHeartbeats 6400000 in
/-- there is such a zone -/
theorem specAppend_yes (A X : Option Addr) (n c B C k m d : Nat) (q : Zq) (qs : List Zq) (ws : List Int) (w : World) (hr : Zns w B A n qs) (hB : B ≤ w.heap.size) (hx : Ints w C X m ws) (hC : C ≤ w.heap.size) (hm : m ≤ 1000000000000)
    (hz : Calls Try.prog 70 #[.slice A n c, .int .i64 k] w fun e w' => e = .returned (.bool true) ∧ ∃ q, w' = w.drewN q) (hw : allW ws = true) (hk4 : k < 4) (h4 : n = 4) (hq : qs[k]? = some q) (hl : ∀ q ∈ qs, q.words.length ≤ 64) :
    Calls Try.prog 47 #[.slice A n c, .int .i64 k, .slice X m d] w (DevPostI w (if !q.full && decide (q.words.length + m ≤ 64) then 0 else 1)
      (if !q.full && decide (q.words.length + m ≤ 64) then (zns qs).set k (q.words ++ ws, q.synced, q.full) else zns qs)) := by
  subst h4
  have HZ := hide hz
  have hmx : m ≤ maxLen := by unfold maxLen; omega
  have HW := hide fun (W : World) (h : Ints W C X m ws) => hw ▸ words_any X m d C ws W h hmx
  have HX := hide hx
  have hql := hl q (List.mem_of_getElem? hq)
  have HC := hide fun (W : World) (h : Zns W B A 4 qs) (hBW : B ≤ W.heap.size) => specCopy A 4 c B qs W h hBW (by omega) (fun r hr' => by have := hl r hr'; omega)
  have HR := hide fun (W : World) (h : Zns W B A 4 qs) => specRoom A 4 c B k m q qs W h hq (by omega) hm (by omega)
  have HZN := hide hr
  have HQ := hide (zns_get hq)
  clear hw hr hx hq hz hl
  obtain ⟨room, hroom⟩ : ∃ room, (!q.full && decide (q.words.length + m ≤ 64)) = room := ⟨_, rfl⟩
  rw [hroom] at HR ⊢
  clear hroom
  obtain ⟨N, hN⟩ : ∃ N : Int, (if room = true then 0 else 1) = N := ⟨_, rfl⟩
  obtain ⟨D, hD⟩ : ∃ D, (if room = true then (zns qs).set k (q.words ++ ws, q.synced, q.full) else zns qs) = D := ⟨_, rfl⟩
  rw [hN, hD]
  have HND := hide (And.intro hN hD)
  clear hN hD
  go_enter Try.func47, Try.ntmps47
  go_wp2_with fail
  refine HZ.out.mono ?_
  rintro e w1 ⟨rfl, i, rfl⟩
  go_wp2_with fail
  refine (HW.out _ (HX.out.drewN i)).mono ?_
  rintro e w1 ⟨rfl, rfl⟩
  go_wp2_with fail
  refine (HC.out _ (HZN.out.drewN i) hB).mono ?_
  rintro e w2 ⟨A2, c2, qs2, rfl, ho, hz, hb⟩
  have hb2 : Below w.heap.size w w2 := (below_drewN (Below.refl _ _) i).trans hb
  have hs2 := hb2.size
  have HO := hide (ho : OwnZ w2 w.heap.size A2 4 c2 qs2)
  have HZ2 := hide hz
  have HB2 := hide hb2
  have HX2 := hide (HX.out.below hb2 hC)
  clear ho hz hb hb2
  go_wp2_with fail
  refine (HR.out _ (HZN.out.below HB2.out hB)).mono ?_
  rintro e w3 ⟨rfl, j, rfl⟩
  have hj2 : w.heap.size ≤ (w2.drewN j).heap.size := hs2
  rcases room with _ | _
  · obtain rfl : 1 = N := HND.out.1
    go_wp2
    go_ret2
    exact ⟨_, _, _, _, rfl, HO.out.drewN j, HZ2.out.trans HND.out.2, below_drewN HB2.out j⟩
  · obtain rfl : 0 = N := HND.out.1
    have HD := hide (show (zns qs).set k (q.words ++ ws, q.synced, q.full) = D from HND.out.2)
    clear HND
    obtain ⟨q2, hq2, he2⟩ := zns_get_inv (HZ2.out ▸ HQ.out : (zns qs2)[k]? = some q.zn)
    have HOJ := hide (HO.out.drewN j)
    obtain ⟨g, rfl, hg0, hg1⟩ := HO.out.shape (by omega)
    obtain ⟨hc0, hc1, hc2⟩ := HOJ.out.at_ hq2
    have HWO := hide (HOJ.out.own k q2 hq2)
    have HAF := hide fun (w3 : World) (hg : (w2.drewN j).grownBy w3 q2.sl.ownBlock) => HOJ.out.after hq2 hg
    have HWR := hide fun (w3 : World) (m3 c3 : Nat) (A3 : Option Addr) (ws3 : List Int) (hg : (w2.drewN j).grownBy w3 q2.sl.ownBlock) (ho : Own w3 w.heap.size A3 m3 c3 ws3) (hat : (Value.slice A3 m3 c3).ownBlock = q2.sl.ownBlock ∨ (Value.slice A3 m3 c3).ownBlock = some (w2.drewN j).heap.size) => HOJ.out.wrote hq2 hg ho hat
    have HBK := hide (HOJ.out.wblock hq2)
    have hset : ∀ (A3 : Option Addr) (c3 : Nat), zns (qs2.set k ⟨q2.words ++ ws, q2.synced, q2.full, A3, c3⟩) = (zns qs).set k (q.words ++ ws, q.synced, q.full) := by
      intro A3 c3
      rw [zns_set, HZ2.out]
      unfold Zq.zn at he2 ⊢
      injection he2 with h1 h2
      injection h2 with h2 h3
      rw [h1, h2, h3]
    have HS := hide hset
    have h64 : q2.words.length ≤ 64 := by
      have : q2.words = q.words := by unfold Zq.zn at he2; injection he2
      rw [this]; exact hql
    have HGG := hide (And.intro hg0 hg1)
    clear hset he2 hq2 hql HQ HR HC HW HZ HZN HO hg0 hg1
    obtain ⟨ws2, sy2, fu2, qa, qc⟩ := q2
    simp only [Zq.sl] at hc0 hc1 hc2 HWO HAF HWR HBK HS h64
    generalize ws2.length = l at hc0 HWO HAF HWR HBK h64
    have hlm : l + m ≤ 17592186044416 := by omega
    have k0 : (0 : Int) ≤ (k : Int) := by omega
    have k1 : (k : Int) < ((4 : Nat) : Int) := by omega
    clear hc1 hc2
    go_wp2_with (at_builtin; refine wpList_append_ints rfl (.tmp 34) (.tmp 35) rfl w.heap.size l qc C m d qa X ws2 ws rfl HWO.out rfl (HX2.out.drewN j) hlm hj2 ?_; intro A4 c4 w4 ho4 hg4 hat4; have hcf := HAF.out _ hg4; have hc4 := hcf.1; have hf4 := hcf.2; have HWR4 := hide (HWR.out _ _ _ _ _ hg4 ho4 hat4); have HB4 := hide (below_of_grown' hg4 (B := w.heap.size) hj2 (fun b hb => (HBK.out b hb).1)); clear hat4 hcf hg4 ho4)
    go_ret2
    exact ⟨_, _, _, _, rfl, HWR4.out.1, (HS.out _ _).trans HD.out, ((below_drewN HB2.out j).trans HB4.out).grown HWR4.out.2 (Nat.le_trans HB2.out.size HB4.out.size) (fun b hb => by injection hb with hb; subst hb; exact HGG.out.1)⟩

theorem specAppend (A X : Option Addr) (n c B C m d : Nat) (z : Int) (qs : List Zq) (ws : List Int) (w : World) (hr : Zns w B A n qs) (hB : B ≤ w.heap.size) (hn : n ≤ 100000000000) (hx : Ints w C X m ws) (hC : C ≤ w.heap.size) (hm : m ≤ 1000000000000) :
    Calls Try.prog 47 #[.slice A n c, .int .i64 z, .slice X m d] w (DevPostI w (appendN (zns qs) z ws) (appendD (zns qs) z ws)) := by
  have hz := specZone A n c B z qs w hr (by omega)
  by_cases hok : (devV (zns qs) && inB z 0 3 && allW ws) = true
  · have h2 := hok
    simp only [Bool.and_eq_true] at h2
    obtain ⟨⟨hv, hz3⟩, hw⟩ := h2
    obtain ⟨hz0, hz1⟩ := inB_iff.1 hz3
    obtain ⟨k, rfl⟩ : ∃ k : Nat, z = (k : Int) := ⟨z.toNat, by omega⟩
    have hk4 : k < 4 := by omega
    have h4 : n = 4 := by rw [← hr.1]; exact devV_four hv
    obtain ⟨q, hq⟩ : ∃ q, qs[k]? = some q := ⟨_, List.getElem?_eq_getElem (by rw [hr.1, h4]; exact hk4)⟩
    rw [hv, hz3] at hz
    rw [appendD_yes hok (zns_get hq), appendN_yes hok (zns_get hq)]
    have := specAppend_yes A X n c B C k m d q qs ws w hr hB hx hC hm hz hw hk4 h4 hq (devV_len hv)
    simpa only [Zq.zn, hx.1] using this
  · have hno := Bool.eq_false_iff.2 hok
    rw [appendD_no hno, appendN_no hno]
    exact specAppend_no A X n c C m d z _ ws w hz hx (by unfold maxLen; omega) hno
end Go.Proofs.Ytcocboigjfjnfac
