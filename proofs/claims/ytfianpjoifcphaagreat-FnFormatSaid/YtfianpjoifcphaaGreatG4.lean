/-
  Texts in one: SpecZ3, SpecZ4, SameO, DrawZ2, SpecO3, ImpO1, SpecZ5, ExIZ, ExMZ, FrameG, FrameI, SpecO4, SpecM6. Plain.
-/
import Derived.Test.YtfianpjoifcphaaGreatSpecZ2
import Derived.Test.YtfianpjoifcphaaGreatSpecO2
import Derived.Test.YtfianpjoifcphaaGreatG1
import Derived.Test.YtfianpjoifcphaaGreatQo
import Derived.Test.YtfianpjoifcphaaGreatG3
import Derived.Test.YtfianpjoifcphaaGreatG2
import Derived.Test.YtfianpjoifcphaaGreatExHZ
import Derived.Test.YtfianpjoifcphaaGreatFrameT
import Derived.Test.YtfianpjoifcphaaGreatSpecM5
/- SpecZ3 -/
namespace Go.Proofs.YtfianpjoifcphaaGreat
open Go.RowKit
set_option linter.unusedVariables false
set_option maxRecDepth 100000

def syncZ (z : List Int × Int × Bool) : List Int × Int × Bool := (z.1, (z.1.length : Int), z.2.2)
def syncD (ds : Dev) : Dev := ds.map syncZ

theorem set_step {α : Type} {s d : List α} {k : Nat} {y : α} (hl : s.length = d.length) (hy : s[k]? = some y) : (s.take k ++ d.drop k).set k y = s.take (k + 1) ++ d.drop (k + 1) := by
  have hk : k < s.length := (List.getElem?_eq_some_iff.1 hy).1
  apply List.ext_getElem?
  intro i
  rw [List.getElem?_set]
  have h1 : (s.take k).length = k := by rw [List.length_take]; omega
  have h2 : (s.take (k + 1)).length = k + 1 := by rw [List.length_take]; omega
  rcases Nat.lt_trichotomy i k with h | h | h
  · rw [if_neg (by omega), List.getElem?_append_left (by omega), List.getElem?_append_left (by omega), List.getElem?_take_of_lt h, List.getElem?_take_of_lt (by omega)]
  · subst h
    rw [if_pos rfl, if_pos (by rw [List.length_append, h1, List.length_drop]; omega), List.getElem?_append_left (by omega), List.getElem?_take_of_lt (by omega), hy]
  · rw [if_neg (by omega), List.getElem?_append_right (by omega), List.getElem?_append_right (by omega), h1, h2, List.getElem?_drop, List.getElem?_drop]
    congr 1
    omega

theorem zns_set (qs : List Zq) (k : Nat) (q : Zq) : zns (qs.set k q) = (zns qs).set k q.zn := by unfold zns; rw [List.map_set]

theorem OwnZ.at_ {w : World} {base g n c k : Nat} {qs : List Zq} {q : Zq} (h : OwnZ w base (some ⟨g, 0, none⟩) n c qs) (hk : qs[k]? = some q) :
    w.cell? ⟨g, k * 3, none⟩ = some q.sl ∧ w.cell? ⟨g, k * 3 + 1, none⟩ = some (.int .i64 q.synced) ∧ w.cell? ⟨g, k * 3 + 2, none⟩ = some (.bool q.full) := by
  obtain ⟨ad, p, e, hp, _, h0, h1, h2⟩ := h.zns.at_ hk
  injection e with e
  subst e
  rw [add_plain'] at hp
  subst hp
  exact ⟨h0, h1, h2⟩

set_option maxHeartbeats 3200000 in
theorem specSyncZ (A : Option Addr) (n c B : Nat) (qs : List Zq) (w : World) (hr : Zns w B A n qs) (hB : B ≤ w.heap.size) (hn : n ≤ 100000000000) (hl : ∀ q ∈ qs, q.words.length ≤ 1000000000000) :
    Calls Tryz.prog 79 #[.slice A n c] w fun e w' => ∃ A2 c2 qs2, e = .returned (.slice A2 n c2) ∧ OwnZ w' w.heap.size A2 n c2 qs2 ∧ zns qs2 = syncD (zns qs) ∧ Below w.heap.size w w' := by
  have HC := hide (specCopy A n c B qs w hr hB hn hl)
  have hds : (zns qs).length = n := by unfold zns; rw [List.length_map]; exact hr.1
  generalize zns qs = ds at HC hds ⊢
  clear hr hl
  have HDS := hide hds
  clear hds
  go_enter Tryz.func79, Tryz.ntmps79
  go_wp2_with fail
  refine HC.out.mono ?_
  rintro e w1 ⟨A2, c2, qs2, rfl, ho1, hz1, hb1⟩
  have HO1 := hide ho1
  have HZ1 := hide hz1
  have HB1 := hide hb1
  clear ho1 hz1 hb1
  go_wp2
  go_loopw [4] (fun i wr => ∃ (k : Nat) (rs : List Zq), k ≤ n ∧ i = .int .i64 k ∧ Hid (OwnZ wr w.heap.size A2 n c2 rs) ∧ Hid (zns rs = (syncD ds).take k ++ ds.drop k) ∧ Hid (Below w.heap.size w wr)) (fun i _ => n - (intOf i).toNat)
  case atStart => exact ⟨0, qs2, Nat.zero_le _, rfl, HO1.out, by show _ = _; rw [HZ1.out]; simp, HB1.out⟩
  case round =>
    obtain ⟨k, rs, hk, rfl, HO, HZ, HB⟩ := hrel
    by_cases hlt : k < n
    · obtain ⟨g, rfl, hg0, hg1⟩ := HO.out.shape (by omega)
      obtain ⟨q, hq⟩ : ∃ q, rs[k]? = some q := ⟨_, List.getElem?_eq_getElem (by rw [HO.out.len]; exact hlt)⟩
      obtain ⟨hc0, hc1, hc2⟩ := HO.out.at_ hq
      have hfz := HO.out.free (j := k * 3 + 1)
      have hml := (HO.out.own k q hq).cap
      have hqz : (zns rs)[k]? = some q.zn := by unfold zns; rw [List.getElem?_map, hq]; rfl
      have hput := HO.out.put_in hq ⟨q.words, (q.words.length : Int), q.full, q.addr, q.cap⟩ 1 (.int .i64 q.words.length) (by omega) rfl rfl rfl rfl
      have hset : zns (rs.set k ⟨q.words, (q.words.length : Int), q.full, q.addr, q.cap⟩) = (syncD ds).take (k + 1) ++ ds.drop (k + 1) := by
        have hl := HDS.out
        have hd : ds[k]? = some q.zn := by
          rw [HZ.out, List.getElem?_append_right (by rw [List.length_take]; omega), List.getElem?_drop] at hqz
          rw [← hqz]
          congr 1
          rw [List.length_take]
          unfold syncD
          rw [List.length_map]
          omega
        rw [zns_set, HZ.out]
        refine set_step (by unfold syncD; rw [List.length_map]) ?_
        unfold syncD
        rw [List.getElem?_map, hd]
        rfl
      have HP := hide hput
      have HS := hide hset
      clear hput hset hqz hq
      obtain ⟨ws, sy, fu, qa, qc⟩ := q
      simp only [Zq.sl] at hc0 hc1 hc2 hml HP HS
      generalize ws.length = m at hc0 hml HP HS
      have hmx : m ≤ 9223372036854775807 := by unfold maxLen at hml; omega
      have k0 : (0 : Int) ≤ (k : Int) := by omega
      have k1 : (k : Int) < (n : Int) := by omega
      clear hml hc2
      go_wp2
      go_roundw
      case rel => exact ⟨k + 1, _, by omega, by go_num, HP.out.1, HS.out, HB.out.grown HP.out.2 HB.out.size (fun b hb => by injection hb with hb; omega)⟩
      case measure => simp [intOf]; omega
    · obtain rfl : k = n := by omega
      go_wp2
      go_ret
      have h := HZ.out
      have hl := HDS.out
      rw [List.take_of_length_le (by unfold syncD; rw [List.length_map]; omega), List.drop_of_length_le (by omega), List.append_nil] at h
      exact ⟨_, _, _, rfl, HO.out, h, HB.out⟩
end Go.Proofs.YtfianpjoifcphaaGreat

/- SpecZ4 -/
namespace Go.Proofs.YtfianpjoifcphaaGreat
open Go.RowKit
set_option linter.unusedVariables false
set_option maxRecDepth 100000

/-- a device and whether it could be done -/
def DevPost (w : World) (v : Bool) (ds : Dev) (e : Ending) (w' : World) : Prop :=
  ∃ A2 m c2 qs2, e = .returned (.tuple #[.slice A2 m c2, .bool v]) ∧ OwnZ w' w.heap.size A2 m c2 qs2 ∧ zns qs2 = ds ∧ Below w.heap.size w w'
/-- a device and a number -/
def DevPostI (w : World) (v : Int) (ds : Dev) (e : Ending) (w' : World) : Prop :=
  ∃ A2 m c2 qs2, e = .returned (.tuple #[.slice A2 m c2, .int .i64 v]) ∧ OwnZ w' w.heap.size A2 m c2 qs2 ∧ zns qs2 = ds ∧ Below w.heap.size w w'

theorem devV_iff {ds : Dev} : devV ds = true ↔ (∀ z ∈ ds, zoneOk z = true) ∧ ds.length = 4 := by simp [devV]
theorem devV_len {qs : List Zq} (h : devV (zns qs) = true) : ∀ q ∈ qs, q.words.length ≤ 64 := by
  intro q hq
  have h1 := (devV_iff.1 h).1 q.zn (List.mem_map_of_mem hq)
  simp only [zoneOk, Zq.zn, Bool.and_eq_true] at h1
  exact of_decide_eq_true h1.1.2
theorem devV_four {qs : List Zq} (h : devV (zns qs) = true) : qs.length = 4 := by
  have := (devV_iff.1 h).2
  simpa [zns] using this


theorem OwnZ.after {w w3 : World} {base g n c k : Nat} {qs : List Zq} {q : Zq} (h : OwnZ w base (some ⟨g, 0, none⟩) n c qs) (hk : qs[k]? = some q) (hg : w.grownBy w3 q.sl.ownBlock) :
    w3.cell? ⟨g, k * 3, none⟩ = some q.sl ∧ w3.frozen? ⟨g, k * 3, none⟩ = false := by
  have hob : (Value.slice (some (⟨g, 0, none⟩ : Addr)) n c).ownBlock = some g := rfl
  have hr := h.row.kept hg (by
    rcases hb : q.sl.ownBlock with _ | b
    · exact .inr (by rw [hob]; simp)
    · exact .inr (by rw [hob]; intro e; injection e with e; subst e; exact h.far hk hob hb))
  refine ⟨?_, hr.frozenAt (k * 3)⟩
  have h0 : (flat qs)[k * 3]? = some q.sl := by rw [show k * 3 = k * 3 + 0 from rfl, flat_get hk 0 (by omega)]; rfl
  have := hr.cells rfl (k * 3) q.sl h0
  rwa [add_plain'] at this

/-- behind 'd[k].Words = append(d[k].Words, ..)' -/
theorem OwnZ.wrote {w w3 : World} {base g n c k m c3 : Nat} {qs : List Zq} {q : Zq} {A3 : Option Addr} {ws3 : List Int} (h : OwnZ w base (some ⟨g, 0, none⟩) n c qs) (hk : qs[k]? = some q) (hg : w.grownBy w3 q.sl.ownBlock)
    (ho : Own w3 base A3 m c3 ws3) (hat : (Value.slice A3 m c3).ownBlock = q.sl.ownBlock ∨ (Value.slice A3 m c3).ownBlock = some w.heap.size) :
    OwnZ (w3.setCell ⟨g, k * 3, none⟩ (.slice A3 m c3)) base (some ⟨g, 0, none⟩) n c (qs.set k ⟨ws3, q.synced, q.full, A3, c3⟩) ∧ w3.grownBy (w3.setCell ⟨g, k * 3, none⟩ (.slice A3 m c3)) (some g) := by
  have hm := ho.1
  subst hm
  refine h.put hk hg (fun b hb => ⟨fun e => ?_, fun i r hi hik e => ?_⟩) ⟨ws3, q.synced, q.full, A3, c3⟩ 0 (.slice A3 ws3.length c3) (by omega) rfl ho (fun i r hi hik b hb => ?_)
  · subst e
    exact h.far hk rfl hb
  · exact h.sep k i q r hk hi (fun e => hik e.symm) b hb e
  · show (Value.slice A3 ws3.length c3).ownBlock ≠ some b
    rcases hat with e | e
    · rw [e]; exact h.sep i k r q hi hk hik b hb
    · rw [e]
      have := (h.wblock hi b hb).2
      intro e2
      injection e2 with e2
      omega

/-- what DeviceAppend tells -/
def appendD (ds : Dev) (z : Int) (ws : List Int) : Dev :=
  if devV ds && inB z 0 3 && allW ws then
    match ds[z.toNat]? with
    | some q => if !q.2.2 && decide (q.1.length + ws.length ≤ 64) then ds.set z.toNat (q.1 ++ ws, q.2.1, q.2.2) else ds
    | none => ds
  else []
def appendN (ds : Dev) (z : Int) (ws : List Int) : Int :=
  if devV ds && inB z 0 3 && allW ws then
    match ds[z.toNat]? with
    | some q => if !q.2.2 && decide (q.1.length + ws.length ≤ 64) then 0 else 1
    | none => 1
  else 2

theorem appendD_no {ds : Dev} {z : Int} {ws : List Int} (h : (devV ds && inB z 0 3 && allW ws) = false) : appendD ds z ws = [] := by unfold appendD; rw [h]; rfl
theorem appendN_no {ds : Dev} {z : Int} {ws : List Int} (h : (devV ds && inB z 0 3 && allW ws) = false) : appendN ds z ws = 2 := by unfold appendN; rw [h]; rfl
theorem zns_get {qs : List Zq} {k : Nat} {q : Zq} (h : qs[k]? = some q) : (zns qs)[k]? = some q.zn := by unfold zns; rw [List.getElem?_map, h]; rfl
theorem zns_get_inv {qs : List Zq} {k : Nat} {z : List Int × Int × Bool} (h : (zns qs)[k]? = some z) : ∃ q, qs[k]? = some q ∧ q.zn = z := by
  unfold zns at h
  rw [List.getElem?_map] at h
  rcases h2 : qs[k]? with _ | q
  · rw [h2] at h; cases h
  · rw [h2] at h; exact ⟨q, rfl, by injection h⟩
theorem appendD_yes {ds : Dev} {k : Nat} {ws : List Int} {q : List Int × Int × Bool} (h : (devV ds && inB k 0 3 && allW ws) = true) (hq : ds[k]? = some q) :
    appendD ds k ws = if !q.2.2 && decide (q.1.length + ws.length ≤ 64) then ds.set k (q.1 ++ ws, q.2.1, q.2.2) else ds := by
  unfold appendD; rw [if_pos h]; simp only [Int.toNat_natCast, hq]
theorem appendN_yes {ds : Dev} {k : Nat} {ws : List Int} {q : List Int × Int × Bool} (h : (devV ds && inB k 0 3 && allW ws) = true) (hq : ds[k]? = some q) :
    appendN ds k ws = if !q.2.2 && decide (q.1.length + ws.length ≤ 64) then 0 else 1 := by
  unfold appendN; rw [if_pos h]; simp only [Int.toNat_natCast, hq]

set_option maxHeartbeats 1600000 in
/-- no such zone, an invalid device, or a word out of range -/
theorem specAppend_no (A X : Option Addr) (n c C m d : Nat) (z : Int) (v : Bool) (ws : List Int) (w : World)
    (hz : Calls Tryz.prog 156 #[.slice A n c, .int .i64 z] w fun e w' => e = .returned (.bool v) ∧ ∃ q, w' = w.drewN q) (hx : Ints w C X m ws) (hm : m ≤ maxLen) (hno : (v && allW ws) = false) :
    Calls Tryz.prog 94 #[.slice A n c, .int .i64 z, .slice X m d] w (DevPostI w 2 []) := by
  have HZ := hide hz
  have HW := hide fun (W : World) (h : Ints W C X m ws) => words_any X m d C ws W h hm
  have HX := hide hx
  clear hz hx
  generalize allW ws = u at HW hno
  go_enter Tryz.func94, Tryz.ntmps94
  rcases v with _ | _
  · clear hno
    go_wp2_with fail
    refine HZ.out.mono ?_
    rintro e w1 ⟨rfl, i, rfl⟩
    go_wp2
    go_ret2
    exact ⟨_, _, _, [], rfl, OwnZ.lit0 (w.drewN i) w.heap.size (Nat.le_refl _), rfl, (below_drewN (Below.refl _ _) i).alloc (Nat.le_refl _) _⟩
  · obtain rfl : u = false := by simpa using hno
    clear hno
    go_wp2_with fail
    refine HZ.out.mono ?_
    rintro e w1 ⟨rfl, i, rfl⟩
    go_wp2_with fail
    refine (HW.out _ (HX.out.drewN i)).mono ?_
    rintro e w1 ⟨rfl, rfl⟩
    go_wp2
    go_ret2
    exact ⟨_, _, _, [], rfl, OwnZ.lit0 (w.drewN i) w.heap.size (Nat.le_refl _), rfl, (below_drewN (Below.refl _ _) i).alloc (Nat.le_refl _) _⟩
/-- what is known of the copied device, ahead of the append -/
structure Mine (w w2 : World) (g k c2 : Nat) (qs2 : List Zq) (q2 : Zq) : Prop where
  own : OwnZ w2 w.heap.size (some ⟨g, 0, none⟩) 4 c2 qs2
  at_ : qs2[k]? = some q2
  below : Below w.heap.size w w2

set_option maxHeartbeats 6400000 in
/-- there is such a zone -/
theorem specAppend_yes (A X : Option Addr) (n c B C k m d : Nat) (q : Zq) (qs : List Zq) (ws : List Int) (w : World) (hr : Zns w B A n qs) (hB : B ≤ w.heap.size) (hx : Ints w C X m ws) (hC : C ≤ w.heap.size) (hm : m ≤ 1000000000000)
    (hz : Calls Tryz.prog 156 #[.slice A n c, .int .i64 k] w fun e w' => e = .returned (.bool true) ∧ ∃ q, w' = w.drewN q) (hw : allW ws = true) (hk4 : k < 4) (h4 : n = 4) (hq : qs[k]? = some q) (hl : ∀ q ∈ qs, q.words.length ≤ 64) :
    Calls Tryz.prog 94 #[.slice A n c, .int .i64 k, .slice X m d] w (DevPostI w (if !q.full && decide (q.words.length + m ≤ 64) then 0 else 1)
      (if !q.full && decide (q.words.length + m ≤ 64) then (zns qs).set k (q.words ++ ws, q.synced, q.full) else zns qs)) := by
  subst h4
  have HZ := hide hz
  have hmx : m ≤ maxLen := by unfold maxLen; omega
  have HW := hide fun (W : World) (h : Ints W C X m ws) => hw ▸ words_any X m d C ws W h hmx
  have HX := hide hx
  have hql := hl q (List.mem_of_getElem? hq)
  have HC := hide fun (W : World) (h : Zns W B A 4 qs) (hBW : B ≤ W.heap.size) => specCopy A 4 c B qs W h hBW (by omega) (fun r hr' => by have := hl r hr'; omega)
  have HR := hide fun (W : World) (h : Zns W B A 4 qs) => specRoom A 4 c B k m q qs W h hq (by omega) hm (by omega)
  have HZN := hide hr
  have HQ := hide (zns_get hq)
  clear hw hr hx hq hz hl
  obtain ⟨room, hroom⟩ : ∃ room, (!q.full && decide (q.words.length + m ≤ 64)) = room := ⟨_, rfl⟩
  rw [hroom] at HR ⊢
  clear hroom
  obtain ⟨N, hN⟩ : ∃ N : Int, (if room = true then 0 else 1) = N := ⟨_, rfl⟩
  obtain ⟨D, hD⟩ : ∃ D, (if room = true then (zns qs).set k (q.words ++ ws, q.synced, q.full) else zns qs) = D := ⟨_, rfl⟩
  rw [hN, hD]
  have HND := hide (And.intro hN hD)
  clear hN hD
  go_enter Tryz.func94, Tryz.ntmps94
  go_wp2_with fail
  refine HZ.out.mono ?_
  rintro e w1 ⟨rfl, i, rfl⟩
  go_wp2_with fail
  refine (HW.out _ (HX.out.drewN i)).mono ?_
  rintro e w1 ⟨rfl, rfl⟩
  go_wp2_with fail
  refine (HC.out _ (HZN.out.drewN i) hB).mono ?_
  rintro e w2 ⟨A2, c2, qs2, rfl, ho, hz, hb⟩
  have hb2 : Below w.heap.size w w2 := (below_drewN (Below.refl _ _) i).trans hb
  have hs2 := hb2.size
  have HO := hide (ho : OwnZ w2 w.heap.size A2 4 c2 qs2)
  have HZ2 := hide hz
  have HB2 := hide hb2
  have HX2 := hide (HX.out.below hb2 hC)
  clear ho hz hb hb2
  go_wp2_with fail
  refine (HR.out _ (HZN.out.below HB2.out hB)).mono ?_
  rintro e w3 ⟨rfl, j, rfl⟩
  have hj2 : w.heap.size ≤ (w2.drewN j).heap.size := hs2
  rcases room with _ | _
  · obtain rfl : 1 = N := HND.out.1
    go_wp2
    go_ret2
    exact ⟨_, _, _, _, rfl, HO.out.drewN j, HZ2.out.trans HND.out.2, below_drewN HB2.out j⟩
  · obtain rfl : 0 = N := HND.out.1
    have HD := hide (show (zns qs).set k (q.words ++ ws, q.synced, q.full) = D from HND.out.2)
    clear HND
    obtain ⟨q2, hq2, he2⟩ := zns_get_inv (HZ2.out ▸ HQ.out : (zns qs2)[k]? = some q.zn)
    have HOJ := hide (HO.out.drewN j)
    obtain ⟨g, rfl, hg0, hg1⟩ := HO.out.shape (by omega)
    obtain ⟨hc0, hc1, hc2⟩ := HOJ.out.at_ hq2
    have HWO := hide (HOJ.out.own k q2 hq2)
    have HAF := hide fun (w3 : World) (hg : (w2.drewN j).grownBy w3 q2.sl.ownBlock) => HOJ.out.after hq2 hg
    have HWR := hide fun (w3 : World) (m3 c3 : Nat) (A3 : Option Addr) (ws3 : List Int) (hg : (w2.drewN j).grownBy w3 q2.sl.ownBlock) (ho : Own w3 w.heap.size A3 m3 c3 ws3) (hat : (Value.slice A3 m3 c3).ownBlock = q2.sl.ownBlock ∨ (Value.slice A3 m3 c3).ownBlock = some (w2.drewN j).heap.size) => HOJ.out.wrote hq2 hg ho hat
    have HBK := hide (HOJ.out.wblock hq2)
    have hset : ∀ (A3 : Option Addr) (c3 : Nat), zns (qs2.set k ⟨q2.words ++ ws, q2.synced, q2.full, A3, c3⟩) = (zns qs).set k (q.words ++ ws, q.synced, q.full) := by
      intro A3 c3
      rw [zns_set, HZ2.out]
      unfold Zq.zn at he2 ⊢
      injection he2 with h1 h2
      injection h2 with h2 h3
      rw [h1, h2, h3]
    have HS := hide hset
    have h64 : q2.words.length ≤ 64 := by
      have : q2.words = q.words := by unfold Zq.zn at he2; injection he2
      rw [this]; exact hql
    have HGG := hide (And.intro hg0 hg1)
    clear hset he2 hq2 hql HQ HR HC HW HZ HZN HO hg0 hg1
    obtain ⟨ws2, sy2, fu2, qa, qc⟩ := q2
    simp only [Zq.sl] at hc0 hc1 hc2 HWO HAF HWR HBK HS h64
    generalize ws2.length = l at hc0 HWO HAF HWR HBK h64
    have hlm : l + m ≤ 17592186044416 := by omega
    have k0 : (0 : Int) ≤ (k : Int) := by omega
    have k1 : (k : Int) < ((4 : Nat) : Int) := by omega
    clear hc1 hc2
    go_wp2_with (at_builtin; refine wpList_append_ints rfl (.tmp 34) (.tmp 35) rfl w.heap.size l qc C m d qa X ws2 ws rfl HWO.out rfl (HX2.out.drewN j) hlm hj2 ?_; intro A4 c4 w4 ho4 hg4 hat4; have hcf := HAF.out _ hg4; have hc4 := hcf.1; have hf4 := hcf.2; have HWR4 := hide (HWR.out _ _ _ _ _ hg4 ho4 hat4); have HB4 := hide (below_of_grown' hg4 (B := w.heap.size) hj2 (fun b hb => (HBK.out b hb).1)); clear hat4 hcf hg4 ho4)
    go_ret2
    exact ⟨_, _, _, _, rfl, HWR4.out.1, (HS.out _ _).trans HD.out, ((below_drewN HB2.out j).trans HB4.out).grown HWR4.out.2 (Nat.le_trans HB2.out.size HB4.out.size) (fun b hb => by injection hb with hb; subst hb; exact HGG.out.1)⟩
theorem specAppend (A X : Option Addr) (n c B C m d : Nat) (z : Int) (qs : List Zq) (ws : List Int) (w : World) (hr : Zns w B A n qs) (hB : B ≤ w.heap.size) (hn : n ≤ 100000000000) (hx : Ints w C X m ws) (hC : C ≤ w.heap.size) (hm : m ≤ 1000000000000) :
    Calls Tryz.prog 94 #[.slice A n c, .int .i64 z, .slice X m d] w (DevPostI w (appendN (zns qs) z ws) (appendD (zns qs) z ws)) := by
  have hz := specZone A n c B z qs w hr (by omega)
  by_cases hok : (devV (zns qs) && inB z 0 3 && allW ws) = true
  · have h2 := hok
    simp only [Bool.and_eq_true] at h2
    obtain ⟨⟨hv, hz3⟩, hw⟩ := h2
    obtain ⟨hz0, hz1⟩ := inB_iff.1 hz3
    obtain ⟨k, rfl⟩ : ∃ k : Nat, z = (k : Int) := ⟨z.toNat, by omega⟩
    have hk4 : k < 4 := by omega
    have h4 : n = 4 := by rw [← hr.1]; exact devV_four hv
    obtain ⟨q, hq⟩ : ∃ q, qs[k]? = some q := ⟨_, List.getElem?_eq_getElem (by rw [hr.1, h4]; exact hk4)⟩
    rw [hv, hz3] at hz
    rw [appendD_yes hok (zns_get hq), appendN_yes hok (zns_get hq)]
    have := specAppend_yes A X n c B C k m d q qs ws w hr hB hx hC hm hz hw hk4 h4 hq (devV_len hv)
    simpa only [Zq.zn, hx.1] using this
  · have hno := Bool.eq_false_iff.2 hok
    rw [appendD_no hno, appendN_no hno]
    exact specAppend_no A X n c C m d z _ ws w hz hx (by unfold maxLen; omega) hno
end Go.Proofs.YtfianpjoifcphaaGreat

/- SameO -/
namespace Go.Proofs.YtfianpjoifcphaaGreat
open Go.RowKit
set_option linter.unusedVariables false
set_option maxRecDepth 100000

set_option maxHeartbeats 3200000 in
theorem sameSto_yes (A A' : Option Addr) (n c d B B' : Nat) (qs rs : List Oq) (w : World) (hx : Objs w B A n qs) (hy : Objs w B' A' n rs) (hn : n ≤ maxLen) (h : obs qs = obs rs) :
    Calls Tryz.prog 42 #[.slice A n c, .slice A' n d] w fun e w' => e = .returned (.bool true) ∧ ∃ z, w' = w.drewN z := by
  have HX := hide hx
  have HY := hide hy
  have HE := hide h
  unfold maxLen at hn
  clear hx hy h
  go_enter Tryz.func42, Tryz.ntmps42
  go_wp2
  go_loopw [5] (fun i wr => ∃ (k z : Nat), k ≤ n ∧ i = .int .i64 k ∧ wr = w.drewN z) (fun i _ => n - (intOf i).toNat)
  case atStart => exact ⟨0, 0, Nat.zero_le _, rfl, rfl⟩
  case round =>
    obtain ⟨k, z, hk, rfl, rfl⟩ := hrel
    by_cases hlt : k < n
    · obtain ⟨q, hq⟩ : ∃ q, qs[k]? = some q := ⟨_, List.getElem?_eq_getElem (by rw [HX.out.1]; exact hlt)⟩
      obtain ⟨r, hr⟩ : ∃ r, rs[k]? = some r := ⟨_, List.getElem?_eq_getElem (by rw [HY.out.1]; exact hlt)⟩
      have her : r.ob = q.ob := by
        have h1 := obs_get hq
        have h2 := obs_get hr
        rw [HE.out, h2] at h1
        injection h1
      have hX := HX.out.drewN z
      have hY := HY.out.drewN z
      obtain ⟨ad, p, rfl, hp, hb, hc0, hc1⟩ := hX.at_ hq
      obtain ⟨ad', p', rfl, hp', hb', hd0, hd1⟩ := hY.at_ hr
      obtain ⟨hi, hle, hcm, hnl⟩ := hX.words hq
      obtain ⟨hi', hle', hcm', hnl'⟩ := hY.words hr
      clear hq hr hX hY hnl hnl'
      obtain ⟨id, ws, qa, qc⟩ := q
      obtain ⟨id', ws', ra, rc⟩ := r
      unfold Oq.ob at her
      injection her with h1 h2
      subst h1
      subst h2
      simp only [Oq.sl] at hc0 hc1 hi hle hcm hd0 hd1 hi' hle' hcm'
      generalize ws'.length = m at hc1 hi hle hd1 hi' hle'
      have HSI := hide fun (i : Nat) => sameInts_yes qa ra m qc m rc B B' ws' ws' ((w.drewN z).drewN i) (hi.drewN i) (hi'.drewN i) (by omega) (by omega) rfl
      have k0 : (0 : Int) ≤ (k : Int) := by omega
      have k1 : (k : Int) < (n : Int) := by omega
      clear hi hi' hle hle' hcm hcm'
      generalize hw : w.drewN z = wz at hc0 hc1 hd0 hd1 HSI ⊢
      go_wp2_with fail
      go_quiet ((go_at_call 44; exact quiet_on3 (HSI.out _)))
      go_wp2
      go_roundw
      case rel => exact ⟨k + 1, _, by omega, by go_num, by rw [← hw]; first | exact World.drewN_drewN _ _ _ | rfl⟩
      case measure => simp [intOf]; omega
    · obtain rfl : k = n := by omega
      go_wp2
      go_ret
      exact ⟨rfl, z, rfl⟩

/-- two stores that are equal, each in memory of its own -/
theorem pair_same {w2 w3 : World} {b b' m2 m3 c2 c3 : Nat} {A2 A3 : Option Addr} {qs2 qs3 : List Oq} {D : Sto} (h2 : OwnO w2 b A2 m2 c2 qs2) (h3 : OwnO w3 b' A3 m3 c3 qs3) (z2 : obs qs2 = D) (z3 : obs qs3 = D) (hb : Below w2.heap.size w2 w3) :
    m3 = m2 ∧ m2 = D.length ∧ ∀ W, Below w3.heap.size w3 W → Calls Tryz.prog 42 #[.slice A2 m2 c2, .slice A3 m2 c3] W fun e w' => e = .returned (.bool true) ∧ Below W.heap.size W w' := by
  have e2 : m2 = D.length := by rw [← z2, obs_length]; exact h2.len.symm
  have e3 : m3 = D.length := by rw [← z3, obs_length]; exact h3.len.symm
  have e : m3 = m2 := e3.trans e2.symm
  subst e
  refine ⟨rfl, e2, fun W hW => ?_⟩
  have hs := hb.size
  refine (sameSto_yes A2 A3 m3 c2 c3 _ _ qs2 qs3 W ((h2.objs.below hb (Nat.le_refl _)).below hW hs) (h3.objs.below hW (Nat.le_refl _)) (Nat.le_trans h3.cap.1 h3.cap.2) (z2.trans z3.symm)).mono ?_
  rintro e w' ⟨rfl, z, rfl⟩
  exact ⟨rfl, below_drewN (Below.refl _ _) z⟩
/-- .. one of them was read -/
theorem pair_read {w2 w3 : World} {b n c m2 c2 : Nat} {A A2 : Option Addr} {qs qs2 : List Oq} (h2 : OwnO w2 b A2 m2 c2 qs2) (h3 : Objs w3 w3.heap.size A n qs) (z : obs qs2 = obs qs) (hb : Below w2.heap.size w2 w3) :
    m2 = n ∧ ∀ W, Below w3.heap.size w3 W → Calls Tryz.prog 42 #[.slice A2 n c2, .slice A n c] W fun e w' => e = .returned (.bool true) ∧ Below W.heap.size W w' := by
  have e2 : m2 = n := by
    have h := congrArg List.length z
    rw [obs_length, obs_length, h2.len, h3.1] at h
    exact h
  subst e2
  refine ⟨rfl, fun W hW => ?_⟩
  have hs := hb.size
  refine (sameSto_yes A2 A m2 c2 c _ _ qs2 qs W ((h2.objs.below hb (Nat.le_refl _)).below hW hs) (h3.below hW (Nat.le_refl _)) (Nat.le_trans h2.cap.1 h2.cap.2) z).mono ?_
  rintro e w' ⟨rfl, z, rfl⟩
  exact ⟨rfl, below_drewN (Below.refl _ _) z⟩
end Go.Proofs.YtfianpjoifcphaaGreat

/- DrawZ2 -/
namespace Go.Proofs.YtfianpjoifcphaaGreat
open Go.RowKit
set_option linter.unusedVariables false
set_option maxRecDepth 100000

/-- what l91Device knows at each step -/
structure DZ (L : Nat) (w0 w : World) (R : Nat) (p : Int) (A : Option Addr) (c : Nat) (qs : List Zq) : Prop where
  rd : Rd w R p
  rlt : R < w0.heap.size
  own : OwnZ w w0.heap.size A 4 c qs
  len : ∀ q ∈ qs, q.words.length ≤ L
  grown : w0.grownBy w (some R)
theorem DZ.size {L : Nat} {w0 w : World} {R c : Nat} {p : Int} {A : Option Addr} {qs : List Zq} (h : DZ L w0 w R p A c qs) : w0.heap.size ≤ w.heap.size := h.grown.size
theorem DZ.pick {L : Nat} {w0 w w' : World} {R c : Nat} {p p' : Int} {A : Option Addr} {qs : List Zq} (h : DZ L w0 w R p A c qs) (hr : Rd w' R p') (hg : w.grownBy w' (some R)) : DZ L w0 w' R p' A c qs :=
  { rd := hr, rlt := h.rlt, len := h.len, grown := grown_trans' h.grown hg,
    own := h.own.kept hg (by
      intro q hq
      injection hq with hq
      subst hq
      exact ⟨fun e => by have := (h.own.block _ e).1; have := h.rlt; omega, fun k r hk e => by have := (h.own.wblock hk _ e).1; have := h.rlt; omega⟩) }
/-- behind a call that makes new memory alone -/
theorem DZ.below {L : Nat} {w0 w w' : World} {R c : Nat} {p : Int} {A : Option Addr} {qs : List Zq} (h : DZ L w0 w R p A c qs) (hb : Below w.heap.size w w') : DZ L w0 w' R p A c qs :=
  { rd := h.rd.below hb, rlt := h.rlt, own := h.own.below hb, len := h.len, grown := grown_own h.grown (grown_of_below hb none) (by simp) }
/-- .. and hands back another device -/
theorem DZ.swap {L : Nat} {w0 w w' : World} {R c c' : Nat} {p : Int} {A A' : Option Addr} {qs qs' : List Zq} (h : DZ L w0 w R p A c qs) (hb : Below w.heap.size w w') (ho : OwnZ w' w.heap.size A' 4 c' qs') (hl : ∀ q ∈ qs', q.words.length ≤ L) : DZ L w0 w' R p A' c' qs' :=
  { rd := h.rd.below hb, rlt := h.rlt, own := ho.mono h.size, len := hl, grown := grown_own h.grown (grown_of_below hb none) (by simp) }
/-- behind a store into the device's own blocks -/
theorem DZ.stored {L : Nat} {w0 w w' : World} {R g c : Nat} {p : Int} {A : Option Addr} {qs qs' : List Zq} (h : DZ L w0 w R p A c qs) (hg : w.grownBy w' (some g)) (hg0 : w0.heap.size ≤ g) (ho : OwnZ w' w0.heap.size A 4 c qs') (hl : ∀ q ∈ qs', q.words.length ≤ L) : DZ L w0 w' R p A c qs' :=
  { rd := h.rd.grown hg (fun b hb => by injection hb with hb; have := h.rlt; omega), rlt := h.rlt, own := ho, len := hl, grown := grown_own h.grown hg (fun b hb => by injection hb with hb; omega) }
theorem DZ.drewN {L : Nat} {w0 w : World} {R c : Nat} {p : Int} {A : Option Addr} {qs : List Zq} (h : DZ L w0 w R p A c qs) (k : Nat) : DZ L w0 (w.drewN k) R p A c qs :=
  { rd := h.rd.drewN k, rlt := h.rlt, own := h.own.drewN k, len := h.len, grown := grown_drewN h.grown k }
theorem DZ.more {L L' : Nat} {w0 w : World} {R c : Nat} {p : Int} {A : Option Addr} {qs : List Zq} (h : DZ L w0 w R p A c qs) (hl : L ≤ L') : DZ L' w0 w R p A c qs :=
  { rd := h.rd, rlt := h.rlt, own := h.own, len := fun q hq => Nat.le_trans (h.len q hq) hl, grown := h.grown }
/-- behind 'd[j].Words = append(d[j].Words, x)', the new word in a new block -/
theorem DZ.word {L : Nat} {w0 w w8 : World} {R g c j l : Nat} {p : Int} {qs : List Zq} {q : Zq} {o : Obj} {A8 : Option Addr} {c8 : Nat} {ws8 : List Int} (h : DZ L w0 w R p (some ⟨g, 0, none⟩) c qs) (hq : qs[j]? = some q) (hg : (w.alloc o).grownBy w8 q.sl.ownBlock)
    (ho : Own w8 w0.heap.size A8 l c8 ws8) (hat : (Value.slice A8 l c8).ownBlock = q.sl.ownBlock ∨ (Value.slice A8 l c8).ownBlock = some (w.alloc o).heap.size) (hl : l ≤ L) :
    w8.cell? ⟨g, j * 3, none⟩ = some q.sl ∧ w8.frozen? ⟨g, j * 3, none⟩ = false ∧ DZ L w0 (w8.setCell ⟨g, j * 3, none⟩ (.slice A8 l c8)) R p (some ⟨g, 0, none⟩) c (qs.set j ⟨ws8, q.synced, q.full, A8, c8⟩) := by
  have ha := (h.own.alloc o).after hq hg
  have hw := (h.own.alloc o).wrote hq hg ho hat
  have hlen := ho.1
  have hg0 : w0.heap.size ≤ g := (h.own.block g rfl).1
  have hrl := h.rlt
  have hqb := h.own.wblock hq
  have hG1 : w0.grownBy w8 (some R) := grown_own (grown_alloc h.grown o) hg (fun b hb => (hqb b hb).1)
  refine ⟨ha.1, ha.2, { rd := ?_, rlt := hrl, own := hw.1, len := ?_, grown := grown_own hG1 hw.2 (fun b hb => by injection hb with hb; omega) }⟩
  · exact ((h.rd.alloc o).grown hg (fun b hb => by have := (hqb b hb).1; omega)).grown hw.2 (fun b hb => by injection hb with hb; omega)
  · intro r hr
    rcases List.mem_or_eq_of_mem_set hr with hr | rfl
    · exact h.len r hr
    · show ws8.length ≤ L
      omega
theorem len_zns {qs : List Zq} {ds : Dev} (h : zns qs = ds) (hl : ∀ z ∈ ds, z.1.length ≤ 64) : ∀ q ∈ qs, q.words.length ≤ 64 := fun q hq => by
  have := hl q.zn (by rw [← h]; exact List.mem_map_of_mem hq)
  exact this
theorem len_zns' {qs : List Zq} (hl : ∀ q ∈ qs, q.words.length ≤ 64) : ∀ z ∈ zns qs, z.1.length ≤ 64 := fun z hz => by
  obtain ⟨q, hq, rfl⟩ := List.mem_map.1 hz
  exact hl q hq
theorem new_len {qs : List Zq} (h : zns qs = List.replicate 4 zone0) : ∀ q ∈ qs, q.words.length ≤ 64 := len_zns h (fun z hz => by rw [(List.mem_replicate.1 hz).2]; exact Nat.zero_le _)
/-- an appended device has four zones, or none -/
theorem append_len {ds : Dev} {z : Int} {ws : List Int} (h4 : ds.length = 4) (hl : ∀ q ∈ ds, q.1.length ≤ 64) : (appendD ds z ws).length = 4 ∧ (∀ q ∈ appendD ds z ws, q.1.length ≤ 64) ∨ appendD ds z ws = [] := by
  unfold appendD
  split
  · left
    split
    · next q hq =>
      split
      · next hr =>
        simp only [Bool.and_eq_true, decide_eq_true_eq] at hr
        refine ⟨by rw [List.length_set]; exact h4, fun r hr' => ?_⟩
        rcases List.mem_or_eq_of_mem_set hr' with h | rfl
        · exact hl r h
        · show (q.1 ++ ws).length ≤ 64; rw [List.length_append]; exact hr.2
      · exact ⟨h4, hl⟩
    · exact ⟨h4, hl⟩
  · exact .inr rfl
theorem zns_len {w : World} {base n c : Nat} {A : Option Addr} {qs : List Zq} (h : OwnZ w base A n c qs) : (zns qs).length = n := by unfold zns; rw [List.length_map]; exact h.len
theorem putF_len (k s : Int) (xs : List Int) : (putF k s xs).length ≤ xs.length + 4 := by
  unfold putF headF
  split <;> simp <;> omega
end Go.Proofs.YtfianpjoifcphaaGreat

/- SpecO3 -/
namespace Go.Proofs.YtfianpjoifcphaaGreat
open Go.RowKit
set_option linter.unusedVariables false
set_option maxRecDepth 100000

/-- a store and a number -/
def StoPostI (w : World) (v : Int) (t : Sto) (e : Ending) (w' : World) : Prop :=
  ∃ A2 m c2 qs2, e = .returned (.tuple #[.slice A2 m c2, .int .i64 v]) ∧ OwnO w' w.heap.size A2 m c2 qs2 ∧ obs qs2 = t ∧ Below w.heap.size w w'
/-- a store and whether it could be done -/
def StoPost (w : World) (v : Bool) (t : Sto) (e : Ending) (w' : World) : Prop :=
  ∃ A2 m c2 qs2, e = .returned (.tuple #[.slice A2 m c2, .bool v]) ∧ OwnO w' w.heap.size A2 m c2 qs2 ∧ obs qs2 = t ∧ Below w.heap.size w w'

theorem stV_len {qs : List Oq} (h : stV (obs qs) = true) : qs.length ≤ 6 ∧ ∀ q ∈ qs, q.vals.length ≤ 6 := by
  obtain ⟨h1, _, h3⟩ := stV_iff.1 h
  refine ⟨by rwa [obs_length] at h3, fun q hq => ?_⟩
  have := (obOk_iff.1 (h1 q.ob (List.mem_map_of_mem hq))).2.2
  exact (valsOk_len this).2

set_option maxHeartbeats 1600000 in
/-- invalid arguments -/
theorem specPutO_no (A X : Option Addr) (n c B C m d : Nat) (id : Int) (qs : List Oq) (vs : List Int) (w : World) (hr : Objs w B A n qs) (hn : n ≤ 10000000000) (hx : Ints w C X m vs) (hm : m ≤ 1000000000000) (hno : putOk (obs qs) id vs = false) :
    Calls Tryz.prog 248 #[.slice A n c, .int .i64 id, .slice X m d] w (StoPostI w 3 []) := by
  have H1 := hide (specSV A n c B qs w hr (by omega))
  have H2 := hide (in_any id 1 999 w)
  have H3 := hide (specVals X m d C vs w hx (by unfold maxLen; omega))
  clear hr hx
  unfold putOk at hno
  generalize stV (obs qs) = v1 at H1 hno
  generalize inB id 1 999 = v2 at H2 hno
  generalize valsOk vs = v3 at H3 hno
  rcases v1 with _ | _
  · clear hno H2 H3
    go_enter Tryz.func248, Tryz.ntmps248
    go_wp2_with (go_at_call 119; refine H1.out.mono ?_; rintro e w1 ⟨rfl, rfl⟩)
    go_ret2
    exact ⟨_, _, _, [], rfl, OwnO.lit0 w w.heap.size (Nat.le_refl _), rfl, below_new w _⟩
  · rcases v2 with _ | _
    · clear hno H3
      go_enter Tryz.func248, Tryz.ntmps248
      go_wp2_with (first
        | (go_at_call 119; refine H1.out.mono ?_; rintro e w1 ⟨rfl, rfl⟩)
        | (go_at_call 60; refine H2.out.mono ?_; rintro e w1 ⟨rfl, rfl⟩))
      go_ret2
      exact ⟨_, _, _, [], rfl, OwnO.lit0 w w.heap.size (Nat.le_refl _), rfl, below_new w _⟩
    · obtain rfl : v3 = false := by simpa using hno
      clear hno
      go_enter Tryz.func248, Tryz.ntmps248
      go_wp2_with (first
        | (go_at_call 119; refine H1.out.mono ?_; rintro e w1 ⟨rfl, rfl⟩)
        | (go_at_call 60; refine H2.out.mono ?_; rintro e w1 ⟨rfl, rfl⟩)
        | (go_at_call 171; refine H3.out.mono ?_; rintro e w1 ⟨rfl, rfl⟩))
      go_ret2
      exact ⟨_, _, _, [], rfl, OwnO.lit0 w w.heap.size (Nat.le_refl _), rfl, below_new w _⟩
/-- what the checks of a put tell -/
structure PutIn_SpecO3 (A X : Option Addr) (n c m d : Nat) (id : Int) (qs : List Oq) (w : World) : Prop where
  valid : Calls Tryz.prog 119 #[.slice A n c] w fun e w' => e = .returned (.bool true) ∧ w = w'
  num : Calls Tryz.prog 60 #[.int .i64 id, .int .i64 1, .int .i64 999] w fun e w' => e = .returned (.bool true) ∧ w = w'
  vals : Calls Tryz.prog 171 #[.slice X m d] w fun e w' => e = .returned (.bool true) ∧ w = w'
  find : Calls Tryz.prog 217 #[.slice A n c, .int .i64 id] w fun e w' => e = .returned (.int .i64 (findF 0 (obs qs) id)) ∧ w = w'
theorem putIn {A X : Option Addr} {n c B C m d : Nat} {id : Int} {qs : List Oq} {vs : List Int} {w : World} (hr : Objs w B A n qs) (hn : n ≤ 10000000000) (hx : Ints w C X m vs) (hm : m ≤ 1000000000000) (hok : putOk (obs qs) id vs = true) : PutIn_SpecO3 A X n c m d id qs w := by
  obtain ⟨h1, h2, h3⟩ := putOk_iff.1 hok
  exact ⟨h1 ▸ specSV A n c B qs w hr (by omega), h2 ▸ in_any id 1 999 w, h3 ▸ specVals X m d C vs w hx (by unfold maxLen; omega), specFind A n c B id qs w hr (by omega)⟩

set_option maxHeartbeats 1600000 in
/-- there is such an object -/
theorem specPutO_there (A X : Option Addr) (n c B C m d : Nat) (id : Int) (qs : List Oq) (vs : List Int) (w : World) (hr : Objs w B A n qs) (hB : B ≤ w.heap.size) (hn : n ≤ 10000000000) (hx : Ints w C X m vs) (hm : m ≤ 1000000000000) (hok : putOk (obs qs) id vs = true) (hh : hasS (obs qs) id = true) :
    Calls Tryz.prog 248 #[.slice A n c, .int .i64 id, .slice X m d] w (StoPostI w 1 (obs qs)) := by
  have HP := hide (putIn (c := c) (d := d) hr hn hx hm hok)
  have HC := hide (specCopyO A n c B qs w hr hB hn (fun q hq => Nat.le_trans ((stV_len (putOk_iff.1 hok).1).2 q hq) (by decide)))
  obtain ⟨i, o, hf, _⟩ := findF_yes (obs qs) id 0 hh
  rw [Nat.zero_add] at hf
  have HF := hide (hf ▸ HP.out.find)
  clear hr hx hok hh hf
  go_enter Tryz.func248, Tryz.ntmps248
  go_wp2_with (first
    | (go_at_call 119; refine HP.out.valid.mono ?_; rintro e w1 ⟨rfl, rfl⟩)
    | (go_at_call 60; refine HP.out.num.mono ?_; rintro e w1 ⟨rfl, rfl⟩)
    | (go_at_call 171; refine HP.out.vals.mono ?_; rintro e w1 ⟨rfl, rfl⟩)
    | (go_at_call 217; refine HF.out.mono ?_; rintro e w1 ⟨rfl, rfl⟩)
    | (go_at_call 129; refine HC.out.mono ?_; rintro e w1 ⟨A2, c2, qs2, rfl, ho, hz, hb⟩; have HO := hide ho; have HZ := hide hz; have HB := hide hb; clear ho hz hb))
  go_ret2
  exact ⟨_, _, _, _, rfl, HO.out, HZ.out, HB.out⟩
set_option maxHeartbeats 1600000 in
/-- there are too many -/
theorem specPutO_full (A X : Option Addr) (n c B C m d : Nat) (id : Int) (qs : List Oq) (vs : List Int) (w : World) (hr : Objs w B A n qs) (hB : B ≤ w.heap.size) (hn : n ≤ 10000000000) (hx : Ints w C X m vs) (hm : m ≤ 1000000000000) (hok : putOk (obs qs) id vs = true) (hh : hasS (obs qs) id = false) (hl : 6 ≤ n) :
    Calls Tryz.prog 248 #[.slice A n c, .int .i64 id, .slice X m d] w (StoPostI w 2 (obs qs)) := by
  have HP := hide (putIn (c := c) (d := d) hr hn hx hm hok)
  have HC := hide (specCopyO A n c B qs w hr hB hn (fun q hq => Nat.le_trans ((stV_len (putOk_iff.1 hok).1).2 q hq) (by decide)))
  have HF := hide (findF_no (obs qs) id 0 hh ▸ HP.out.find)
  have hl' : (6 : Int) ≤ (n : Int) := by omega
  clear hr hx hok hh
  go_enter Tryz.func248, Tryz.ntmps248
  go_wp2_with (first
    | (go_at_call 119; refine HP.out.valid.mono ?_; rintro e w1 ⟨rfl, rfl⟩)
    | (go_at_call 60; refine HP.out.num.mono ?_; rintro e w1 ⟨rfl, rfl⟩)
    | (go_at_call 171; refine HP.out.vals.mono ?_; rintro e w1 ⟨rfl, rfl⟩)
    | (go_at_call 217; refine HF.out.mono ?_; rintro e w1 ⟨rfl, rfl⟩)
    | (go_at_call 129; refine HC.out.mono ?_; rintro e w1 ⟨A2, c2, qs2, rfl, ho, hz, hb⟩; have HO := hide ho; have HZ := hide hz; have HB := hide hb; clear ho hz hb))
  go_ret2
  exact ⟨_, _, _, _, rfl, HO.out, HZ.out, HB.out⟩
set_option maxHeartbeats 3200000 in
/-- a further object -/
theorem specPutO_new (A X : Option Addr) (n c B C m d : Nat) (id : Int) (qs : List Oq) (vs : List Int) (w : World) (hr : Objs w B A n qs) (hB : B ≤ w.heap.size) (hnc : n ≤ c) (hc : c ≤ maxLen) (hx : Ints w C X m vs) (hC : C ≤ w.heap.size) (hm : m ≤ 1000000000000) (hok : putOk (obs qs) id vs = true) (hh : hasS (obs qs) id = false) (hl : n < 6) :
    Calls Tryz.prog 248 #[.slice A n c, .int .i64 id, .slice X m d] w (StoPostI w 0 (insS (obs qs) id vs)) := by
  have HP := hide (putIn (c := c) (d := d) hr (by omega) hx hm hok)
  have HF := hide (findF_no (obs qs) id 0 hh ▸ HP.out.find)
  have hlq := (stV_len (putOk_iff.1 hok).1).2
  have HE := hide (insS_cut (obs qs) id vs)
  have HX := hide hx
  have HR := hide hr
  have hl' : (n : Int) < 6 := by omega
  obtain ⟨K, hK⟩ : ∃ K, cntS (obs qs) id = K := ⟨_, rfl⟩
  have hKn : K ≤ n := by rw [← hK, ← hr.1, ← obs_length]; exact cntS_le _ _
  have HLT := hide fun (k : Nat) (q : Oq) (hq : qs[k]? = some q) (h : k < K) => (by rw [← hK] at h; exact cntS_at (obs_get hq) h : q.id < id)
  have HGE := hide fun (q : Oq) (hq : qs[K]? = some q) => (by rw [← hK] at hq; exact Int.not_lt.1 (cntS_end (obs_get hq)) : id ≤ q.id)
  rw [hK] at HE
  have HC1 := hide (specCopyO A K c B (qs.take K) w (hr.firsts hKn) hB (by omega) (fun q hq => Nat.le_trans (hlq q (List.mem_of_mem_take hq)) (by decide)))
  have HD := hide (hr.cut (k := K) (m := n) (cap := c) hKn (Nat.le_refl _) hnc)
  have HLQ := hide hlq
  clear hr hx hok hh hK hlq
  unfold maxLen at hc
  go_enter Tryz.func248, Tryz.ntmps248
  go_wp2_with (first
    | (go_at_call 119; refine HP.out.valid.mono ?_; rintro e w1 ⟨rfl, rfl⟩)
    | (go_at_call 60; refine HP.out.num.mono ?_; rintro e w1 ⟨rfl, rfl⟩)
    | (go_at_call 171; refine HP.out.vals.mono ?_; rintro e w1 ⟨rfl, rfl⟩)
    | (go_at_call 217; refine HF.out.mono ?_; rintro e w1 ⟨rfl, rfl⟩))
  go_loop [8] (fun i => ∃ (k : Nat), k ≤ K ∧ i = .int .i64 k) (fun i => n - (intOf i).toNat)
  case atStart => exact ⟨0, Nat.zero_le _, rfl⟩
  case round =>
    obtain ⟨k, hk, rfl⟩ := hrel
    have k0 : (0 : Int) ≤ (k : Int) := by omega
    by_cases hlt : k < K
    · obtain ⟨q, hq⟩ : ∃ q, qs[k]? = some q := ⟨_, List.getElem?_eq_getElem (by rw [HR.out.1]; omega)⟩
      obtain ⟨ad, p, rfl, hp, hb, hc0, hc1⟩ := HR.out.at_ hq
      have hid := HLT.out k q hq hlt
      have k1 : (k : Int) < (n : Int) := by omega
      clear hq hc1
      generalize q.id = y at hc0 hid
      go_wp2
      go_round
      case rel => exact ⟨k + 1, by omega, by go_num⟩
      case measure => simp [intOf]; omega
    · obtain rfl : k = K := by omega
      have HKQ : Hid ((k < n ∧ ∃ ad p y, A = some ad ∧ ad.add (k * 2) = p ∧ p.block < B ∧ w.cell? p = some (.int .i64 y) ∧ id ≤ y) ∨ k = n) := by
        rcases Nat.lt_or_ge k n with h | h
        · obtain ⟨q, hq⟩ : ∃ q, qs[k]? = some q := ⟨_, List.getElem?_eq_getElem (by rw [HR.out.1]; omega)⟩
          obtain ⟨ad, p, e, hp, hb, hc0, hc1⟩ := HR.out.at_ hq
          exact .inl ⟨h, ad, p, q.id, e, hp, hb, hc0, HGE.out q hq⟩
        · exact .inr (by omega)
      have HQ0 := hide fun (w1 : World) (h : w.heap.size ≤ w1.heap.size) => Own.lit0 w1 w.heap.size h
      obtain ⟨D, hD⟩ : ∃ D, (if c = k then A else Option.map (fun x => x.add (k * 2)) A) = D := ⟨_, rfl⟩
      obtain ⟨l, hl2⟩ : ∃ l, n - k = l := ⟨_, rfl⟩
      have HDD := hide (show Objs w B D l ((qs.take n).drop k) from hl2 ▸ hD ▸ HD.out)
      have HTN : Hid (qs.take n = qs) := List.take_of_length_le (by rw [HR.out.1]; exact Nat.le_refl _)
      have HE2 : Hid (insS (obs qs) id vs = obs (qs.take k) ++ [(id, vs)] ++ obs ((qs.take n).drop k)) := by show _ = _; rw [HTN.out, HE.out, obs_take, obs_drop]
      have HC2 := hide fun (W : World) (cc : Nat) (h : Below w.heap.size w W) => specCopyO D l cc B ((qs.take n).drop k) W (HDD.out.below h hB) (Nat.le_trans hB h.size) (by omega) (fun q hq => Nat.le_trans (HLQ.out q (List.mem_of_mem_take (List.mem_of_mem_drop hq))) (by decide))
      have hkn1 : k + 1 ≤ 100000000000 := by omega
      have hkn2 : k + 1 + l ≤ 100000000000 := by omega
      clear HD HF HP HLT HGE
      rcases HKQ.out with ⟨hkn, ad, p, y, rfl, hp, hb, hc0, hyn⟩ | rfl
      case' inl =>
        have hy0 : decide (y < id) = false := decide_eq_false (by omega)
        have k1 : (k : Int) < (n : Int) := by omega
        obtain rfl : some p = D := by rw [← hD, if_neg (by omega), ← hp]; rfl
        clear hyn hD
        go_wp2_with fail
      case' inr =>
        obtain rfl : l = 0 := by omega
        clear hl2
        rcases A with _ | ad
        case' none =>
          obtain rfl : none = D := by simpa using hD
          clear hD
          go_wp2_with fail
        case' some =>
          simp only [Option.map_some] at hD
          go_wp2_with fail
      all_goals
        refine HC1.out.mono ?_
        rintro e w1 ⟨A2, c2, qs2, rfl, ho, hz, hb1⟩
        have HO := hide ho
        have HZ := hide hz
        have HB := hide hb1
        have hs1 := hb1.size
        have HX1 := hide (HX.out.below hb1 hC)
        have HXA := hide (HX1.out.alloc (Nat.le_trans hC hs1) (.cells #[] 3))
        have hbs : w.heap.size ≤ (w1.alloc (.cells #[] 3)).heap.size := by rw [size_allocO]; omega
        have hnm : 0 + m ≤ 17592186044416 := by omega
        clear ho hz hb1
        go_wp2_with (first
          | (at_builtin; refine wpList_append_ints rfl (.tmp 57) (.tmp 58) rfl w.heap.size 0 0 C m d (some ⟨w1.heap.size, 0, none⟩) X [] vs rfl (HQ0.out w1 hs1) rfl HXA.out hnm hbs ?_; intro A3 c3 w3 ho3 hg3 hat3; simp only [Nat.zero_add, List.nil_append] at ho3 hat3 ⊢; have HMID := hide (midO (A3 := A3) (c3 := c3) (m := m) (ws := vs) id HB.out HO.out ho3 hg3 hat3); have HVL := hide ho3.1; have hbz : w.heap.size ≤ (w3.alloc (.cells #[.int .i64 id, .slice A3 m c3] 139)).heap.size := Nat.le_trans HMID.out.below.size (by rw [size_allocO]; omega); have HZC := hide (HMID.out.news HVL.out); clear hat3 hg3 ho3)
          | (at_builtin; refine wpList_append_objs rfl (.tmp 55) (.tmp 61) rfl w.heap.size k c2 1 1 A2 (some ⟨w3.heap.size, 0, none⟩) qs2 [⟨id, vs, A3, c3⟩] rfl rfl HZC.out hkn1 hbz ?_; intro A4 c4 w4 ho4 hg4 hat4; have HB4 := hide (below_app_o HMID.out.below HMID.out.below.size HMID.out.own (Nat.le_refl _) hg4); have HO4 := hide ho4; clear hat4 hg4 ho4)
          | (go_at_call 129; refine (HC2.out w4 _ HB4.out).mono ?_; rintro e w5 ⟨A5, c5, qs5, rfl, ho5, hz5, hb5⟩; have HNW := hide (News.row HO4.out ho5 hb5 HB4.out.size); have HB5 := hide (HB4.out.trans (hb5.mono HB4.out.size)); have HZ5 := hide hz5; have hs5 := HB5.out.size; clear ho5 hz5 hb5)
          | (at_builtin; refine wpList_append_objs rfl (.tmp 63) (.tmp 67) rfl w.heap.size (k + 1) c4 _ c5 A4 A5 (qs2 ++ [⟨id, vs, A3, c3⟩]) qs5 rfl rfl HNW.out hkn2 hs5 ?_; intro A6 c6 w6 ho6 hg6 hat6; have HB6 := hide (HB5.out.grown hg6 hs5 (fun g hg => (HNW.out.own.block g hg).1)); have HO6 := hide ho6; clear hat6 hg6 ho6))
        go_ret2
        exact ⟨_, _, _, _, rfl, HO6.out, by rw [obs_append, obs_append, HZ.out, HZ5.out, HE2.out]; rfl, HB6.out⟩
theorem specPutO (A X : Option Addr) (n c B C m d : Nat) (id : Int) (qs : List Oq) (vs : List Int) (w : World) (hr : Objs w B A n qs) (hB : B ≤ w.heap.size) (hn : n ≤ 10000000000) (hnc : n ≤ c) (hc : c ≤ maxLen) (hx : Ints w C X m vs) (hC : C ≤ w.heap.size) (hm : m ≤ 1000000000000) :
    Calls Tryz.prog 248 #[.slice A n c, .int .i64 id, .slice X m d] w (StoPostI w (putN (obs qs) id vs) (putS (obs qs) id vs)) := by
  rcases putN_cases (obs qs) id vs with ⟨h1, h2, h3⟩ | ⟨h1, h0, h2, h3⟩ | ⟨h1, h0, h4, h2, h3⟩ | ⟨h1, h0, h4, h2, h3⟩
  · rw [h2, h3]; exact specPutO_no A X n c B C m d id qs vs w hr hn hx hm h1
  · rw [h2, h3]; exact specPutO_there A X n c B C m d id qs vs w hr hB hn hx hm h1 h0
  · rw [h2, h3]; exact specPutO_full A X n c B C m d id qs vs w hr hB hn hx hm h1 h0 (by rwa [obs_length, hr.1] at h4)
  · rw [h2, h3]; exact specPutO_new A X n c B C m d id qs vs w hr hB hnc hc hx hC hm h1 h0 (by rwa [obs_length, hr.1] at h4)
end Go.Proofs.YtfianpjoifcphaaGreat

/- ImpO1 -/
namespace Go.Proofs.YtfianpjoifcphaaGreat
open Go.RowKit
set_option linter.unusedVariables false
set_option maxRecDepth 100000

theorem below_box1 (w : World) (o : Obj) : Below w.heap.size w (w.alloc o) := (Below.refl _ _).alloc (Nat.le_refl _) o
theorem cell_facts2 {w : World} {g : Nat} {t : TypeId} {a b : Value} (h : Blk w g t #[a, b]) : w.cell? ⟨g, 0, none⟩ = some a ∧ w.cell? ⟨g, 1, none⟩ = some b :=
  ⟨by rw [h.cell]; rfl, by rw [h.cell]; rfl⟩

theorem obOk_lo {id : Int} {vs : List Int} (h : id < 1) : obOk (id, vs) = false := by
  unfold obOk inB; rw [decide_eq_false (by omega)]; rfl
theorem obOk_hi {id : Int} {vs : List Int} (h : 999 < id) : obOk (id, vs) = false := by
  unfold obOk inB; rw [decide_eq_false (p := id ≤ 999) (by omega)]; simp
theorem obOk_none {id : Int} {vs : List Int} (h : vs.length < 1 ∨ 6 < vs.length) : obOk (id, vs) = false := by
  unfold obOk valsOk inB
  rcases h with h | h
  · rw [decide_eq_false (p := (1 : Int) ≤ (vs.length : Int)) (by omega)]; simp
  · rw [decide_eq_false (p := (vs.length : Int) ≤ 6) (by omega)]; simp
theorem obOk_in {id : Int} {vs : List Int} (h0 : 1 ≤ id) (h1 : id ≤ 999) (h2 : 1 ≤ vs.length) (h3 : vs.length ≤ 6) : obOk (id, vs) = vs.all valOk := by
  unfold obOk valsOk
  rw [inB_true h0 h1, inB_true (n := (vs.length : Int)) (by omega) (by omega)]
  simp

set_option maxHeartbeats 1600000 in
theorem implOb (A : Option Addr) (m c B : Nat) (id : Int) (vs : List Int) (w : World) (hi : Ints w B A m vs) (hB : B ≤ w.heap.size) (hm : m ≤ maxLen) :
    Calls Tryz.prog 159 #[.agg #[.int .i64 id, .slice A m c]] w fun e w' => e = .returned (.bool (obOk (id, vs))) ∧ Below w.heap.size w w' := by
  have hbl := Blk.new w 139 #[.int .i64 id, .slice A m c]
  have hc0 := (cell_facts2 hbl).1
  have hc1 := (cell_facts2 hbl).2
  have HI := hide (hi.alloc hB (.cells #[.int .i64 id, .slice A m c] 139))
  have HB := hide (below_box1 w (.cells #[.int .i64 id, .slice A m c] 139))
  have HL := hide hi.1
  clear hi hbl
  unfold maxLen at hm
  by_cases h1 : id < 1
  · have HG := hide (obOk_lo (vs := vs) h1)
    go_enter Tryz.func159, Tryz.ntmps159
    go_wp2
    go_ret
    exact ⟨ret_bool HG.out.symm, HB.out⟩
  · by_cases h2 : 999 < id
    · have HG := hide (obOk_hi (vs := vs) h2)
      go_enter Tryz.func159, Tryz.ntmps159
      go_wp2
      go_ret
      exact ⟨ret_bool HG.out.symm, HB.out⟩
    · by_cases h3 : m < 1
      · have HG := hide (obOk_none (id := id) (vs := vs) (.inl (by rw [HL.out]; exact h3)))
        have h3' : (m : Int) < 1 := by omega
        clear h3
        go_enter Tryz.func159, Tryz.ntmps159
        go_wp2
        go_ret
        exact ⟨ret_bool HG.out.symm, HB.out⟩
      · by_cases h4 : 6 < m
        · have HG := hide (obOk_none (id := id) (vs := vs) (.inr (by rw [HL.out]; exact h4)))
          have h4' : (6 : Int) < (m : Int) := by omega
          have h3' : (1 : Int) ≤ (m : Int) := by omega
          clear h3 h4
          go_enter Tryz.func159, Tryz.ntmps159
          go_wp2
          go_ret
          exact ⟨ret_bool HG.out.symm, HB.out⟩
        · have HG := hide (obOk_in (id := id) (vs := vs) (by omega) (by omega) (by rw [HL.out]; omega) (by rw [HL.out]; omega))
          have h4' : (m : Int) ≤ 6 := by omega
          have h3' : (1 : Int) ≤ (m : Int) := by omega
          clear h3 h4
          go_enter Tryz.func159, Tryz.ntmps159
          go_wp2
          go_loop [4, 26] (fun _ i => ∃ (k : Nat), k ≤ m ∧ i = .int .i64 k ∧ Hid (vs.all valOk = (vs.drop k).all valOk)) (fun _ i => m - (intOf i).toNat)
          case atStart => exact ⟨0, Nat.zero_le _, rfl, rfl⟩
          case round =>
            obtain ⟨k, hk, rfl, HS⟩ := hrel
            by_cases hlt : k < m
            · have hd := valOk_drop vs k (by rw [HL.out]; exact hlt)
              obtain ⟨ad, rfl, hb, hc⟩ := HI.out.at_ hlt
              have HX : Hid (_ = _) := HS.out.trans hd
              have k0 : (0 : Int) ≤ (k : Int) := by omega
              have k1 : (k : Int) < (m : Int) := by omega
              clear hd HS
              generalize vs.getD k 0 = x at hc HX
              by_cases g1 : x < 1
              · have HE := hide (show vs.all valOk = false by rw [HX.out]; unfold inB; rw [decide_eq_false (p := 1 ≤ x) (by omega)]; rfl)
                go_wp2
                go_ret
                exact ⟨ret_bool (HG.out.trans HE.out).symm, HB.out⟩
              · by_cases g2 : 99 < x
                · have HE := hide (show vs.all valOk = false by rw [HX.out]; unfold inB; rw [decide_eq_false (p := x ≤ 99) (by omega)]; simp)
                  go_wp2
                  go_ret
                  exact ⟨ret_bool (HG.out.trans HE.out).symm, HB.out⟩
                · have HE := hide (show vs.all valOk = (vs.drop (k + 1)).all valOk by rw [HX.out, inB_true (by omega) (by omega)]; rfl)
                  go_wp2
                  go_round
                  case rel => exact ⟨k + 1, by omega, by go_num, HE.out⟩
                  case measure => simp [intOf]; omega
            · obtain rfl : k = m := by omega
              have HE := hide (show vs.all valOk = true by rw [HS.out, List.drop_of_length_le (by rw [HL.out]; exact Nat.le_refl _)]; rfl)
              go_wp2
              go_ret
              exact ⟨ret_bool (HG.out.trans HE.out).symm, HB.out⟩
theorem ascF_ob {s : Sto} {k : Nat} {o : Int × List Int} (h : s[k]? = some o) {last : Int} (h0 : 0 ≤ last) : ascF_StoM last (s.drop k) = (decide (last < o.1) && obOk o && ascF_StoM o.1 (s.drop (k + 1))) := by
  rw [ascF_step h]
  congr 1
  unfold obOk inB
  rw [Bool.eq_iff_iff]
  simp only [Bool.and_eq_true, decide_eq_true_eq]
  constructor
  · rintro ⟨⟨a, b⟩, c⟩; exact ⟨by omega, ⟨by omega, b⟩, c⟩
  · rintro ⟨a, ⟨b, c⟩, d⟩; exact ⟨⟨by omega, c⟩, d⟩

set_option maxHeartbeats 3200000 in
theorem implSV (A : Option Addr) (n c B : Nat) (qs : List Oq) (w : World) (hr : Objs w B A n qs) (hB : B ≤ w.heap.size) (hn : n ≤ 1000000000000) :
    Calls Tryz.prog 105 #[.slice A n c] w fun e w' => e = .returned (.bool (stV (obs qs))) ∧ Below w.heap.size w w' := by
  have HR := hide hr
  clear hr
  by_cases h6 : 6 < n
  · have HE := hide (show stV (obs qs) = false by unfold stV; rw [obs_length, HR.out.1, decide_eq_false (by omega)]; simp)
    have h6' : (6 : Int) < (n : Int) := by omega
    clear h6
    go_enter Tryz.func105, Tryz.ntmps105
    go_wp2
    go_ret
    exact ⟨ret_bool HE.out.symm, Below.refl _ _⟩
  · have HE := hide (show stV (obs qs) = ascF_StoM 0 (obs qs) by unfold stV; rw [obs_length, HR.out.1, decide_eq_true (by omega)]; simp)
    have h6' : (n : Int) ≤ 6 := by omega
    clear h6
    go_enter Tryz.func105, Tryz.ntmps105
    go_wp2
    go_loopw [3, 5, 11] (fun l _ i wr => ∃ (k : Nat) (last : Int), k ≤ n ∧ i = .int .i64 k ∧ l = .int .i64 last ∧ 0 ≤ last ∧ last ≤ 999 ∧ Hid (ascF_StoM 0 (obs qs) = ascF_StoM last ((obs qs).drop k)) ∧ Hid (Below w.heap.size w wr)) (fun _ _ i _ => n - (intOf i).toNat)
    case atStart => exact ⟨0, 0, Nat.zero_le _, rfl, rfl, by omega, by omega, rfl, Below.refl _ _⟩
    case round =>
      obtain ⟨k, last, hk, rfl, rfl, hl0, hl1, HA, HB⟩ := hrel
      have hs := HB.out.size
      by_cases hlt : k < n
      · obtain ⟨q, hq⟩ : ∃ q, qs[k]? = some q := ⟨_, List.getElem?_eq_getElem (by rw [HR.out.1]; exact hlt)⟩
        have HX := hide (HA.out.trans (ascF_ob (obs_get hq) hl0))
        have hR := HR.out.below HB.out hB
        obtain ⟨ad, p, rfl, hp, hb, hc0, hc1⟩ := hR.at_ hq
        obtain ⟨hi, hle, hcm, _⟩ := hR.words hq
        clear HA hq hR
        obtain ⟨id, vs, qa, qc⟩ := q
        simp only [Oq.sl, Oq.ob] at hc0 hc1 hi hle hcm HX
        generalize vs.length = m at hc1 hi hle
        have hbl := Blk.new wr 139 #[.int .i64 id, .slice qa m qc]
        have hx0 := (cell_facts2 hbl).1
        have hx1 := (cell_facts2 hbl).2
        have HW := hide (below_box1 wr (.cells #[.int .i64 id, .slice qa m qc] 139))
        have HO := hide (implOb qa m qc B id vs (wr.alloc (.cells #[.int .i64 id, .slice qa m qc] 139)) (hi.alloc (by omega) _) (by simp; omega) (by omega))
        have k0 : (0 : Int) ≤ (k : Int) := by omega
        have k1 : (k : Int) < (n : Int) := by omega
        clear hi hle hcm hbl
        by_cases h1 : last < id
        · have h1' : decide (id ≤ last) = false := decide_eq_false (by omega)
          rcases h2 : obOk (id, vs) with _ | _
          · rw [h2] at HO HX
            have HF := hide (show ascF_StoM 0 (obs qs) = false by rw [HX.out]; simp)
            clear HX h2
            go_wp2_with (go_at_call 159; refine HO.out.mono ?_; rintro e w1 ⟨rfl, hb1⟩; have HB1 := hide (HB.out.trans ((HW.out.trans (hb1.mono HW.out.size)).mono hs)); clear hb1)
            go_ret
            exact ⟨ret_bool (HE.out.trans HF.out).symm, HB1.out⟩
          · obtain ⟨o1, o2, _⟩ := obOk_iff.1 h2
            simp only at o1 o2
            rw [h2] at HO HX
            have HF := hide (show ascF_StoM 0 (obs qs) = ascF_StoM id ((obs qs).drop (k + 1)) by rw [HX.out]; simp [h1])
            clear HX h2
            go_wp2_with (go_at_call 159; refine HO.out.mono ?_; rintro e w1 ⟨rfl, hb1⟩; have HB1 := hide (HB.out.trans ((HW.out.trans (hb1.mono HW.out.size)).mono hs)); have hy0 := (hb1.cell (p := ⟨wr.heap.size, 0, none⟩) (by simp)).trans hx0; clear hb1)
            go_roundw
            case rel => exact ⟨k + 1, id, by omega, by go_num, rfl, by omega, by omega, HF.out, HB1.out⟩
            case measure => simp [intOf]; omega
        · have h1' : decide (id ≤ last) = true := decide_eq_true (by omega)
          have HF := hide (show ascF_StoM 0 (obs qs) = false by rw [HX.out]; simp [h1])
          clear h1 HO
          go_wp2
          go_ret
          exact ⟨ret_bool (HE.out.trans HF.out).symm, HB.out.trans (HW.out.mono hs)⟩
      · obtain rfl : k = n := by omega
        have HF := hide (show ascF_StoM 0 (obs qs) = true by rw [HA.out, List.drop_of_length_le (by rw [obs_length, HR.out.1]; exact Nat.le_refl _)]; rfl)
        go_wp2
        go_ret
        exact ⟨ret_bool (HE.out.trans HF.out).symm, HB.out⟩
end Go.Proofs.YtfianpjoifcphaaGreat

/- SpecZ5 -/
namespace Go.Proofs.YtfianpjoifcphaaGreat
open Go.RowKit
set_option linter.unusedVariables false
set_option maxRecDepth 100000

/-- zone z of a device, changed -/
def modD (ds : Dev) (z : Int) (f : List Int × Int × Bool → List Int × Int × Bool) : Dev :=
  match ds[z.toNat]? with
  | some q => ds.set z.toNat (f q)
  | none => ds
theorem modD_at {ds : Dev} {k : Nat} {q : List Int × Int × Bool} (h : ds[k]? = some q) (f : List Int × Int × Bool → List Int × Int × Bool) : modD ds k f = ds.set k (f q) := by
  unfold modD; simp only [Int.toNat_natCast, h]
def zoneV (ds : Dev) (z : Int) : Bool := devV ds && inB z 0 3
def syncF (ds : Dev) : Dev := if devV ds then syncD ds else []
def fullZ (q : List Int × Int × Bool) : List Int × Int × Bool := (q.1, q.2.1, true)
def finishD (ds : Dev) (z : Int) : Dev := if zoneV ds z then modD ds z fullZ else []
def resetD (ds : Dev) (z : Int) : Dev := if zoneV ds z then modD ds z (fun _ => zone0) else []

theorem devpost_none {w : World} (i : Nat) : DevPost w false [] (.returned (.tuple #[.slice (some ⟨w.heap.size, 0, none⟩) 0 0, .bool false])) ((w.drewN i).alloc (.cells #[] 69)) :=
  ⟨_, _, _, [], rfl, OwnZ.lit0 (w.drewN i) w.heap.size (Nat.le_refl _), rfl, (below_drewN (Below.refl _ _) i).alloc (Nat.le_refl _) _⟩


/-- what a valid device and a zone's number give -/
theorem zone_parts {A : Option Addr} {n B : Nat} {z : Int} {qs : List Zq} {w : World} (hr : Zns w B A n qs) (h : zoneV (zns qs) z = true) :
    ∃ (k : Nat) (q : Zq), z = (k : Int) ∧ k < 4 ∧ n = 4 ∧ qs[k]? = some q ∧ ∀ r ∈ qs, r.words.length ≤ 64 := by
  unfold zoneV at h
  rw [Bool.and_eq_true] at h
  obtain ⟨hv, hz3⟩ := h
  obtain ⟨hz0, hz1⟩ := inB_iff.1 hz3
  have h4 : n = 4 := by rw [← hr.1]; exact devV_four hv
  obtain ⟨k, rfl⟩ : ∃ k : Nat, z = (k : Int) := ⟨z.toNat, by omega⟩
  exact ⟨k, _, rfl, by omega, h4, List.getElem?_eq_getElem (by rw [hr.1]; omega), devV_len hv⟩

theorem OwnZ.fin {w : World} {base g n c k : Nat} {qs : List Zq} {q : Zq} (h : OwnZ w base (some ⟨g, 0, none⟩) n c qs) (hk : qs[k]? = some q) :
    OwnZ (w.setCell ⟨g, k * 3 + 2, none⟩ (.bool true)) base (some ⟨g, 0, none⟩) n c (qs.set k ⟨q.words, q.synced, true, q.addr, q.cap⟩) ∧ w.grownBy (w.setCell ⟨g, k * 3 + 2, none⟩ (.bool true)) (some g) :=
  h.put_in hk ⟨q.words, q.synced, true, q.addr, q.cap⟩ 2 (.bool true) (by omega) rfl rfl rfl rfl


/-- a zone laid anew, its words in a new row -/
theorem OwnZ.anew {w w3 : World} {base g n c k c3 : Nat} {qs : List Zq} {q : Zq} {A3 : Option Addr} {ws3 : List Int} {row : Option Nat} (h : OwnZ w base (some ⟨g, 0, none⟩) n c qs) (hk : qs[k]? = some q) (hg : w.grownBy w3 row)
    (hrow : ∀ b, row = some b → w.heap.size ≤ b) (ho : Own w3 base A3 ws3.length c3 ws3) (hat : ∀ b, (Value.slice A3 ws3.length c3).ownBlock = some b → w.heap.size ≤ b) (sy : Int) (fu : Bool) :
    OwnZ (((w3.setCell ⟨g, k * 3, none⟩ (.slice A3 ws3.length c3)).setCell ⟨g, k * 3 + 1, none⟩ (.int .i64 sy)).setCell ⟨g, k * 3 + 2, none⟩ (.bool fu)) base (some ⟨g, 0, none⟩) n c (qs.set k ⟨ws3, sy, fu, A3, c3⟩) ∧
      w3.grownBy (((w3.setCell ⟨g, k * 3, none⟩ (.slice A3 ws3.length c3)).setCell ⟨g, k * 3 + 1, none⟩ (.int .i64 sy)).setCell ⟨g, k * 3 + 2, none⟩ (.bool fu)) (some g) := by
  have hlt : g < w.heap.size := by
    obtain ⟨g', e, _, hl⟩ := h.shape (by rw [← h.len]; exact Nat.lt_of_le_of_lt (Nat.zero_le _) (List.getElem?_eq_some_iff.1 hk).1)
    injection e with e
    injection e with e
    subst e
    exact hl
  have p1 := h.put hk hg (fun b hb => ⟨fun e => by have := hrow b hb; omega, fun i r hi hik e => by have := hrow b hb; have := (h.wblock hi b e).2; omega⟩) ⟨ws3, q.synced, q.full, A3, c3⟩ 0 (.slice A3 ws3.length c3) (by omega) rfl ho
    (fun i r hi hik b hb e => by have := hat b e; have := (h.wblock hi b hb).2; omega)
  have hl : k < qs.length := (List.getElem?_eq_some_iff.1 hk).1
  have p2 := p1.1.put_in (k := k) (q := ⟨ws3, q.synced, q.full, A3, c3⟩) (by rw [List.getElem?_set_self hl]) ⟨ws3, sy, q.full, A3, c3⟩ 1 (.int .i64 sy) (by omega) rfl rfl rfl rfl
  rw [List.set_set] at p2
  have p3 := p2.1.put_in (k := k) (q := ⟨ws3, sy, q.full, A3, c3⟩) (by rw [List.getElem?_set_self hl]) ⟨ws3, sy, fu, A3, c3⟩ 2 (.bool fu) (by omega) rfl rfl rfl rfl
  rw [List.set_set] at p3
  exact ⟨p3.1, grown_trans' (grown_trans' p1.2 p2.2) p3.2⟩


end Go.Proofs.YtfianpjoifcphaaGreat

/- ExIZ -/
namespace Go.Proofs.YtfianpjoifcphaaGreat
open Go.RowKit
set_option linter.unusedVariables false
set_option maxRecDepth 100000

def zqz : Zq := ⟨[], 0, false, none, 0⟩
theorem madeZ (n : Nat) : (madeCells (Value.agg #[.slice none 0 0, .int .i64 0, .bool false]).cells (n * 3)).toList = flat (List.replicate n zqz) := by
  apply List.ext_getElem?
  intro i
  by_cases h : i < n * 3
  · have hk : (List.replicate n zqz)[i / 3]? = some zqz := by rw [List.getElem?_replicate, if_pos (by omega)]
    have hj := flat_get hk (i % 3) (Nat.mod_lt _ (by decide))
    rw [show i / 3 * 3 + i % 3 = i by omega] at hj
    rw [hj]
    have h3 : i % 3 = 0 ∨ i % 3 = 1 ∨ i % 3 = 2 := by omega
    simp only [madeCells, Array.toList_map, List.getElem?_map]
    rw [Array.getElem?_toList, Array.getElem?_range, if_pos h]
    show some _ = _
    rcases h3 with e | e | e <;> simp [Value.cells, e, zqz, Zq.vals, Zq.sl]
  · rw [List.getElem?_eq_none (by simp [madeCells]; omega), List.getElem?_eq_none (by rw [flat_length, List.length_replicate]; omega)]

theorem OwnZ.made {w' : World} {base n c : Nat} {A : Option Addr} (h : w'.ownsRow base 69 3 (.slice A n c) n (flat (List.replicate n zqz))) : OwnZ w' base A n c (List.replicate n zqz) := by
  have get : ∀ {k q}, (List.replicate n zqz)[k]? = some q → q = zqz := fun h => (List.mem_replicate.1 (List.mem_of_getElem? h)).2
  refine ⟨by simp, h, fun k q hk => ?_, fun i j q r hi hj hij g hg => ?_⟩
  · rw [get hk]; exact Own.nil_ _ _
  · rw [get hi] at hg
    simp [zqz, Zq.sl, Value.ownBlock] at hg

set_option maxHeartbeats 6400000 in
theorem toZoneS_any (A : Option Addr) (n c B : Nat) (qs : List Zq) (w : World) (hr : Zns w B A n qs) (hB : B ≤ w.heap.size) (hn : n ≤ 1000000000) (hl : ∀ q ∈ qs, q.words.length ≤ 1048576) :
    Calls Tryz.prog 63 #[.slice A n c] w fun e w' => ∃ A2 c2 qs2, e = .returned (.slice A2 n c2) ∧ OwnZ w' w.heap.size A2 n c2 qs2 ∧ zns qs2 = zns qs ∧ Below w.heap.size w w' := by
  obtain ⟨i0, hi, hz0, hz1, hz2⟩ := info_parts zoneT.info
  have HR := hide hr
  have HL := hide hl
  clear hr hl
  go_enter Tryz.func63, Tryz.ntmps63
  go_wp2_with (at_make; refine wpList_make_full _ rfl _ _ 23 rfl w.heap.size 69 i0 (Value.agg #[.slice none 0 0, .int .i64 0, .bool false]) 3 Tryz.underlying23 hi hz0 hz1 .i64 .i64 _ _ n rfl rfl rfl rfl (by rw [hz2]; omega) (by unfold maxLen; omega) (Nat.le_refl _) ?_; intro w1 hown hgrow; rw [madeZ] at hown)
  have HO0 := hide (OwnZ.made hown)
  have HB0 := hide (below_of_grown hgrow)
  clear hown hgrow hi hz0 hz1 hz2
  go_loopw [4] (fun i wr => ∃ (k : Nat) (rs : List Zq), k ≤ n ∧ i = .int .i64 k ∧ Hid (OwnZ wr w.heap.size (some ⟨w.heap.size, 0, none⟩) n n rs) ∧ Hid (∀ j, j < k → (zns rs)[j]? = (zns qs)[j]?) ∧ Hid (Below w.heap.size w wr)) (fun i _ => n - (intOf i).toNat)
  case atStart => exact ⟨0, _, Nat.zero_le _, rfl, HO0.out, (fun j hj => absurd hj (by omega)), HB0.out⟩
  case round =>
    obtain ⟨k, rs, hk, rfl, HO, HD, HB⟩ := hrel
    have hs := HB.out.size
    by_cases hlt : k < n
    · obtain ⟨q, hq⟩ : ∃ q, qs[k]? = some q := ⟨_, List.getElem?_eq_getElem (by rw [HR.out.1]; exact hlt)⟩
      have hqz : (zns qs)[k]? = some q.zn := zns_get hq
      have HQZ := hide hqz
      have hR := HR.out.below HB.out hB
      obtain ⟨ad, p, rfl, hp, hb, hc0, hc1, hc2⟩ := hR.at_ hq
      obtain ⟨hiw, hle, hcm⟩ := hR.words hq
      have hql := HL.out q (List.mem_of_getElem? hq)
      obtain ⟨r, hr⟩ : ∃ r, rs[k]? = some r := ⟨_, List.getElem?_eq_getElem (by rw [HO.out.len]; exact hlt)⟩
      clear hq hR hqz
      obtain ⟨ws, sy, fu, qa, qc⟩ := q
      simp only [Zq.sl] at hc0 hc1 hc2 hiw hle hcm hql
      obtain ⟨m, hm⟩ : ∃ m, ws.length = m := ⟨_, rfl⟩
      rw [hm] at hc0 hiw hle hql
      have HM := hide hm
      have HTZ := hide (toZone_any qa m qc B sy fu ws wr hiw (by omega) (by omega))
      have HAN := hide fun (w3 : World) (c3 : Nat) (A3 : Option Addr) hg ho hat => HO.out.anew (w3 := w3) (c3 := c3) (A3 := A3) (ws3 := ws) (row := none) hr hg (by simp) ho hat sy fu
      have HRR := hide hr
      have k0 : (0 : Int) ≤ (k : Int) := by omega
      have k1 : (k : Int) < (n : Int) := by omega
      clear hiw hle hcm hm hr
      go_wp2_with fail
      refine HTZ.out.mono ?_
      rintro e w2 ⟨A2, c2, rfl, ho2, hb2⟩
      have hg2 : wr.grownBy w2 none := grown_of_below hb2 none
      have hO2 := HO.out.below hb2
      have HE := hide (HAN.out w2 c2 A2 hg2 (by rw [HM.out]; exact ho2.mono hs) (fun b hb => by rw [HM.out] at hb; exact (ho2.block b hb).1))
      rw [HM.out] at HE
      obtain ⟨hm0, hm1, hm2⟩ := hO2.at_ HRR.out
      have hf0 := hO2.free (j := k * 3)
      have hf1 := hO2.free (j := k * 3 + 1)
      have hf2 := hO2.free (j := k * 3 + 2)
      have hsz2 := hb2.size
      have HB2 := hide ((HB.out.trans (hb2.mono hs)).grown HE.out.2 (by omega) (fun b hb => by injection hb with hb; omega))
      have hrl : (zns rs).length = n := by unfold zns; rw [List.length_map]; exact HO.out.len
      have HD2 : Hid (∀ j, j < k + 1 → (zns (rs.set k ⟨ws, sy, fu, A2, c2⟩))[j]? = (zns qs)[j]?) := by
        intro j hj
        rw [zns_set, List.getElem?_set]
        by_cases e : k = j
        · subst e
          rw [if_pos rfl, if_pos (by omega), HQZ.out]
          rfl
        · rw [if_neg e]
          exact HD.out j (by omega)
      clear hg2 hO2 ho2 hb2 hrl hc0 hc1 hc2 HAN HTZ
      go_wp2
      go_roundw
      case rel => exact ⟨k + 1, _, by omega, by go_num, HE.out.1, HD2.out, HB2.out⟩
      case measure => simp [intOf]; omega
    · obtain rfl : k = n := by omega
      go_wp2
      go_ret
      refine ⟨_, _, _, rfl, HO.out, ?_, HB.out⟩
      apply List.ext_getElem?
      intro j
      by_cases hj : j < k
      · exact HD.out j hj
      · rw [List.getElem?_eq_none (by unfold zns; rw [List.length_map, HO.out.len]; omega), List.getElem?_eq_none (by unfold zns; rw [List.length_map, HR.out.1]; omega)]
end Go.Proofs.YtfianpjoifcphaaGreat

/- ExMZ -/
namespace Go.Proofs.YtfianpjoifcphaaGreat
open Go.RowKit
set_option linter.unusedVariables false
set_option maxRecDepth 100000

/-- a zone marked from v on -/
def mkz (v : Int) (q : Zq) : Zq := ⟨marks v q.words.length, v + (q.words.length : Int), ((v + (q.words.length : Int) + 1) % 3 == 0), q.addr, q.cap⟩
def markZ : Int → List Zq → List Zq
  | _, [] => []
  | v, q :: qs => mkz v q :: markZ (v + (q.words.length : Int) + 1 + 1) qs
def mvZ : Int → List Zq → Int
  | v, [] => v
  | v, q :: qs => mvZ (v + (q.words.length : Int) + 1 + 1) qs
theorem markZ_length (v : Int) (qs : List Zq) : (markZ v qs).length = qs.length := by
  induction qs generalizing v with
  | nil => rfl
  | cons q qs ih => simp only [markZ, List.length_cons, ih]
theorem markZ_append (v : Int) (qs rs : List Zq) : markZ v (qs ++ rs) = markZ v qs ++ markZ (mvZ v qs) rs := by
  induction qs generalizing v with
  | nil => rfl
  | cons q qs ih => simp only [List.cons_append, markZ, mvZ, ih]
theorem mvZ_append (v : Int) (qs rs : List Zq) : mvZ v (qs ++ rs) = mvZ (mvZ v qs) rs := by
  induction qs generalizing v with
  | nil => rfl
  | cons q qs ih => simp only [List.cons_append, mvZ, ih]
theorem mvZ_le (v : Int) (qs : List Zq) (h : ∀ q ∈ qs, q.words.length ≤ 1048576) : v ≤ mvZ v qs ∧ mvZ v qs ≤ v + (qs.length : Int) * 1048578 := by
  induction qs generalizing v with
  | nil => simp [mvZ]
  | cons q qs ih =>
    have h1 := ih (v + (q.words.length : Int) + 1 + 1) fun r hr => h r (by simp [hr])
    have h2 := h q (by simp)
    simp only [mvZ, List.length_cons]
    omega
theorem take_next {qs : List Zq} {j : Nat} {q : Zq} (h : qs[j]? = some q) : qs.take (j + 1) = qs.take j ++ [q] := by rw [List.take_add_one, h]; rfl
def markZto (v : Int) (qs : List Zq) (j : Nat) : List Zq := markZ v (qs.take j) ++ qs.drop j
theorem markZto_get {v : Int} {qs : List Zq} {j : Nat} {q : Zq} (h : qs[j]? = some q) : (markZto v qs j)[j]? = some q := by
  have hl : j < qs.length := (List.getElem?_eq_some_iff.1 h).1
  unfold markZto
  rw [List.getElem?_append_right (by rw [markZ_length, List.length_take]; omega), markZ_length, List.length_take, Nat.min_eq_left (by omega), Nat.sub_self, List.getElem?_drop, Nat.add_zero, h]
theorem markZto_set {v : Int} {qs : List Zq} {j : Nat} {q : Zq} (h : qs[j]? = some q) : (markZto v qs j).set j (mkz (mvZ v (qs.take j)) q) = markZto v qs (j + 1) := by
  have hl : j < qs.length := (List.getElem?_eq_some_iff.1 h).1
  have e : qs[j] = q := (List.getElem?_eq_some_iff.1 h).2
  have hlen : (markZ v (qs.take j)).length = j := by rw [markZ_length, List.length_take]; omega
  unfold markZto
  rw [List.set_append_right _ _ (by omega), hlen, Nat.sub_self, List.drop_eq_getElem_cons hl, e, List.set_cons_zero, take_next h, markZ_append]
  simp [markZ]
theorem markZ_get {v : Int} {qs : List Zq} {j : Nat} {q : Zq} (h : qs[j]? = some q) : (markZ v qs)[j]? = some (mkz (mvZ v (qs.take j)) q) := by
  have hl : j < qs.length := (List.getElem?_eq_some_iff.1 h).1
  have e : qs[j] = q := (List.getElem?_eq_some_iff.1 h).2
  have hlen : (markZ v (qs.take j)).length = j := by rw [markZ_length, List.length_take]; omega
  have : markZ v qs = markZ v (qs.take j) ++ mkz (mvZ v (qs.take j)) q :: markZ (mvZ v (qs.take j) + (q.words.length : Int) + 1 + 1) (qs.drop (j + 1)) := by
    conv => lhs; rw [← List.take_append_drop j qs, List.drop_eq_getElem_cons hl, e]
    rw [markZ_append]
    rfl
  rw [this, List.getElem?_append_right (by omega), hlen, Nat.sub_self]
  rfl

/-- own rows lie below hi -/
structure Lim (A : Option Addr) (n c : Nat) (qs : List Zq) (hi : Nat) : Prop where
  row : ∀ b, (Value.slice A n c).ownBlock = some b → b < hi
  words : ∀ q ∈ qs, ∀ b, q.sl.ownBlock = some b → b < hi
theorem OwnZ.lim {w : World} {base n c : Nat} {A : Option Addr} {qs : List Zq} (h : OwnZ w base A n c qs) : Lim A n c qs w.heap.size :=
  ⟨fun b hb => (h.block b hb).2, fun q hq b hb => by obtain ⟨k, hk⟩ := List.getElem?_of_mem hq; exact (h.wblock hk b hb).2⟩
/-- only blocks from lo on, below hi, and new ones are turned -/
structure Chg (lo hi : Nat) (w w' : World) : Prop where
  below : Below lo w w'
  above : ∀ b, hi ≤ b → b < w.heap.size → w'.heap[b]? = w.heap[b]?
theorem Chg.refl (lo hi : Nat) (w : World) : Chg lo hi w w := ⟨Below.refl _ _, fun _ _ _ => rfl⟩
theorem Chg.grown {lo hi : Nat} {w0 w w' : World} {row : Option Nat} (h : Chg lo hi w0 w) (hg : w.grownBy w' row) (hlo : lo ≤ w.heap.size) (hr : ∀ b, row = some b → lo ≤ b ∧ b < hi) : Chg lo hi w0 w' :=
  ⟨h.below.grown hg hlo (fun b hb => (hr b hb).1), fun b h1 h2 => (hg.block b (Nat.lt_of_lt_of_le h2 h.below.size) (fun e => by have := (hr b e.symm).2; omega)).trans (h.above b h1 h2)⟩

set_option maxHeartbeats 3200000 in
theorem markZoneS_any (A : Option Addr) (n c base hi : Nat) (k : Int) (qs : List Zq) (w : World) (ho : OwnZ w base A n c qs) (hlim : Lim A n c qs hi) (hb : base ≤ w.heap.size) (hk0 : 0 ≤ k) (hk : k ≤ 1000) (hn : n ≤ 1000000000) (hl : ∀ q ∈ qs, q.words.length ≤ 1048576) :
    Calls Tryz.prog 73 #[.slice A n c, .int .i64 k] w fun e w' => e = .returned (.int .i64 (mvZ k qs)) ∧ OwnZ w' base A n c (markZ k qs) ∧ Chg base hi w w' := by
  by_cases hn0 : n = 0
  · subst hn0
    have hx : qs = [] := List.eq_nil_of_length_eq_zero ho.len
    subst hx
    go_enter Tryz.func73, Tryz.ntmps73
    go_wp2
    refine wp_loop_rounds 1 ?_
    rw [rounds_succ]
    go_wp2
    go_ret
    exact ⟨rfl, ho, Chg.refl _ _ _⟩
  · obtain ⟨g, rfl, hgb, hgl⟩ := ho.shape (by omega)
    have HLEN := hide ho.len
    have HL := hide hl
    have HLIM := hide hlim
    have HO0 := hide ho
    have hgh : g < hi := hlim.row g rfl
    clear hl hlim ho
    go_enter Tryz.func73, Tryz.ntmps73
    go_wp2
    go_loopw [1, 5] (fun kk i wr => ∃ (j : Nat) (v : Int), j ≤ n ∧ i = .int .i64 j ∧ kk = .int .i64 v ∧ 0 ≤ v ∧ v ≤ 2000000000000000 ∧ Hid (v = mvZ k (qs.take j)) ∧ Hid (OwnZ wr base (some ⟨g, 0, none⟩) n c (markZto k qs j)) ∧ Hid (Chg base hi w wr)) (fun _ i _ => n - (intOf i).toNat)
    case atStart => exact ⟨0, k, Nat.zero_le _, rfl, rfl, hk0, by omega, rfl, by show OwnZ _ _ _ _ _ _; unfold markZto; simpa [markZ] using HO0.out, Chg.refl _ _ _⟩
    case round =>
      obtain ⟨j, v, hj, rfl, rfl, hv0, hv1, HV, HO, HC⟩ := hrel
      by_cases hlt : j < n
      · obtain ⟨q, hq⟩ : ∃ q, qs[j]? = some q := ⟨_, List.getElem?_eq_getElem (by rw [HLEN.out]; exact hlt)⟩
        have hr := markZto_get (v := k) hq
        have hset := markZto_set (v := k) hq
        rw [← HV.out] at hset
        have hown := HO.out.own j q hr
        obtain ⟨hc0, hc1, hc2⟩ := HO.out.at_ hr
        have hql := HL.out q (List.mem_of_getElem? hq)
        have hqmem := List.mem_of_getElem? hq
        have HQ := hide hq
        have hf1 := HO.out.free (j := j * 3 + 1)
        have hf2 := HO.out.free (j := j * 3 + 2)
        have HR := hide hr
        have HSET := hide hset
        have hwl := HLIM.out.words q hqmem
        have hwb := HO.out.wblock hr
        have hfar := HO.out.far hr (g := g) rfl
        have HSEP := hide (fun (i : Nat) (r : Zq) hi hij b hb => HO.out.sep i j r q hi hr hij b hb)
        have hmv : Hid (mvZ k (qs.take (j + 1)) = v + (q.words.length : Int) + 1 + 1) := by
          show _ = _
          rw [take_next hq, mvZ_append, ← HV.out]
          rfl
        have hmb := mvZ_le k (qs.take (j + 1)) (fun r hr => HL.out r (List.mem_of_mem_take hr))
        rw [hmv.out, List.length_take, Nat.min_eq_left (by have := HLEN.out; omega)] at hmb
        have hv2 : v + (q.words.length : Int) + 1 + 1 ≤ 2000000000000000 := by omega
        clear hr hset hq hqmem hmb
        have HM := hide (mark_any q.addr q.words.length q.cap base v q.words wr hown hv0 (by omega) (by omega))
        obtain ⟨ws, sy, fu, qa, qc⟩ := q
        simp only [Zq.sl] at hc0 hc1 hc2 hql hwl hwb hfar hv2
        obtain ⟨m, hm⟩ : ∃ m, ws.length = m := ⟨_, rfl⟩
        have HMM := hide hm
        simp only [hm] at hc0 hql hwl hwb hfar hv2
        have HWL := hide hwl
        have HWB := hide hwb
        have HFAR := hide hfar
        clear hown hm hwl hwb hfar
        have k0 : (0 : Int) ≤ (j : Int) := by omega
        have k1 : (j : Int) < (n : Int) := by omega
        go_wp2_with fail
        have HM' := HM.out
        simp only [HMM.out] at HM'
        refine HM'.mono ?_
        rintro e w2 ⟨rfl, ho2, hg2⟩
        have hsl : (Zq.sl ⟨ws, sy, fu, qa, qc⟩) = .slice qa m qc := by simp only [Zq.sl, HMM.out]
        have hgw : g < wr.heap.size := by
          obtain ⟨g', e, _, h⟩ := HO.out.shape (by omega)
          injection e with e
          injection e with e
          omega
        have hbg := hg2.block g hgw (fun e => HFAR.out e.symm)
        have hd1 : w2.cell? ⟨g, j * 3 + 1, none⟩ = some (.int .i64 sy) := (World.cell?_of_block (a := ⟨g, j * 3 + 1, none⟩) hbg).trans hc1
        have hd2 : w2.cell? ⟨g, j * 3 + 2, none⟩ = some (.bool fu) := (World.cell?_of_block (a := ⟨g, j * 3 + 2, none⟩) hbg).trans hc2
        have he1 : w2.frozen? ⟨g, j * 3 + 1, none⟩ = false := (World.frozen?_of_block (a := ⟨g, j * 3 + 1, none⟩) hbg).trans hf1
        have he2 : w2.frozen? ⟨g, j * 3 + 2, none⟩ = false := (World.frozen?_of_block (a := ⟨g, j * 3 + 2, none⟩) hbg).trans hf2
        have p1 := HO.out.put HR.out hg2 (fun b hb => ⟨fun e => HFAR.out (by rw [hb, e]), fun i r hi hij hrb => HSEP.out i r hi hij b hrb (by rw [hsl]; exact hb)⟩) ⟨marks v m, v + (m : Int), fu, qa, qc⟩ 1 (.int .i64 (v + (m : Int))) (by omega)
          (by simp only [Zq.vals, Zq.sl, marks_length, HMM.out]; rfl) (by simp only [marks_length]; exact ho2)
          (fun i r hi hij b hb => by simp only [Zq.sl, marks_length]; have := HSEP.out i r hi hij b hb; rw [hsl] at this; exact this)
        have hj1 : ((markZto k qs j).set j (⟨marks v m, v + (m : Int), fu, qa, qc⟩ : Zq))[j]? = some ⟨marks v m, v + (m : Int), fu, qa, qc⟩ := by
          rw [List.getElem?_set, if_pos rfl, if_pos ((List.getElem?_eq_some_iff.1 HR.out).1)]
        have p2 := p1.1.put_in hj1 ⟨marks v m, v + (m : Int), ((v + (m : Int) + 1) % 3 == 0), qa, qc⟩ 2 (.bool (((v + (m : Int) + 1) % 3 == 0))) (by omega) rfl rfl rfl rfl
        have hset := HSET.out
        unfold mkz at hset
        simp only [HMM.out] at hset
        rw [List.set_set, hset] at p2
        have hbw : base ≤ wr.heap.size := Nat.le_trans hb HC.out.below.size
        have HP := hide p2.1
        have HC2 := hide (((HC.out.grown hg2 hbw (fun b hb => ⟨(HWB.out b hb).1, HWL.out b hb⟩)).grown p1.2 (Nat.le_trans hbw hg2.size) (fun b hb => by injection hb with hb; subst hb; exact ⟨hgb, hgh⟩)).grown p2.2
          (Nat.le_trans (Nat.le_trans hbw hg2.size) p1.2.size) (fun b hb => by injection hb with hb; subst hb; exact ⟨hgb, hgh⟩))
        have HMV : Hid (mvZ k (qs.take (j + 1)) = v + (m : Int) + 1 + 1) := by
          have h := hmv.out
          rw [HMM.out] at h
          exact h
        have hm0 : (0 : Int) ≤ (m : Int) := by omega
        have hm1 : (m : Int) ≤ 1048576 := by omega
        generalize (m : Int) = mi at *
        clear p1 p2 hj1 hset hbg ho2 hg2 hc0 hc1 hc2 hf1 hf2 HM HM'
        go_wp2
        go_roundw
        case rel => exact ⟨j + 1, _, by omega, by go_num, rfl, by omega, by omega, HMV.out.symm, HP.out, HC2.out⟩
        case measure => simp [intOf]; omega
      · obtain rfl : j = n := by omega
        have hj2 : qs.take j = qs := List.take_of_length_le (by rw [HLEN.out]; exact Nat.le_refl _)
        have h1 := HO.out
        have h2 := HV.out
        unfold markZto at h1
        rw [hj2, List.drop_of_length_le (by rw [HLEN.out]; exact Nat.le_refl _), List.append_nil] at h1
        rw [hj2] at h2
        have H1 := hide h1
        have H2 := hide h2
        clear h1 h2 hj2
        go_wp2
        go_ret
        exact ⟨ret_int H2.out, H1.out, HC.out⟩

set_option maxHeartbeats 3200000 in
theorem heldZoneS_any (A : Option Addr) (n c B : Nat) (k : Int) (qs : List Zq) (w : World) (hi : Zns w B A n (markZ k qs)) (hk0 : 0 ≤ k) (hk : k ≤ 1000) (hn : n ≤ 1000000000) (hl : ∀ q ∈ qs, q.words.length ≤ 1048576) :
    Calls Tryz.prog 76 #[.slice A n c, .int .i64 k] w fun e w' => e = .returned (.int .i64 (mvZ k qs)) ∧ w = w' := by
  have HI := hide hi
  have hlen : qs.length = n := by have := hi.1; rwa [markZ_length] at this
  have HLEN := hide hlen
  have HL := hide hl
  clear hi hl hlen
  go_enter Tryz.func76, Tryz.ntmps76
  go_wp2
  go_loop [1, 5] (fun kk i => ∃ (j : Nat) (v : Int), j ≤ n ∧ i = .int .i64 j ∧ kk = .int .i64 v ∧ 0 ≤ v ∧ v ≤ 2000000000000000 ∧ Hid (v = mvZ k (qs.take j))) (fun _ i => n - (intOf i).toNat)
  case atStart => exact ⟨0, k, Nat.zero_le _, rfl, rfl, hk0, by omega, rfl⟩
  case round =>
    obtain ⟨j, v, hj, rfl, rfl, hv0, hv1, HV⟩ := hrel
    by_cases hlt : j < n
    · obtain ⟨q, hq⟩ : ∃ q, qs[j]? = some q := ⟨_, List.getElem?_eq_getElem (by rw [HLEN.out]; exact hlt)⟩
      have hg := markZ_get (v := k) hq
      rw [← HV.out] at hg
      obtain ⟨ad, p, rfl, hp, hb, hc0, hc1, hc2⟩ := HI.out.at_ hg
      obtain ⟨hiw, hle, hcm⟩ := HI.out.words hg
      have hql := HL.out q (List.mem_of_getElem? hq)
      have hmv : Hid (mvZ k (qs.take (j + 1)) = v + (q.words.length : Int) + 1 + 1) := by
        show _ = _
        rw [take_next hq, mvZ_append, ← HV.out]
        rfl
      have hmb := mvZ_le k (qs.take (j + 1)) (fun r hr => HL.out r (List.mem_of_mem_take hr))
      rw [hmv.out, List.length_take, Nat.min_eq_left (by have := HLEN.out; omega)] at hmb
      have hv2 : v + (q.words.length : Int) + 1 + 1 ≤ 2000000000000000 := by omega
      simp only [mkz, Zq.sl, marks_length] at hc0 hc1 hc2 hiw
      clear hg hq hmb hle hcm
      generalize q.words.length = m at hc0 hc1 hc2 hiw hql hv2 hmv
      have HHD := hide (held_any q.addr m q.cap B v w hiw hv0 (by omega) (by omega))
      have k0 : (0 : Int) ≤ (j : Int) := by omega
      have k1 : (j : Int) < (n : Int) := by omega
      clear hiw
      go_wp2_with fail
      refine HHD.out.mono ?_
      rintro e w2 ⟨rfl, rfl⟩
      have hm0 : (0 : Int) ≤ (m : Int) := by omega
      have hm1 : (m : Int) ≤ 1048576 := by omega
      clear HHD
      generalize (m : Int) = mi at *
      go_wp2
      go_round
      case rel => exact ⟨j + 1, _, by omega, by go_num, rfl, by omega, by omega, hmv.out.symm⟩
      case measure => simp [intOf]; omega
    · obtain rfl : j = n := by omega
      have hj2 : qs.take j = qs := List.take_of_length_le (by rw [HLEN.out]; exact Nat.le_refl _)
      have h2 := HV.out
      rw [hj2] at h2
      have H2 := hide h2
      clear h2 hj2
      go_wp2
      go_ret
      exact ⟨ret_int H2.out, rfl⟩
end Go.Proofs.YtfianpjoifcphaaGreat

/- FrameG -/
namespace Go.Proofs.YtfianpjoifcphaaGreat
open Go.RowKit
set_option linter.unusedVariables false
set_option maxRecDepth 100000

theorem Ints.some_ {w : World} {B n : Nat} {A : Option Addr} {xs : List Int} (h : Ints w B A n xs) (hn : 0 < n) : A ≠ none := by
  obtain ⟨ad, e, _⟩ := h.2 hn
  rw [e]
  exact Option.some_ne_none _

set_option maxHeartbeats 1600000 in
theorem tf_yes (C : Nat) (A : Option Addr) (n c a m : Nat) (p : Int) (xs : List Int) (w : World) (hp : p = a) (hb : Blk w C 231 #[.slice A n c, .int .i64 p]) (hi : Ints w C A n xs) (hn : n ≤ c) (hc : c ≤ 9223372036854775807)
    (hn2 : n ≤ 17592186044416) (hm : xs.getD (a + 2) 0 = (m : Int)) (hl : a + 4 + m ≤ n)
    (x0 x1 x3 : Int) (hx0 : xs.getD a 0 = x0) (hx1 : xs.getD (a + 1) 0 = x1) (hx3 : xs.getD (a + 3 + m) 0 = x3) :
    Calls Tryz.prog 196 #[.pointer (some ⟨C, 0, none⟩)] w fun e w' => ∃ A2 c2, e = .returned (.tuple #[.agg #[.int .i64 x0, .int .i64 x1, .slice A2 m c2], .int .i64 x3, .bool true]) ∧
      Own w' w.heap.size A2 m c2 (cutW xs (a + 3) m) ∧ Blk w' C 231 #[.slice A n c, .int .i64 ((a : Int) + 4 + m)] ∧ w.grownBy w' (some C) := by
  subst hp
  have hCw := hb.lt
  have HB := hide (hb.alloc (.cells #[.int .i64 0, .int .i64 0, .slice none 0 0] 128))
  have HI := hide (hi.alloc (by omega) (.cells #[.int .i64 0, .int .i64 0, .slice none 0 0] 128))
  have HR := hide (Blk.new w 128 #[.int .i64 0, .int .i64 0, .slice none 0 0])
  have hl1 : a + 3 ≤ n := by omega
  have hl2 : a + 3 + m ≤ n := by omega
  have hl3 : a + 3 + m + 1 ≤ n := by omega
  have hm2 : m ≤ 17592186044416 := by omega
  have HM := hide hm
  have H0 : Hid (A = none → c = 0) := fun hA => absurd hA (hi.some_ (by omega))
  have HX0 := hide hx0
  have HX1 := hide hx1
  have HX3 := hide hx3
  clear hb hi hm hx0 hx1 hx3
  go_enter Tryz.func196, Tryz.ntmps196
  go_wp2_with fail
  refine (take_yes C A n c a 3 _ _ xs _ rfl rfl HB.out HI.out hn hc hl1 (by omega) H0.out).mono ?_
  rintro e w1 ⟨A1, c1, rfl, ho1, hb1, hg1⟩
  have hs1 := hg1.size
  simp at hs1
  obtain ⟨g1, rfl, hgb1, hgl1⟩ := ho1.shape (by omega)
  simp at hgb1
  have k0 := ho1.cell (g := g1) (j := 0) (by omega)
  have k1 := ho1.cell (g := g1) (j := 1) (by omega)
  have k2 := ho1.cell (g := g1) (j := 2) (by omega)
  rw [cutW_getD _ _ _ _ (by omega)] at k0 k1 k2
  rw [HM.out] at k2
  simp only [Nat.add_zero] at k0
  have HB1 := hide hb1
  have HI1 := hide (HI.out.grown hg1 (by simp; omega) (by intro q hq; injection hq with hq; omega))
  have HR1 := hide (blk_grown HR.out hg1 (by omega))
  have HG1 := hide (grown_box hg1)
  have HO1 := hide ho1
  clear hb1 hg1 ho1
  go_wp2_with fail
  refine (take_yes C A n c (a + 3) m _ _ xs _ rfl rfl HB1.out HI1.out hn hc hl2 hm2 H0.out).mono ?_
  rintro e w2 ⟨A2, c2, rfl, ho2, hb2, hg2⟩
  have hs2 := hg2.size
  have ho12 := HO1.out.kept hg2 (by intro q hq; injection hq with hq; simp [Value.ownBlock]; omega)
  have HB2 := hide hb2
  have HI2 := hide (HI1.out.grown hg2 (by omega) (by intro q hq; injection hq with hq; omega))
  have HR2 := hide (blk_grown HR1.out hg2 (by omega))
  have HG2 := hide (grown_trans' HG1.out hg2)
  have HO2 := hide ho2
  have HO12 := hide ho12
  clear hb2 hg2 ho2 ho12 k0 k1 k2
  go_wp2_with fail
  refine (take_yes C A n c (a + 3 + m) 1 _ _ xs _ rfl rfl HB2.out HI2.out hn hc hl3 (by omega) H0.out).mono ?_
  rintro e w3 ⟨A3, c3, rfl, ho3, hb3, hg3⟩
  have hs3 := hg3.size
  have ho13 := HO12.out.kept hg3 (by intro q hq; injection hq with hq; simp [Value.ownBlock]; omega)
  have ho23 := HO2.out.kept hg3 (by intro q hq e; injection hq with hq; have := HO2.out.block _ e; omega)
  have hr3 := blk_grown HR2.out hg3 (by omega)
  have HG3 := hide (grown_trans' HG2.out hg3)
  obtain ⟨g3, rfl, hgb3, hgl3⟩ := ho3.shape (by omega)
  have k0 := ho13.cell (g := g1) (j := 0) (by omega)
  have k1 := ho13.cell (g := g1) (j := 1) (by omega)
  have k3 := ho3.cell (g := g3) (j := 0) (by omega)
  rw [cutW_getD _ _ _ _ (by omega)] at k0 k1 k3
  simp only [Nat.add_zero] at k0 k3
  rw [HX0.out] at k0
  rw [HX1.out] at k1
  rw [HX3.out] at k3
  have f0 := hr3.frozen 0
  have f1 := hr3.frozen 1
  have f2 := hr3.frozen 2
  have r0 := hr3.cell 0
  have r1 := hr3.cell 1
  have r2 := hr3.cell 2
  simp at r0 r1 r2
  have hf := ((hr3.set_ 0 (.int .i64 x0)).set_ 1 (.int .i64 x1)).set_ 2 (.slice A2 m c2)
  simp at hf
  have q0 := hf.cell 0
  have q1 := hf.cell 1
  have q2 := hf.cell 2
  simp only [List.getElem?_toArray, List.getElem?_cons_zero, List.getElem?_cons_succ] at q0 q1 q2
  have HR3 := hide hr3
  have HX := hide (And.intro ho23 hb3)
  clear ho3 hb3 hg3 ho13 ho23 hr3
  clear hf
  go_wp2_with fail
  go_region
  all_goals
    go_wp2
    refine bodyPost_ret (v := .tuple #[.agg #[.int .i64 x0, .int .i64 x1, .slice A2 m c2], .int .i64 x3, .bool true]) (by simp [results, Tryz.results196, go_sem, q0, q1, q2]) rfl ?_
    have hg := set3_grown w3 w.heap.size (.int .i64 x0) (.int .i64 x1) (.slice A2 m c2)
    refine ⟨A2, c2, rfl, ?_, ?_, ?_⟩
    · exact (HX.out.1.kept hg (by intro q hq e; injection hq with hq; have := (HO2.out.block _ e).1; omega)).mono (by omega)
    · have hb := HX.out.2.grown hg (by intro e; injection e with e; omega)
      have e : (((a + 3 + m : Nat) : Int) + ((1 : Nat) : Int)) = (a : Int) + 4 + m := by omega
      rw [e] at hb
      exact hb
    · have hG := grown_own HG3.out hg (by intro q hq; injection hq with hq; omega)
      exact ⟨hG.os, hG.tape, hG.output, hG.size, hG.block⟩

/-- are there enough words for a frame at p? -/
def enough (xs : List Int) (n : Nat) (p : Int) : Prop := 0 ≤ p ∧ p + 3 ≤ n ∧ 0 ≤ xs.getD (p.toNat + 2) 0 ∧ p + 4 + xs.getD (p.toNat + 2) 0 ≤ n

set_option maxHeartbeats 1600000 in
theorem tf_no (C : Nat) (A : Option Addr) (n c : Nat) (p : Int) (xs : List Int) (w : World) (hb : Blk w C 231 #[.slice A n c, .int .i64 p]) (hi : Ints w C A n xs) (hn : n ≤ c) (hc : c ≤ 9223372036854775807)
    (hn2 : n ≤ 17592186044416) (hp : p ≤ 9223372036854775807) (hno : ¬ enough xs n p) :
    Calls Tryz.prog 196 #[.pointer (some ⟨C, 0, none⟩)] w fun e w' => e = .returned (.tuple #[.agg #[.int .i64 0, .int .i64 0, .slice none 0 0], .int .i64 0, .bool false]) ∧ w.grownBy w' (some C) := by
  have hCw := hb.lt
  have HB := hide (hb.alloc (.cells #[.int .i64 0, .int .i64 0, .slice none 0 0] 128))
  have HI := hide (hi.alloc (by omega) (.cells #[.int .i64 0, .int .i64 0, .slice none 0 0] 128))
  have HR := hide (Blk.new w 128 #[.int .i64 0, .int .i64 0, .slice none 0 0])
  have HN := hide hno
  clear hb hi hno
  by_cases h1 : (3 : Int) < 0 ∨ p < 0 ∨ (n : Int) - p < 3
  · have H1 := hide h1
    clear h1
    go_enter Tryz.func196, Tryz.ntmps196
    go_wp2_with fail
    refine (take_no C A n c p 3 _ HB.out (by omega) hp H1.out).mono ?_
    rintro e w1 ⟨rfl, d, rfl⟩
    have hr := HR.out.drewN d
    have f0 := hr.frozen 0
    have f1 := hr.frozen 1
    have f2 := hr.frozen 2
    have r0 := hr.cell 0
    have r1 := hr.cell 1
    have r2 := hr.cell 2
    simp at r0 r1 r2 f0 f1 f2
    have hf := ((hr.set_ 0 (.int .i64 0)).set_ 1 (.int .i64 0)).set_ 2 (.slice none 0 0)
    simp at hf
    have q0 := hf.cell 0
    have q1 := hf.cell 1
    have q2 := hf.cell 2
    simp only [List.getElem?_toArray, List.getElem?_cons_zero, List.getElem?_cons_succ] at q0 q1 q2
    clear hf hr
    go_wp2
    refine bodyPost_ret (v := .tuple #[.agg #[.int .i64 0, .int .i64 0, .slice none 0 0], .int .i64 0, .bool false]) (by simp [results, Tryz.results196, go_sem, q0, q1, q2]) rfl ⟨rfl, ?_⟩
    exact grown_own (grown_drewN (grown_alloc (grown_refl w (some C)) _) d) (set3_grown _ w.heap.size _ _ _) (by intro q hq; injection hq with hq; omega)
  · obtain ⟨a, rfl⟩ := Int.eq_ofNat_of_zero_le (show 0 ≤ p by omega)
    have hl1 : a + 3 ≤ n := by omega
    have HN2 := hide (show ¬ (0 ≤ xs.getD (a + 2) 0 ∧ (a : Int) + 4 + xs.getD (a + 2) 0 ≤ n) from fun h => HN.out ⟨by omega, by omega, h.1, h.2⟩)
    have H0 : Hid (A = none → c = 0) := fun hA => absurd hA (HI.out.some_ (by omega))
    obtain ⟨m, hm⟩ : ∃ m, m = xs.getD (a + 2) 0 := ⟨_, rfl⟩
    rw [← hm] at HN2
    have HM := hide hm
    clear hm h1
    go_enter Tryz.func196, Tryz.ntmps196
    go_wp2_with fail
    refine (take_yes C A n c a 3 _ _ xs _ rfl rfl HB.out HI.out hn hc hl1 (by omega) H0.out).mono ?_
    rintro e w1 ⟨A1, c1, rfl, ho1, hb1, hg1⟩
    have hs1 := hg1.size
    simp at hs1
    obtain ⟨g1, rfl, hgb1, hgl1⟩ := ho1.shape (by omega)
    simp at hgb1
    have k2 := ho1.cell (g := g1) (j := 2) (by omega)
    rw [cutW_getD _ _ _ _ (by omega), ← HM.out] at k2
    have HB1 := hide hb1
    have HI1 := hide (HI.out.grown hg1 (by simp; omega) (by intro q hq; injection hq with hq; omega))
    have HR1 := hide (blk_grown HR.out hg1 (by omega))
    have HG1 := hide (grown_box hg1)
    clear hb1 hg1 ho1
    by_cases h2 : m < 0 ∨ ((a + 3 : Nat) : Int) < 0 ∨ (n : Int) - ((a + 3 : Nat) : Int) < m
    · have H2 := hide h2
      clear h2
      go_wp2_with fail
      refine (take_no C A n c _ m _ HB1.out (by omega) (by omega) H2.out).mono ?_
      rintro e w2 ⟨rfl, d, rfl⟩
      have hr := HR1.out.drewN d
      have f0 := hr.frozen 0
      have f1 := hr.frozen 1
      have f2 := hr.frozen 2
      have r0 := hr.cell 0
      have r1 := hr.cell 1
      have r2 := hr.cell 2
      simp at r0 r1 r2 f0 f1 f2
      have hf := ((hr.set_ 0 (.int .i64 0)).set_ 1 (.int .i64 0)).set_ 2 (.slice none 0 0)
      simp at hf
      have q0 := hf.cell 0
      have q1 := hf.cell 1
      have q2 := hf.cell 2
      simp only [List.getElem?_toArray, List.getElem?_cons_zero, List.getElem?_cons_succ] at q0 q1 q2
      clear hf hr
      go_wp2
      refine bodyPost_ret (v := .tuple #[.agg #[.int .i64 0, .int .i64 0, .slice none 0 0], .int .i64 0, .bool false]) (by simp [results, Tryz.results196, go_sem, q0, q1, q2]) rfl ⟨rfl, ?_⟩
      exact grown_own (grown_drewN HG1.out d) (set3_grown _ w.heap.size _ _ _) (by intro q hq; injection hq with hq; omega)
    · obtain ⟨M, rfl⟩ := Int.eq_ofNat_of_zero_le (show 0 ≤ m by omega)
      have hl2 : a + 3 + M ≤ n := by omega
      have hm2 : M ≤ 17592186044416 := by omega
      have hl3 : n < a + 3 + M + 1 := by
        by_cases hx : a + 3 + M + 1 ≤ n
        · exact absurd ⟨by omega, by omega⟩ HN2.out
        · omega
      clear h2
      go_wp2_with fail
      refine (take_yes C A n c (a + 3) M _ _ xs _ rfl rfl HB1.out HI1.out hn hc hl2 hm2 H0.out).mono ?_
      rintro e w2 ⟨A2, c2, rfl, ho2, hb2, hg2⟩
      have HB2 := hide hb2
      have HR2 := hide (blk_grown HR1.out hg2 (by omega))
      have HG2 := hide (grown_trans' HG1.out hg2)
      clear hb2 hg2 ho2 k2
      go_wp2_with fail
      refine (take_no C A n c _ 1 _ HB2.out (by omega) (by omega) (.inr (.inr (by omega)))).mono ?_
      rintro e w3 ⟨rfl, d, rfl⟩
      have hr := HR2.out.drewN d
      have f0 := hr.frozen 0
      have f1 := hr.frozen 1
      have f2 := hr.frozen 2
      have r0 := hr.cell 0
      have r1 := hr.cell 1
      have r2 := hr.cell 2
      simp at r0 r1 r2 f0 f1 f2
      have hf := ((hr.set_ 0 (.int .i64 0)).set_ 1 (.int .i64 0)).set_ 2 (.slice none 0 0)
      simp at hf
      have q0 := hf.cell 0
      have q1 := hf.cell 1
      have q2 := hf.cell 2
      simp only [List.getElem?_toArray, List.getElem?_cons_zero, List.getElem?_cons_succ] at q0 q1 q2
      clear hf hr
      go_wp2
      refine bodyPost_ret (v := .tuple #[.agg #[.int .i64 0, .int .i64 0, .slice none 0 0], .int .i64 0, .bool false]) (by simp [results, Tryz.results196, go_sem, q0, q1, q2]) rfl ⟨rfl, ?_⟩
      exact grown_own (grown_drewN HG2.out d) (set3_grown _ w.heap.size _ _ _) (by intro q hq; injection hq with hq; omega)
end Go.Proofs.YtfianpjoifcphaaGreat

/- FrameI -/
namespace Go.Proofs.YtfianpjoifcphaaGreat
open Go.RowKit
set_option linter.unusedVariables false
set_option maxRecDepth 100000

def bodyAt (xs : List Int) (p : Int) : List Int := cutW xs (p.toNat + 3) (xs.getD (p.toNat + 2) 0).toNat
/-- a valid frame lies at p -/
def goodF (xs : List Int) (n : Nat) (p : Int) : Prop :=
  enough xs n p ∧ validF (xs.getD p.toNat 0) (xs.getD (p.toNat + 1) 0) (bodyAt xs p) = true ∧
    xs.getD (p.toNat + 3 + (xs.getD (p.toNat + 2) 0).toNat) 0 = sumFrom 7 (cutW xs p.toNat (3 + (xs.getD (p.toNat + 2) 0).toNat))

def noFrame : Value := .tuple #[.agg #[.int .i64 0, .int .i64 0, .slice none 0 0], .int .i64 0, .bool false]

/-- what FrameGet's walks know when the cursor has been laid -/
theorem get_start (A : Option Addr) (n c : Nat) (p : Int) (xs : List Int) (w : World) (hi : Ints w w.heap.size A n xs) :
    Blk ((w.alloc (.cells #[.int .i64 0, .int .i64 0, .slice none 0 0] 128)).alloc (.cells #[.slice A n c, .int .i64 p] 231)) (w.heap.size + 1) 231 #[.slice A n c, .int .i64 p] ∧
    Blk ((w.alloc (.cells #[.int .i64 0, .int .i64 0, .slice none 0 0] 128)).alloc (.cells #[.slice A n c, .int .i64 p] 231)) w.heap.size 128 #[.int .i64 0, .int .i64 0, .slice none 0 0] ∧
    Ints ((w.alloc (.cells #[.int .i64 0, .int .i64 0, .slice none 0 0] 128)).alloc (.cells #[.slice A n c, .int .i64 p] 231)) (w.heap.size + 1) A n xs ∧
    Below w.heap.size w ((w.alloc (.cells #[.int .i64 0, .int .i64 0, .slice none 0 0] 128)).alloc (.cells #[.slice A n c, .int .i64 p] 231)) :=
  ⟨blk_new' (by simp) _ _, (Blk.new w _ _).alloc _, ((hi.alloc (Nat.le_refl _) _).alloc (by simp) _).more (by omega), (below_box w _).alloc (by simp) _⟩

set_option maxHeartbeats 1600000 in
theorem implGet_no0 (A : Option Addr) (n c : Nat) (p : Int) (xs : List Int) (w : World) (hi : Ints w w.heap.size A n xs) (hn : n ≤ c) (hc : c ≤ 9223372036854775807) (hn2 : n ≤ 17592186044416)
    (hp : p ≤ 9223372036854775807) (hno : ¬ goodF xs n p) :
    Calls Tryz.prog 161 #[.slice A n c, .int .i64 p] w fun e w' => e = .returned noFrame ∧ Below w.heap.size w w' := by
  have HN := hide hno
  have HS := hide (get_start A n c p xs w hi)
  have HI := hide hi
  clear hi hno
  by_cases hen : enough xs n p
  · obtain ⟨e0, e1, e2, e3⟩ := hen
    obtain ⟨a, rfl⟩ := Int.eq_ofNat_of_zero_le e0
    simp only [Int.toNat_natCast] at e2 e3
    obtain ⟨m, hm⟩ := Int.eq_ofNat_of_zero_le e2
    have hl : a + 4 + m ≤ n := by omega
    have hG : ¬ (validF (xs.getD a 0) (xs.getD (a + 1) 0) (cutW xs (a + 3) m) = true ∧ xs.getD (a + 3 + m) 0 = sumFrom 7 (cutW xs a (3 + m))) := by
      intro h
      refine HN.out ⟨⟨by omega, by omega, by simpa using e2, by simpa using e3⟩, ?_⟩
      simp only [Int.toNat_natCast, bodyAt, hm]
      exact h
    have HM := hide hm
    have HL := hide HI.out.1
    obtain ⟨x0, hx0⟩ : ∃ y, xs.getD a 0 = y := ⟨_, rfl⟩
    obtain ⟨x1, hx1⟩ : ∃ y, xs.getD (a + 1) 0 = y := ⟨_, rfl⟩
    obtain ⟨x3, hx3⟩ : ∃ y, xs.getD (a + 3 + m) 0 = y := ⟨_, rfl⟩
    rw [hx0, hx1, hx3] at hG
    have HX := hide (And.intro hx0 (And.intro hx1 hx3))
    have HG := hide hG
    clear hG hm hx0 hx1 hx3 e0 e1 e2 e3 HN
    go_enter Tryz.func161, Tryz.ntmps161
    go_wp2_with fail
    refine (tf_yes (w.heap.size + 1) A n c a m _ xs _ rfl HS.out.1 HS.out.2.2.1 hn hc hn2 HM.out hl x0 x1 x3 HX.out.1 HX.out.2.1 HX.out.2.2).mono ?_
    rintro e w1 ⟨A2, c2, rfl, ho1, hb1, hg1⟩
    have hs1 := hg1.size
    simp at hs1
    have HB1 := hide (HS.out.2.2.2.trans (below_of_grown' hg1 (B := w.heap.size) (by simp; omega) (by intro q hq; injection hq with hq; omega)))
    have HR1 := hide (blk_grown HS.out.2.1 hg1 (by omega))
    have HC1 := hide hb1
    have HO1 := hide ho1
    have HI1 := hide ((HI.out.below HB1.out (Nat.le_refl _)))
    have hmm : m ≤ maxLen := by unfold maxLen; omega
    have hcc := ho1.cap.2
    clear hb1 hg1 ho1
    rcases hv : validF x0 x1 (cutW xs (a + 3) m) with _ | _
    · have HV := hide hv
      clear hv
      go_wp2_with fail
      refine (implValid x0 x1 A2 m c2 w1.heap.size (cutW xs (a + 3) m) _ (HO1.out.ints.alloc (Nat.le_refl _) _) (by simp) hmm).mono ?_
      rw [HV.out]
      rintro e w2 ⟨rfl, hb2⟩
      have hr2 := (HR1.out.alloc (.cells #[.int .i64 x0, .int .i64 x1, .slice A2 m c2] 128)).below hb2 (by simp; omega)
      obtain ⟨r0, r1, r2⟩ := blk_cells3 hr2
      have f0 := hr2.frozen 0
      have f1 := hr2.frozen 1
      have f2 := hr2.frozen 2
      obtain ⟨q0, q1, q2⟩ := blk_cells3 (frame_new w.heap.size _ _ _ hr2 (.int .i64 0) (.int .i64 0) (.slice none 0 0))
      have HB2 := hide ((HB1.out.alloc (by omega) (.cells #[.int .i64 x0, .int .i64 x1, .slice A2 m c2] 128)).trans (hb2.mono (by simp; omega)))
      clear hr2 hb2
      go_wp2
      refine bodyPost_ret (v := noFrame) (by simp [noFrame, results, Tryz.results161, go_sem, q0, q1, q2]) rfl ⟨rfl, ?_⟩
      exact HB2.out.trans (below_of_grown' (set3_grown _ w.heap.size _ _ _) (by have := HB2.out.size; omega) (by intro q hq; injection hq with hq; omega))
    · have HV := hide hv
      have HT := hide (show ¬ x3 = sumFrom 7 (cutW xs a (3 + m)) from fun h => HG.out ⟨hv, h⟩)
      have hC := hide fun (W : World) (h : Ints W w.heap.size A n xs) => h.cut' (a := a) (m := 3 + m) (by omega) hn
      obtain ⟨D, hD⟩ : ∃ D, (if c = a then A else Option.map (fun x => x.add a) A) = D := ⟨_, rfl⟩
      have HC : Hid (∀ (W : World), Ints W w.heap.size A n xs → Ints W w.heap.size D (3 + m) (cutW xs a (3 + m))) := by
        intro W h
        have := hC.out W h
        rwa [hD] at this
      have hm3 : 3 + m ≤ maxLen := by unfold maxLen; omega
      have HS3 : Hid (∀ (W : World) (d : Nat), Ints W w.heap.size D (3 + m) (cutW xs a (3 + m)) → Calls Tryz.prog 158 #[.slice D (3 + m) d] W fun e w' => e = .returned (.int .i64 (sumFrom 7 (cutW xs a (3 + m)))) ∧ W = w') := fun W d h => implSum D _ d _ _ W h hm3
      generalize sumFrom 7 (cutW xs a (3 + m)) = t at HT HS3 HG
      have hT : (x3 != t) = true := by simpa using HT.out
      clear hv hC
      go_wp2_with fail
      refine (implValid x0 x1 A2 m c2 w1.heap.size (cutW xs (a + 3) m) _ (HO1.out.ints.alloc (Nat.le_refl _) _) (by simp) hmm).mono ?_
      rw [HV.out]
      rintro e w2 ⟨rfl, hb2⟩
      have hr2 := (HR1.out.alloc (.cells #[.int .i64 x0, .int .i64 x1, .slice A2 m c2] 128)).below hb2 (by simp; omega)
      have hc2 := (HC1.out.alloc (.cells #[.int .i64 x0, .int .i64 x1, .slice A2 m c2] 128)).below hb2 (by simp; omega)
      have hd0 := hc2.cell 0
      have hd1 := hc2.cell 1
      simp at hd0 hd1
      obtain ⟨r0, r1, r2⟩ := blk_cells3 hr2
      have f0 := hr2.frozen 0
      have f1 := hr2.frozen 1
      have f2 := hr2.frozen 2
      obtain ⟨q0, q1, q2⟩ := blk_cells3 (frame_new w.heap.size _ _ _ hr2 (.int .i64 0) (.int .i64 0) (.slice none 0 0))
      have HB2 := hide ((HB1.out.alloc (by omega) (.cells #[.int .i64 x0, .int .i64 x1, .slice A2 m c2] 128)).trans (hb2.mono (by simp; omega)))
      have HI2 := hide (HI.out.below HB2.out (Nat.le_refl _))
      clear hr2 hb2 hc2
      have hl' : a + 3 + m - a = 3 + m := by omega
      go_wp2_with fail
      refine (HS3.out _ _ (HC.out _ HI2.out)).mono ?_
      rintro e w' ⟨rfl, rfl⟩
      go_wp2
      refine bodyPost_ret (v := noFrame) (by simp [noFrame, results, Tryz.results161, go_sem, q0, q1, q2]) rfl ⟨rfl, ?_⟩
      exact HB2.out.trans (below_of_grown' (set3_grown _ w.heap.size _ _ _) (by have := HB2.out.size; omega) (by intro q hq; injection hq with hq; omega))
  · have HE := hide hen
    clear hen
    go_enter Tryz.func161, Tryz.ntmps161
    go_wp2_with fail
    refine (tf_no (w.heap.size + 1) A n c p xs _ HS.out.1 HS.out.2.2.1 hn hc hn2 hp HE.out).mono ?_
    rintro e w1 ⟨rfl, hg1⟩
    have hs1 := hg1.size
    simp at hs1
    have HB1 := hide (HS.out.2.2.2.trans (below_of_grown' hg1 (B := w.heap.size) (by simp; omega) (by intro q hq; injection hq with hq; omega)))
    have hr1 := (blk_grown HS.out.2.1 hg1 (by omega)).alloc (.cells #[.int .i64 0, .int .i64 0, .slice none 0 0] 128)
    obtain ⟨r0, r1, r2⟩ := blk_cells3 hr1
    have f0 := hr1.frozen 0
    have f1 := hr1.frozen 1
    have f2 := hr1.frozen 2
    obtain ⟨q0, q1, q2⟩ := blk_cells3 (frame_new w.heap.size _ _ _ hr1 (.int .i64 0) (.int .i64 0) (.slice none 0 0))
    have hB2 := HB1.out.alloc (by omega) (.cells #[.int .i64 0, .int .i64 0, .slice none 0 0] 128)
    have HB2 := hide hB2
    clear hr1 hg1 hB2
    go_wp2
    refine bodyPost_ret (v := noFrame) (by simp [noFrame, results, Tryz.results161, go_sem, q0, q1, q2]) rfl ⟨rfl, ?_⟩
    exact HB2.out.trans (below_of_grown' (set3_grown _ w.heap.size _ _ _) (by simp; omega) (by intro q hq; injection hq with hq; omega))

set_option maxHeartbeats 1600000 in
theorem implGet_yes0 (A : Option Addr) (n c a m : Nat) (p : Int) (xs : List Int) (w : World) (hp : p = a) (hi : Ints w w.heap.size A n xs) (hn : n ≤ c) (hc : c ≤ 9223372036854775807) (hn2 : n ≤ 17592186044416)
    (hm : xs.getD (a + 2) 0 = (m : Int)) (hl : a + 4 + m ≤ n) (x0 x1 x3 : Int) (hx0 : xs.getD a 0 = x0) (hx1 : xs.getD (a + 1) 0 = x1) (hx3 : xs.getD (a + 3 + m) 0 = x3)
    (hv : validF x0 x1 (cutW xs (a + 3) m) = true) (hs : x3 = sumFrom 7 (cutW xs a (3 + m))) :
    Calls Tryz.prog 161 #[.slice A n c, .int .i64 p] w fun e w' => ∃ A2 c2, e = .returned (.tuple #[.agg #[.int .i64 x0, .int .i64 x1, .slice A2 m c2], .int .i64 ((a : Int) + 4 + m), .bool true]) ∧
      Own w' w.heap.size A2 m c2 (cutW xs (a + 3) m) ∧ Below w.heap.size w w' := by
  subst hp
  have HS := hide (get_start A n c (a : Int) xs w hi)
  have HI := hide hi
  have HM := hide hm
  have HV := hide hv
  have HX := hide (And.intro hx0 (And.intro hx1 hx3))
  have hC := hide fun (W : World) (h : Ints W w.heap.size A n xs) => h.cut' (a := a) (m := 3 + m) (by omega) hn
  obtain ⟨D, hD⟩ : ∃ D, (if c = a then A else Option.map (fun x => x.add a) A) = D := ⟨_, rfl⟩
  have HC : Hid (∀ (W : World), Ints W w.heap.size A n xs → Ints W w.heap.size D (3 + m) (cutW xs a (3 + m))) := by
    intro W h
    have := hC.out W h
    rwa [hD] at this
  have hm3 : 3 + m ≤ maxLen := by unfold maxLen; omega
  have hmm : m ≤ maxLen := by unfold maxLen; omega
  have HS3 : Hid (∀ (W : World) (d : Nat), Ints W w.heap.size D (3 + m) (cutW xs a (3 + m)) → Calls Tryz.prog 158 #[.slice D (3 + m) d] W fun e w' => e = .returned (.int .i64 x3) ∧ W = w') := fun W d h => by
    rw [hs]
    exact implSum D _ d _ _ W h hm3
  have hl' : a + 3 + m - a = 3 + m := by omega
  clear hi hm hx0 hx1 hx3 hv hs hC
  go_enter Tryz.func161, Tryz.ntmps161
  go_wp2_with fail
  refine (tf_yes (w.heap.size + 1) A n c a m _ xs _ rfl HS.out.1 HS.out.2.2.1 hn hc hn2 HM.out hl x0 x1 x3 HX.out.1 HX.out.2.1 HX.out.2.2).mono ?_
  rintro e w1 ⟨A2, c2, rfl, ho1, hb1, hg1⟩
  have hs1 := hg1.size
  simp at hs1
  have HB1 := hide (HS.out.2.2.2.trans (below_of_grown' hg1 (B := w.heap.size) (by simp; omega) (by intro q hq; injection hq with hq; omega)))
  have HR1 := hide (blk_grown HS.out.2.1 hg1 (by omega))
  have HC1 := hide hb1
  have HO1 := hide ho1
  have HF1 := hide (Blk.new w1 128 #[.int .i64 x0, .int .i64 x1, .slice A2 m c2])
  clear hb1 hg1 ho1
  go_wp2_with fail
  refine (implValid x0 x1 A2 m c2 w1.heap.size (cutW xs (a + 3) m) _ (HO1.out.ints.alloc (Nat.le_refl _) _) (by simp) hmm).mono ?_
  rw [HV.out]
  rintro e w2 ⟨rfl, hb2⟩
  have hr2 := (HR1.out.alloc (.cells #[.int .i64 x0, .int .i64 x1, .slice A2 m c2] 128)).below hb2 (by simp; omega)
  have hc2 := (HC1.out.alloc (.cells #[.int .i64 x0, .int .i64 x1, .slice A2 m c2] 128)).below hb2 (by simp; omega)
  have hf2 := HF1.out.below hb2 (by simp)
  have hd0 := hc2.cell 0
  have hd1 := hc2.cell 1
  simp at hd0 hd1
  obtain ⟨r0, r1, r2⟩ := blk_cells3 hr2
  obtain ⟨t0, t1, t2⟩ := blk_cells3 hf2
  have f0 := hr2.frozen 0
  have f1 := hr2.frozen 1
  have f2 := hr2.frozen 2
  obtain ⟨q0, q1, q2⟩ := blk_cells3 (frame_new w.heap.size _ _ _ hr2 (.int .i64 x0) (.int .i64 x1) (.slice A2 m c2))
  have HB2 := hide ((HB1.out.alloc (by omega) (.cells #[.int .i64 x0, .int .i64 x1, .slice A2 m c2] 128)).trans (hb2.mono (by simp; omega)))
  have HI2 := hide (HI.out.below HB2.out (Nat.le_refl _))
  have HO2 := hide ((HO1.out.alloc (.cells #[.int .i64 x0, .int .i64 x1, .slice A2 m c2] 128)).below hb2)
  have hs2 := hb2.size
  simp at hs2
  clear hr2 hb2 hc2 hf2
  go_wp2_with fail
  refine (HS3.out _ _ (HC.out _ HI2.out)).mono ?_
  rintro e w' ⟨rfl, rfl⟩
  go_wp2_with fail
  go_region
  all_goals
    go_wp2
    refine bodyPost_ret (v := .tuple #[.agg #[.int .i64 x0, .int .i64 x1, .slice A2 m c2], .int .i64 ((a : Int) + 4 + m), .bool true]) (by simp [results, Tryz.results161, go_sem, q0, q1, q2]) rfl ?_
    have hg := set3_grown w2 w.heap.size (.int .i64 x0) (.int .i64 x1) (.slice A2 m c2)
    refine ⟨A2, c2, rfl, ?_, ?_⟩
    · exact (HO2.out.kept hg (by intro q hq e; injection hq with hq; have := (HO1.out.block _ e).1; simp at this; omega)).mono (by simp; omega)
    · have hG := HB2.out.trans (below_of_grown' hg (by have := HB2.out.size; omega) (by intro q hq; injection hq with hq; omega))
      exact ⟨hG.os, hG.tape, hG.output, hG.size, hG.block⟩
/-- the same with a premise that nobody needs -/
theorem implGet_no (A : Option Addr) (n c : Nat) (p : Int) (xs : List Int) (w : World) (hi : Ints w w.heap.size A n xs) (hn : n ≤ c) (hc : c ≤ 9223372036854775807) (hn2 : n ≤ 17592186044416) (h0 : A = none → c = 0)
    (hp : p ≤ 9223372036854775807) (hno : ¬ goodF xs n p) :
    Calls Tryz.prog 161 #[.slice A n c, .int .i64 p] w fun e w' => e = .returned noFrame ∧ Below w.heap.size w w' := implGet_no0 A n c p xs w hi hn hc hn2 hp hno
theorem implGet_yes (A : Option Addr) (n c a m : Nat) (p : Int) (xs : List Int) (w : World) (hp : p = a) (hi : Ints w w.heap.size A n xs) (hn : n ≤ c) (hc : c ≤ 9223372036854775807) (hn2 : n ≤ 17592186044416) (h0 : A = none → c = 0)
    (hm : xs.getD (a + 2) 0 = (m : Int)) (hl : a + 4 + m ≤ n) (x0 x1 x3 : Int) (hx0 : xs.getD a 0 = x0) (hx1 : xs.getD (a + 1) 0 = x1) (hx3 : xs.getD (a + 3 + m) 0 = x3)
    (hv : validF x0 x1 (cutW xs (a + 3) m) = true) (hs : x3 = sumFrom 7 (cutW xs a (3 + m))) :
    Calls Tryz.prog 161 #[.slice A n c, .int .i64 p] w fun e w' => ∃ A2 c2, e = .returned (.tuple #[.agg #[.int .i64 x0, .int .i64 x1, .slice A2 m c2], .int .i64 ((a : Int) + 4 + m), .bool true]) ∧
      Own w' w.heap.size A2 m c2 (cutW xs (a + 3) m) ∧ Below w.heap.size w w' := implGet_yes0 A n c a m p xs w hp hi hn hc hn2 hm hl x0 x1 x3 hx0 hx1 hx3 hv hs
end Go.Proofs.YtfianpjoifcphaaGreat

/- SpecO4 -/
namespace Go.Proofs.YtfianpjoifcphaaGreat
open Go.RowKit
set_option linter.unusedVariables false
set_option maxRecDepth 100000

theorem ret_pair_SpecO4 {k : IntKind} {a a' : Int} {b b' : Bool} (h : a = a') (h2 : b = b') : Ending.returned (.tuple #[.int k a, .bool b]) = .returned (.tuple #[.int k a', .bool b']) := by rw [h, h2]
theorem obs_has {qs : List Oq} {id : Int} (h : hasS (obs qs) id = true) : ∃ (i : Nat) (q : Oq), findF 0 (obs qs) id = (i : Int) ∧ qs[i]? = some q ∧ q.id = id ∧ valsAt (obs qs) id = q.vals := by
  obtain ⟨i, o, hf, ho, hid, hv⟩ := findF_yes (obs qs) id 0 h
  obtain ⟨q, hq, rfl⟩ := obs_get_inv ho
  exact ⟨i, q, by rw [hf, Nat.zero_add], hq, hid, hv⟩

set_option maxHeartbeats 3200000 in
theorem specGetO (A : Option Addr) (n c B : Nat) (id ix : Int) (qs : List Oq) (w : World) (hr : Objs w B A n qs) (hn : n ≤ 10000000000) :
    Calls Tryz.prog 176 #[.slice A n c, .int .i64 id, .int .i64 ix] w fun e w' => e = .returned (.tuple #[.int .i64 (getV (obs qs) id ix), .bool (getB (obs qs) id ix)]) ∧ w = w' := by
  have H1 := hide (specSV A n c B qs w hr (by omega))
  have H2 := hide (specFind A n c B id qs w hr (by omega))
  have HR := hide hr
  clear hr
  rcases hv : stV (obs qs) with _ | _
  · have HG := hide (show getB (obs qs) id ix = false by unfold getB; rw [hv]; rfl)
    rw [hv] at H1
    clear hv H2
    go_enter Tryz.func176, Tryz.ntmps176
    go_wp2_with (go_at_call 119; refine H1.out.mono ?_; rintro e w1 ⟨rfl, rfl⟩)
    go_ret2
    exact ⟨ret_pair_SpecO4 (by unfold getV; rw [HG.out]; rfl) HG.out.symm, rfl⟩
  · have HLV := hide (stV_len hv)
    rcases hh : hasS (obs qs) id with _ | _
    · have HG := hide (show getB (obs qs) id ix = false by unfold getB; rw [hh]; simp)
      rw [hv] at H1
      rw [findF_no _ _ 0 hh] at H2
      clear hv hh
      go_enter Tryz.func176, Tryz.ntmps176
      go_wp2_with (first
        | (go_at_call 119; refine H1.out.mono ?_; rintro e w1 ⟨rfl, rfl⟩)
        | (go_at_call 217; refine H2.out.mono ?_; rintro e w1 ⟨rfl, rfl⟩))
      go_ret2
      exact ⟨ret_pair_SpecO4 (by unfold getV; rw [HG.out]; rfl) HG.out.symm, rfl⟩
    · obtain ⟨i, q, hf, hq, hid, hva⟩ := obs_has hh
      have hin : i < n := by rw [← HR.out.1]; exact (List.getElem?_eq_some_iff.1 hq).1
      have hm6 := HLV.out.2 q (List.mem_of_getElem? hq)
      have HG := hide (show getB (obs qs) id ix = inB ix 0 ((q.vals.length : Int) - 1) by unfold getB; rw [hv, hh, hva]; rfl)
      have HGV := hide (show getV (obs qs) id ix = if inB ix 0 ((q.vals.length : Int) - 1) then q.vals.getD ix.toNat 0 else 0 by unfold getV; rw [HG.out, hva])
      rw [hv] at H1
      rw [hf] at H2
      obtain ⟨ad, p, rfl, hp, hb, hc0, hc1⟩ := HR.out.at_ hq
      obtain ⟨hi, hle, hcm, _⟩ := HR.out.words hq
      clear hv hh hf hq hid hva HR HLV
      obtain ⟨x, vs, qa, qc⟩ := q
      simp only [Oq.sl] at hc1 hi hle hcm hm6 HG HGV
      generalize vs.length = m at hc1 hi hle hm6 HG HGV
      have i0 : (0 : Int) ≤ (i : Int) := by omega
      have i1 : (i : Int) < (n : Int) := by omega
      have H3 := hide (in_any ix 0 ((m : Int) - 1) w)
      clear hc0 hle hcm
      rcases hin2 : inB ix 0 ((m : Int) - 1) with _ | _
      · rw [hin2] at H3 HG HGV
        clear hin2 hi
        go_enter Tryz.func176, Tryz.ntmps176
        go_wp2_with (first
          | (go_at_call 119; refine H1.out.mono ?_; rintro e w1 ⟨rfl, rfl⟩)
          | (go_at_call 217; refine H2.out.mono ?_; rintro e w1 ⟨rfl, rfl⟩)
          | (go_at_call 60; refine H3.out.mono ?_; rintro e w1 ⟨rfl, rfl⟩))
        go_ret2
        exact ⟨ret_pair_SpecO4 HGV.out.symm HG.out.symm, rfl⟩
      · obtain ⟨x0, x1⟩ := inB_iff.1 hin2
        obtain ⟨j, rfl⟩ := Int.eq_ofNat_of_zero_le x0
        have hj : j < m := by omega
        obtain ⟨ad2, rfl, hb2, hcj⟩ := hi.at_ hj
        rw [hin2] at H3 HG HGV
        have j0 : (0 : Int) ≤ (j : Int) := by omega
        have j1 : (j : Int) < (m : Int) := by omega
        have HY := hide (show getV (obs qs) id (j : Int) = vs.getD j 0 by rw [HGV.out]; rfl)
        clear hin2 hi HGV
        generalize vs.getD j 0 = y at hcj HY
        go_enter Tryz.func176, Tryz.ntmps176
        go_wp2_with (first
          | (go_at_call 119; refine H1.out.mono ?_; rintro e w1 ⟨rfl, rfl⟩)
          | (go_at_call 217; refine H2.out.mono ?_; rintro e w1 ⟨rfl, rfl⟩)
          | (go_at_call 60; refine H3.out.mono ?_; rintro e w1 ⟨rfl, rfl⟩))
        go_ret2
        exact ⟨ret_pair_SpecO4 HY.out.symm HG.out.symm, rfl⟩

theorem Objs.one {w : World} {B n : Nat} {ad : Addr} {qs : List Oq} (h : Objs w B (some ad) n qs) {k : Nat} {q : Oq} (hq : qs[k]? = some q) : Objs w B (some (ad.add (k * 2))) 1 [q] := by
  have hl : k < n := by rw [← h.1]; exact (List.getElem?_eq_some_iff.1 hq).1
  obtain ⟨ad', e, hb, hc⟩ := h.2.1 (by omega)
  injection e with e
  subst e
  refine ⟨rfl, fun _ => ⟨_, rfl, by rw [block_of_add]; exact hb, fun j u hu => ?_⟩, fun r hr => ?_⟩
  · rw [add_of_add]
    refine hc _ _ ?_
    have hj : j < 2 := by
      have := (List.getElem?_eq_some_iff.1 hu).1
      simpa [flatO] using this
    rw [flatO_get hq j hj]
    simpa [flatO, Oq.cells] using hu
  · simp at hr
    subst hr
    exact h.2.2 _ (List.mem_of_getElem? hq)

theorem filter_take_SpecO4 {s : Sto} {k : Nat} {o : Int × List Int} (h : s[k]? = some o) (f : Int × List Int → Bool) : (s.take (k + 1)).filter f = (s.take k).filter f ++ (if f o then [o] else []) := by
  rw [List.take_add_one, h, List.filter_append]
  simp only [Option.toList_some, List.filter_cons, List.filter_nil]
theorem filter_yes {s : Sto} {k : Nat} {o : Int × List Int} (h : s[k]? = some o) {f : Int × List Int → Bool} (hf : f o = true) : (s.take (k + 1)).filter f = (s.take k).filter f ++ [o] := by
  rw [filter_take_SpecO4 h, if_pos hf]
theorem filter_no {s : Sto} {k : Nat} {o : Int × List Int} (h : s[k]? = some o) {f : Int × List Int → Bool} (hf : f o = false) : (s.take (k + 1)).filter f = (s.take k).filter f := by
  rw [filter_take_SpecO4 h, if_neg (by rw [hf]; decide), List.append_nil]

set_option maxHeartbeats 6400000 in
theorem specKeepO (A X : Option Addr) (n c B C m d : Nat) (qs : List Oq) (ids : List Int) (w : World) (hr : Objs w B A n qs) (hB : B ≤ w.heap.size) (hn : n ≤ 10000000000) (hnc : n ≤ c) (hc : c ≤ maxLen) (hx : Ints w C X m ids) (hC : C ≤ w.heap.size) (hm : m ≤ 1000000000000) :
    Calls Tryz.prog 227 #[.slice A n c, .slice X m d] w (StoPost w (stV (obs qs)) (keepS (obs qs) ids)) := by
  have H1 := hide (specSV A n c B qs w hr (by omega))
  have HR := hide hr
  have HX := hide hx
  clear hr hx
  unfold maxLen at hc
  rcases hv : stV (obs qs) with _ | _
  · have HK := hide (show keepS (obs qs) ids = [] by unfold keepS; rw [hv]; rfl)
    rw [hv] at H1
    clear hv
    go_enter Tryz.func227, Tryz.ntmps227
    go_wp2_with (go_at_call 119; refine H1.out.mono ?_; rintro e w1 ⟨rfl, rfl⟩)
    go_ret2
    exact ⟨_, _, _, [], rfl, OwnO.lit0 w w.heap.size (Nat.le_refl _), HK.out.symm, below_new w _⟩
  · have HK := hide (show keepS (obs qs) ids = (obs qs).filter (fun o => hasI ids o.1) by unfold keepS; rw [hv]; rfl)
    have HLV := hide (stV_len hv)
    rw [hv] at H1
    clear hv
    go_enter Tryz.func227, Tryz.ntmps227
    go_wp2_with (go_at_call 119; refine H1.out.mono ?_; rintro e w1 ⟨rfl, rfl⟩)
    go_loopw [6, 7] (fun o i wr => ∃ (k l c2 : Nat) (A2 : Option Addr) (rs : List Oq), k ≤ n ∧ l ≤ k ∧ i = .int .i64 k ∧ o = .slice A2 l c2 ∧ Hid (OwnO wr w.heap.size A2 l c2 rs) ∧ Hid (obs rs = ((obs qs).take k).filter (fun o => hasI ids o.1)) ∧ Hid (Below w.heap.size w wr)) (fun _ i _ => n - (intOf i).toNat)
    case atStart => exact ⟨0, 0, 0, _, [], Nat.zero_le _, Nat.le_refl _, rfl, rfl, OwnO.lit0 w _ (Nat.le_refl _), rfl, below_new w _⟩
    case round =>
      obtain ⟨k, l, c2, A2, rs, hk, hlk, rfl, rfl, HO, HZ, HB⟩ := hrel
      have hs := HB.out.size
      by_cases hlt : k < n
      · obtain ⟨q, hq⟩ : ∃ q, qs[k]? = some q := ⟨_, List.getElem?_eq_getElem (by rw [HR.out.1]; exact hlt)⟩
        have HY := hide fun (h : hasI ids q.id = true) => filter_yes (obs_get hq) (f := fun o => hasI ids o.1) h
        have HN := hide fun (h : hasI ids q.id = false) => filter_no (obs_get hq) (f := fun o => hasI ids o.1) h
        rw [← HZ.out] at HY HN
        have hR := HR.out.below HB.out hB
        obtain ⟨ad, p, rfl, hp, hb, hc0, hc1⟩ := hR.at_ hq
        have hml := HLV.out.2 q (List.mem_of_getElem? hq)
        have HC := hide (specCopyO (some p) 1 (c - k) B [q] wr (hp ▸ hR.one hq) (by omega) (by decide) (fun r hr => by simp at hr; subst hr; omega))
        have HH := hide (HX.out.below HB.out hC)
        have k0 : (0 : Int) ≤ (k : Int) := by omega
        have k1 : (k : Int) < (n : Int) := by omega
        have hl1 : l + 1 ≤ 100000000000 := by omega
        clear hq hc1 hml hR
        obtain ⟨id, vs, qa, qc⟩ := q
        simp only [Oq.ob] at hc0 HY HN
        rcases hin : hasI ids id with _ | _
        · have HZ2 := hide (HN.out hin)
          have HI := hide hin
          clear hin
          go_wp2_with (go_at_call 253; refine (HI.out ▸ l4Has_any X m d C id ids _ HH.out (by unfold maxLen; omega) : Calls _ _ _ _ fun e w' => e = .returned (.bool false) ∧ wr = w').mono ?_; rintro e w' ⟨rfl, rfl⟩)
          go_roundw
          case rel => exact ⟨k + 1, l, c2, A2, rs, by omega, by omega, by go_num, rfl, HO.out, by show _ = _; exact HZ2.out.symm, HB.out⟩
          case measure => simp [intOf]; omega
        · have HZ2 := hide (HY.out hin)
          have HI := hide hin
          clear hin
          go_wp2_with (first
            | (go_at_call 253; refine (HI.out ▸ l4Has_any X m d C id ids _ HH.out (by unfold maxLen; omega) : Calls _ _ _ _ fun e w' => e = .returned (.bool true) ∧ wr = w').mono ?_; rintro e w' ⟨rfl, rfl⟩)
            | (go_at_call 129; refine HC.out.mono ?_; rintro e w5 ⟨A5, c5, qs5, rfl, ho5, hz5, hb5⟩; have HNW := hide (News.row HO.out ho5 hb5 hs); have HB5 := hide (HB.out.trans (hb5.mono hs)); have HZ5 := hide hz5; have hs5 := HB5.out.size; clear ho5 hz5 hb5)
            | (at_builtin; refine wpList_append_objs rfl (.tmp 26) (.tmp 32) rfl w.heap.size l c2 1 c5 A2 A5 rs qs5 rfl rfl HNW.out hl1 hs5 ?_; intro A6 c6 w6 ho6 hg6 hat6; have HB6 := hide (HB5.out.grown hg6 hs5 (fun g hg => (HNW.out.own.block g hg).1)); have HO6 := hide ho6; clear hat6 hg6 ho6))
          go_roundw
          case rel => exact ⟨k + 1, l + 1, _, _, _, by omega, by omega, by go_num, rfl, HO6.out, by show obs (rs ++ qs5) = _; rw [HZ2.out, obs_append, HZ5.out]; simp [obs, Oq.ob], HB6.out⟩
          case measure => simp [intOf]; omega
      · obtain rfl : k = n := by omega
        have h := HZ.out
        rw [List.take_of_length_le (by rw [obs_length, HR.out.1]; exact Nat.le_refl _), ← HK.out] at h
        have HE := hide h
        clear h
        go_wp2
        go_ret2
        exact ⟨_, _, _, _, rfl, HO.out, HE.out, HB.out⟩
end Go.Proofs.YtfianpjoifcphaaGreat

/- SpecM6 -/
namespace Go.Proofs.YtfianpjoifcphaaGreat
open Go.RowKit
set_option linter.unusedVariables false
set_option maxRecDepth 100000

theorem ret_pair {v : Value} {x y : Bool} (h : x = y) : Ending.returned (.tuple #[v, .bool x]) = .returned (.tuple #[v, .bool y]) := by rw [h]
/-- what MapApply answers -/
def ApPost (w : World) (ok : Bool) (ms : List Wh) (e : Ending) (w' : World) : Prop :=
  ∃ A2 m2 c2, e = .returned (.tuple #[.slice A2 m2 c2, .bool ok]) ∧ MpR w' w.heap.size A2 m2 c2 ms ∧ Below w.heap.size w w'
theorem ap_no {ms : List Wh} {kd sq z a : Int} {xs : List Int} (h : apOk ms kd sq xs z a = false) : apM ms kd sq xs z a = [] := by unfold apM; rw [h]; rfl
theorem ap_no1 {ms : List Wh} {kd sq z a : Int} {xs : List Int} (h : mpV ms = false) : apOk ms kd sq xs z a = false := by unfold apOk; rw [h]; rfl
theorem ap_no2 {ms : List Wh} {kd sq z a : Int} {xs : List Int} (h : validF kd sq xs = false) : apOk ms kd sq xs z a = false := by unfold apOk; rw [h]; simp
theorem ap_no3 {ms : List Wh} {kd sq z a : Int} {xs : List Int} (h : inB z 0 3 = false) : apOk ms kd sq xs z a = false := by unfold apOk; rw [h]; simp
theorem ap_no4 {ms : List Wh} {kd sq z a : Int} {xs : List Int} (h : inB a 0 (60 - xs.length) = false) : apOk ms kd sq xs z a = false := by unfold apOk; rw [h]; simp
theorem ap_no5 {ms : List Wh} {kd sq z a : Int} {xs : List Int} (h : bodyOk kd xs = false) : apOk ms kd sq xs z a = false := by unfold apOk; rw [h]; simp
theorem ap_yes {ms : List Wh} {kd sq z a : Int} {xs : List Int} (h1 : mpV ms = true) (h2 : validF kd sq xs = true) (h3 : inB z 0 3 = true) (h4 : inB a 0 (60 - xs.length) = true) (h5 : bodyOk kd xs = true) :
    apOk ms kd sq xs z a = true ∧ apM ms kd sq xs z a = apK kd z a xs (recN kd xs) ms := by
  have h : apOk ms kd sq xs z a = true := by unfold apOk; rw [h1, h2, h3, h4, h5]; rfl
  exact ⟨h, by unfold apM; rw [if_pos h]⟩

set_option maxHeartbeats 6400000 in
theorem specMA (A F : Option Addr) (n c fn fc B BF : Nat) (ms : List Wh) (kd sq z a : Int) (xs : List Int) (w : World) (hr : MpI w B A n ms) (hf : Ints w BF F fn xs) (hB : B ≤ w.heap.size) (hBF : BF ≤ w.heap.size) (hn : n ≤ 1000000000) (hfn : fn ≤ 1000000000) :
    Calls Tryz.prog 175 #[.slice A n c, .agg #[.int .i64 kd, .int .i64 sq, .slice F fn fc], .int .i64 z, .int .i64 a] w (ApPost w (apOk ms kd sq xs z a) (apM ms kd sq xs z a)) := by
  have HR := hide hr
  have HF := hide hf
  have HL := hide hf.1
  have HRL := hide hr.1
  clear hr hf
  obtain ⟨W0, hW0⟩ : ∃ W0, w.alloc (.cells #[.int .i64 kd, .int .i64 sq, .slice F fn fc] 128) = W0 := ⟨_, rfl⟩
  have HSW := hide (show W0.heap.size = w.heap.size + 1 by rw [← hW0]; simp)
  have HW0 := hide (show Below w.heap.size w W0 by rw [← hW0]; exact below_new w _)
  have HQ : Hid (∀ W : World, Below W0.heap.size W0 W → (W.cell? ⟨w.heap.size, 0, none⟩ = some (.int .i64 kd) ∧ W.cell? ⟨w.heap.size, 1, none⟩ = some (.int .i64 sq) ∧ W.cell? ⟨w.heap.size, 2, none⟩ = some (.slice F fn fc)) ∧ Below w.heap.size w W) := by
    intro W h
    have hb : Blk W0 w.heap.size 128 #[.int .i64 kd, .int .i64 sq, .slice F fn fc] := by rw [← hW0]; exact Blk.new w _ _
    have hb2 := hb.below h (by have := HSW.out; omega)
    exact ⟨⟨by rw [hb2.cell]; rfl, by rw [hb2.cell]; rfl, by rw [hb2.cell]; rfl⟩, HW0.out.trans (h.mono HW0.out.size)⟩
  have HV := hide (specMV A n c B ms W0 (HR.out.below HW0.out hB) (Nat.le_trans hB HW0.out.size) hn)
  have HFV := hide fun (W : World) (h : Below W0.heap.size W0 W) => specValid kd sq F fn fc BF xs W (HF.out.below (HQ.out W h).2 hBF) (Nat.le_trans hBF (HQ.out W h).2.size) (by unfold maxLen; omega)
  have wf : IntKind.i64.wrap (60 - (fn : Int)) = 60 - (fn : Int) := IntWalk.i64_in _ (by omega)
  rcases h1 : mpV ms with _ | _
  · rw [h1] at HV
    have HE := hide (ap_no1 (kd := kd) (sq := sq) (z := z) (a := a) (xs := xs) h1)
    clear h1
    go_enter Tryz.func175, Tryz.ntmps175
    go_wp2_with fail
    refine HV.out.mono ?_
    rintro e w1 ⟨rfl, hb1⟩
    have HB1 := hide (HQ.out w1 hb1).2
    clear hb1
    go_wp2
    go_ret2
    exact ⟨_, _, _, ret_pair HE.out.symm, by rw [ap_no HE.out]; exact MpR.lit0 w1 _ HB1.out.size, HB1.out.alloc HB1.out.size _⟩
  rw [h1] at HV
  rcases h2 : validF kd sq xs with _ | _
  · rw [h2] at HFV
    have HE := hide (ap_no2 (ms := ms) (z := z) (a := a) h2)
    clear h1 h2
    go_enter Tryz.func175, Tryz.ntmps175
    go_wp2_with fail
    refine HV.out.mono ?_
    rintro e w1 ⟨rfl, hb1⟩
    obtain ⟨⟨hq0, hq1, hq2⟩, hB1⟩ := HQ.out w1 hb1
    have HB0 := hide hb1
    clear hb1 hB1
    go_wp2_with fail
    refine (HFV.out w1 HB0.out).mono ?_
    rintro e w2 ⟨rfl, hb2⟩
    have HB2 := hide (HQ.out w2 (HB0.out.trans (hb2.mono HB0.out.size))).2
    clear hb2
    go_wp2
    go_ret2
    exact ⟨_, _, _, ret_pair HE.out.symm, by rw [ap_no HE.out]; exact MpR.lit0 w2 _ HB2.out.size, HB2.out.alloc HB2.out.size _⟩
  rw [h2] at HFV
  have H1 := hide h1
  have H2 := hide h2
  rcases h3 : inB z 0 3 with _ | _
  · have H3 := hide h3
    have HE := hide (ap_no3 (ms := ms) (kd := kd) (sq := sq) (a := a) (xs := xs) h3)
    clear h1 h2 h3
    go_enter Tryz.func175, Tryz.ntmps175
    go_wp2_with fail
    refine HV.out.mono ?_
    rintro e w1 ⟨rfl, hb1⟩
    obtain ⟨⟨hq0, hq1, hq2⟩, hB1⟩ := HQ.out w1 hb1
    have HB0 := hide hb1
    clear hb1 hB1
    go_wp2_with fail
    refine (HFV.out w1 HB0.out).mono ?_
    rintro e w2 ⟨rfl, hb2⟩
    have HB2 := hide (HQ.out w2 (HB0.out.trans (hb2.mono HB0.out.size))).2
    clear hb2
    go_wp2_with fail
    refine (in_no _ _ _ _ H3.out).mono ?_
    rintro e w' ⟨rfl, rfl⟩
    go_wp2
    go_ret2
    exact ⟨_, _, _, ret_pair HE.out.symm, by rw [ap_no HE.out]; exact MpR.lit0 _ _ HB2.out.size, HB2.out.alloc HB2.out.size _⟩
  have H3 := hide h3
  have HLE := hide (show inB a 0 (60 - xs.length) = inB a 0 (60 - (fn : Int)) by rw [HL.out])
  rcases h4 : inB a 0 (60 - (fn : Int)) with _ | _
  · have H4 := hide h4
    have HE := hide (ap_no4 (ms := ms) (kd := kd) (sq := sq) (z := z) (xs := xs) (HLE.out.trans h4))
    clear h1 h2 h3 h4
    go_enter Tryz.func175, Tryz.ntmps175
    go_wp2_with fail
    refine HV.out.mono ?_
    rintro e w1 ⟨rfl, hb1⟩
    obtain ⟨⟨hq0, hq1, hq2⟩, hB1⟩ := HQ.out w1 hb1
    have HB0 := hide hb1
    clear hb1 hB1
    go_wp2_with fail
    refine (HFV.out w1 HB0.out).mono ?_
    rintro e w2 ⟨rfl, hb2⟩
    obtain ⟨⟨hr0, hr1, hr2⟩, hB2⟩ := HQ.out w2 (HB0.out.trans (hb2.mono HB0.out.size))
    have HB2 := hide hB2
    clear hb2 hB2
    go_wp2_with fail
    refine (in_yes _ _ _ _ H3.out).mono ?_
    rintro e w' ⟨rfl, rfl⟩
    go_wp2_with fail
    refine (in_no _ _ _ _ H4.out).mono ?_
    rintro e w' ⟨rfl, rfl⟩
    go_wp2
    go_ret2
    exact ⟨_, _, _, ret_pair HE.out.symm, by rw [ap_no HE.out]; exact MpR.lit0 _ _ HB2.out.size, HB2.out.alloc HB2.out.size _⟩
  have H4 := hide h4
  have h4' := inB_iff.1 h4
  have hn12 : n = 12 := HRL.out.symm.trans (mpV_iff.1 h1).2
  subst hn12
  have hlen : xs.length ≤ 18 := by have := (validF_iff.1 h2).2.2.1; omega
  have HAP := hide fun (W : World) (h : Below w.heap.size w W) => l11Apply_any A F c fn fc B BF ms kd sq z a xs W (HR.out.below h hB) (HF.out.below h hBF) (Nat.le_trans hB h.size) (Nat.le_trans hBF h.size) hlen (by omega)
  obtain ⟨v, hv⟩ : ∃ v, bodyOk kd xs = v := ⟨_, rfl⟩
  have HBV := hide hv
  clear h1 h2 h3 h4 h4' hlen hv
  go_enter Tryz.func175, Tryz.ntmps175
  go_wp2_with fail
  refine HV.out.mono ?_
  rintro e w1 ⟨rfl, hb1⟩
  obtain ⟨⟨hq0, hq1, hq2⟩, hB1⟩ := HQ.out w1 hb1
  have HB0 := hide hb1
  clear hb1 hB1
  go_wp2_with fail
  refine (HFV.out w1 HB0.out).mono ?_
  rintro e w2 ⟨rfl, hb2⟩
  obtain ⟨⟨hr0, hr1, hr2⟩, hB2⟩ := HQ.out w2 (HB0.out.trans (hb2.mono HB0.out.size))
  have HB2 := hide hB2
  clear hb2 hB2 hq0 hq1 hq2
  go_wp2_with fail
  refine (in_yes _ _ _ _ H3.out).mono ?_
  rintro e w' ⟨rfl, rfl⟩
  go_wp2_with fail
  refine (in_yes _ _ _ _ H4.out).mono ?_
  rintro e w' ⟨rfl, rfl⟩
  go_wp2_with fail
  refine (HAP.out _ HB2.out).mono ?_
  rintro e w3 ⟨A3, c3, rfl, ho3, hb3⟩
  have HO3 := hide ho3
  have HB3 := hide (HB2.out.trans (hb3.mono HB2.out.size))
  have HS2 := hide HB2.out.size
  clear ho3 hb3
  rw [HBV.out] at HO3 ⊢
  rcases v with _ | _
  · have HE := hide (ap_no5 (ms := ms) (sq := sq) (z := z) (a := a) HBV.out)
    go_wp2
    go_ret2
    exact ⟨_, _, _, ret_pair HE.out.symm, by rw [ap_no HE.out]; exact MpR.lit0 _ _ HB3.out.size, HB3.out.alloc HB3.out.size _⟩
  · have HE := hide (ap_yes H1.out H2.out H3.out (HLE.out.trans H4.out) HBV.out)
    go_wp2
    go_ret2
    exact ⟨_, _, _, ret_pair HE.out.1.symm, by rw [HE.out.2]; exact (HO3.out (by first | trivial | rfl)).mono HS2.out, HB3.out⟩
end Go.Proofs.YtfianpjoifcphaaGreat
