/-
  Texts in one: ImpZ4, ImpZ5, ImpVF, SpecN3, VolM, VolV, VolW, VolP, Fits, ImpV1, ImpV2. Plain.
-/
import Derived.Test.YtfianpjoifcphaaGreatImpZ3
import Derived.Test.YtfianpjoifcphaaGreatG5
import Derived.Test.YtfianpjoifcphaaGreatG3
import Derived.Test.YtfianpjoifcphaaGreatG1
import Derived.Test.YtfianpjoifcphaaGreatSpecN2
import Derived.Test.YtfianpjoifcphaaGreatG4
import Derived.Test.YtfianpjoifcphaaGreatG2
import Derived.Test.YtfianpjoifcphaaGreatGrid
/- ImpZ4 -/
namespace Go.Proofs.YtfianpjoifcphaaGreat
open Go.RowKit
set_option linter.unusedVariables false
set_option maxRecDepth 100000

/-- a call that changed one grid, and returns nothing -/
def MarkPost (w : World) (g : Nat) (W : List Int) (M : List Mk) (e : Ending) (w' : World) : Prop := e = .returned (.tuple #[]) ∧ GB w' g W M ∧ w.grownBy w' (some g)

theorem GB.cutS {w : World} {g k : Nat} {W : List Int} {M : List Mk} {m : Mk} (h : GB w g W M) (hm : M[k]? = some m) (a b : Int) (h0 : 0 ≤ a) (h1 : a ≤ 64) :
    GB ((w.setCell ⟨g, 256 + k * 3, none⟩ (.int .i64 a)).setCell ⟨g, 256 + k * 3 + 1, none⟩ (.int .i64 b)) g W (M.set k (a, b, m.2.2)) ∧ w.grownBy ((w.setCell ⟨g, 256 + k * 3, none⟩ (.int .i64 a)).setCell ⟨g, 256 + k * 3 + 1, none⟩ (.int .i64 b)) (some g) := by
  have hl : k < M.length := (List.getElem?_eq_some_iff.1 hm).1
  have p1 := h.set0 hm a h0 h1
  have p2 := p1.set1 (k := k) (m := (a, m.2.1, m.2.2)) (by rw [List.getElem?_set_self hl]) b
  rw [List.set_set] at p2
  exact ⟨p2, grown_trans' (grown1 _ _ _ _) (grown1 _ _ _ _)⟩


theorem GB.syncS {w : World} {g k : Nat} {W : List Int} {M : List Mk} {m : Mk} (h : GB w g W M) (hm : M[k]? = some m) (b : Int) :
    GB (w.setCell ⟨g, 256 + k * 3 + 1, none⟩ (.int .i64 b)) g W (M.set k (m.1, b, m.2.2)) ∧ w.grownBy (w.setCell ⟨g, 256 + k * 3 + 1, none⟩ (.int .i64 b)) (some g) := ⟨h.set1 hm b, grown1 _ _ _ _⟩

set_option maxHeartbeats 1600000 in
theorem implMarkSync (g k : Nat) (mi sy : Int) (fu : Bool) (W : List Int) (M : List Mk) (w : World) (hg : GB w g W M) (hm : M[k]? = some (mi, sy, fu)) :
    Calls Tryz.prog 140 #[.pointer (some ⟨g, 256 + k * 3, none⟩)] w (MarkPost w g W (M.set k (mi, mi, fu))) := by
  obtain ⟨hc0, hc1, hc2⟩ := hg.mark hm
  have HC := hide (hg.syncS hm mi)
  have hf1 := hg.1.frozen (256 + k * 3 + 1)
  clear hg hm hc2
  simp only at hc0 hc1 HC
  go_enter Tryz.func140, Tryz.ntmps140
  go_wp2
  exact bodyPost_end (results_none Tryz.results140 _ _ _) rfl ⟨rfl, HC.out⟩

end Go.Proofs.YtfianpjoifcphaaGreat

/- ImpZ5 -/
namespace Go.Proofs.YtfianpjoifcphaaGreat
open Go.RowKit
set_option linter.unusedVariables false
set_option maxRecDepth 100000

theorem devpost_nil {w w' : World} (hb : Below w.heap.size w w') : DevPost w false [] (.returned (.tuple #[.slice none 0 0, .bool false])) w' := ⟨_, _, _, [], rfl, OwnZ.nil_ _ _, rfl, hb⟩

/-- a grid in a new block, behind the call that made it -/
structure Gd (w w2 : World) (G : Nat) (ds : Dev) (W : List Int) (M : List Mk) : Prop where
  grid : GB w2 G W M
  dev : devG W M = ds
  below : Below w.heap.size w w2
  new : w.heap.size ≤ G

theorem Gd.mk' {w w1 w2 : World} {ds : Dev} {cs : List Value} {W : List Int} {M : List Mk} (hb : Below w.heap.size w w1) (hcs : cs = gcells W M ∧ GrOk W M ∧ devG W M = ds) (o : Obj)
    (hw : Blk w2 w1.heap.size 77 cs.toArray) (hg : (w1.alloc o).grownBy w2 (some w1.heap.size)) : Gd w w2 w1.heap.size ds W M := by
  obtain ⟨rfl, hok, hd⟩ := hcs
  have hs := hb.size
  exact ⟨⟨hw, hok⟩, hd, (hb.alloc hs o).grown hg (by simp; omega) (fun b hb => by injection hb with hb; omega), hs⟩
/-- behind a change of the grid -/
theorem Gd.next {w w2 w3 : World} {G : Nat} {ds ds' : Dev} {W W' : List Int} {M M' : List Mk} (h : Gd w w2 G ds W M) (hG : GB w3 G W' M') (hg : w2.grownBy w3 (some G)) (hd : devG W' M' = ds') : Gd w w3 G ds' W' M' :=
  ⟨hG, hd, h.below.grown hg h.below.size (fun b hb => by injection hb with hb; have := h.new; omega), h.new⟩
theorem Gd.done {w w2 w3 : World} {G : Nat} {ds : Dev} {W : List Int} {M : List Mk} (h : Gd w w2 G ds W M) {A2 : Option Addr} {c2 : Nat} {qs2 : List Zq} (ho : OwnZ w3 w2.heap.size A2 4 c2 qs2) (hz : zns qs2 = devG W M) (hb : Below w2.heap.size w2 w3) :
    DevPost w true ds (.returned (.tuple #[.slice A2 4 c2, .bool true])) w3 :=
  ⟨_, _, _, _, rfl, ho.mono h.below.size, hz.trans h.dev, h.below.trans (hb.mono h.below.size)⟩
theorem Gd.doneI {w w2 w3 : World} {G : Nat} {ds : Dev} {W : List Int} {M : List Mk} (h : Gd w w2 G ds W M) {A2 : Option Addr} {c2 : Nat} {qs2 : List Zq} (ho : OwnZ w3 w2.heap.size A2 4 c2 qs2) (hz : zns qs2 = devG W M) (hb : Below w2.heap.size w2 w3) (v : Int) :
    DevPostI w v ds (.returned (.tuple #[.slice A2 4 c2, .int .i64 v])) w3 :=
  ⟨_, _, _, _, rfl, ho.mono h.below.size, hz.trans h.dev, h.below.trans (hb.mono h.below.size)⟩

set_option maxHeartbeats 1600000 in
theorem implErase (A : Option Addr) (n c B : Nat) (qs : List Zq) (w : World) (hr : Zns w B A n qs) (hB : B ≤ w.heap.size) (hn : n ≤ 1000000000000) :
    Calls Tryz.prog 38 #[.slice A n c] w (DevPost w (devV (zns qs)) (if devV (zns qs) then List.replicate 4 zone0 else [])) := by
  have HV := hide (implDV A n c B qs w hr hB hn)
  clear hr
  rcases hv : devV (zns qs) with _ | _
  · rw [hv] at HV
    clear hv
    rw [if_neg (by decide)]
    go_enter Tryz.func38, Tryz.ntmps38
    go_wp2_with (first | (with_reducible refine wpList_alloc_grid rfl rfl ?_) | (with_reducible refine wpList_build_grid rfl rfl ?_))
    refine HV.out.mono ?_
    rintro e w1 ⟨rfl, hb⟩
    have HB := hide hb
    clear hb
    go_wp2
    go_ret2
    exact devpost_nil HB.out
  · rw [hv] at HV
    clear hv
    rw [if_pos rfl]
    go_enter Tryz.func38, Tryz.ntmps38
    go_wp2_with (first | (with_reducible refine wpList_alloc_grid rfl rfl ?_) | (with_reducible refine wpList_build_grid rfl rfl ?_))
    refine HV.out.mono ?_
    rintro e w1 ⟨rfl, hb⟩
    have HB := hide hb
    have HG := hide (show GB (w1.alloc (.cells ZG 77)) w1.heap.size zeroW zeroM from ⟨by rw [← zeroG]; exact Blk.new _ _ _, zeroOk⟩)
    have HD := hide (implDevice w1.heap.size zeroW zeroM _ HG.out)
    have HGd := hide (Gd.mk (w := w) HG.out zeroDev (HB.out.alloc HB.out.size (.cells ZG 77)) HB.out.size)
    clear hb
    go_wp2_with (first | (with_reducible refine wpList_alloc_grid rfl rfl ?_) | (with_reducible refine wpList_build_grid rfl rfl ?_))
    refine HD.out.mono ?_
    rintro e w2 ⟨A2, c2, qs2, rfl, ho, hz, hb2⟩
    have HO := hide ho
    have HZ := hide hz
    have HB2 := hide hb2
    clear ho hz hb2
    go_wp2
    go_ret2
    exact HGd.out.done HO.out HZ.out HB2.out

theorem modG {ds : Dev} {W : List Int} {M : List Mk} {k : Nat} {m : Mk} (hd : devG W M = ds) (hm : M[k]? = some m) (f : List Int × Int × Bool → List Int × Int × Bool) (m' : Mk) (hf : f (zoneG W k m) = zoneG W k m') : devG W (M.set k m') = modD ds k f := by
  have h : ds[k]? = some (zoneG W k m) := by rw [← hd]; exact devG_get hm
  rw [modD_at h, hf, ← hd, devG_set]

theorem zoneV_num {ds : Dev} {z : Int} (h : zoneV ds z = true) : ∃ k : Nat, z = (k : Int) ∧ k < 4 := by
  unfold zoneV at h
  rw [Bool.and_eq_true] at h
  obtain ⟨h0, h1⟩ := inB_iff.1 h.2
  exact ⟨z.toNat, by omega, by omega⟩


theorem zoneG_len {W : List Int} {M : List Mk} (h : GrOk W M) {k : Nat} (hk : k < 4) {m : Mk} (h1 : m.1 ≤ 64) : (zoneG W k m).1.length = m.1.toNat := by
  unfold zoneG
  rw [List.length_take, List.length_drop, h.words]
  omega


end Go.Proofs.YtfianpjoifcphaaGreat

/- ImpVF -/
namespace Go.Proofs.YtfianpjoifcphaaGreat
open Go.RowKit
set_option linter.unusedVariables false
set_option maxRecDepth 100000

theorem made12W (w w1 : World) (b : Nat) (h : w1.ownsRow b 141 5 (.slice (some ⟨w.heap.size, 0, none⟩) 12 12) 12 (madeCells (Value.agg #[.int .i64 0, .int .i64 0, .int .i64 0, .int .i64 0, .int .i64 0]).cells (12 * 5)).toList) : MpR w1 b (some ⟨w.heap.size, 0, none⟩) 12 12 new12 := by
  refine ⟨rfl, by simp [fl5_length, new12], ?_⟩
  have e : (madeCells (Value.agg #[.int .i64 0, .int .i64 0, .int .i64 0, .int .i64 0, .int .i64 0]).cells (12 * 5)).toList = (fl5 new12).map (Value.int .i64) := by
    rw [made_sameM _ (.int .i64 0) (by decide) (fun i hi => by have h2 : i < 5 := hi; rcases i with _ | _ | _ | _ | _ | i <;> first | rfl | omega) _]
    rfl
  rw [← e]
  exact h
theorem made12I (w w1 : World) (b : Nat) (h : w1.ownsRow b 3 1 (.slice (some ⟨w.heap.size, 0, none⟩) 12 12) 12 (madeCells (Value.int .i64 0).cells (12 * 1)).toList) : Own w1 b (some ⟨w.heap.size, 0, none⟩) 12 12 (List.replicate 12 0) := by
  refine ⟨by simp, ?_⟩
  have e : (madeCells (Value.int .i64 0).cells (12 * 1)).toList = (List.replicate 12 (0 : Int)).map (Value.int .i64) := by
    rw [Nat.mul_one]
    show (madeCells #[Value.int .i64 0] 12).toList = _
    rw [toList_madeCells_one, List.map_replicate]
  rw [← e]
  exact h

def mk12W : Array Value := ((fl5 new12).map (Value.int .i64)).toArray
def mk12I : Array Value := ((List.replicate 12 (0 : Int)).map (Value.int .i64)).toArray
theorem run_mk12W (w : World) : (Instr.makeSlice 26 (.int .i64 12) (.int .i64 12)).run Tryz.prog w = .ok (.slice (some ⟨w.heap.size, 0, none⟩) 12 12) (w.alloc (.cells mk12W 141)) := by
  obtain ⟨i0, hi, hz0, hz1, hz2⟩ := info_parts whT.info
  have h := run_make (P := Tryz.prog) w 26 141 i0 _ Tryz.underlying26 hi hz0 .i64 .i64 12 12 (by decide) (by decide) (by rw [hz2]; decide) (by decide)
  rw [hz1] at h
  have e : madeCells (Value.agg #[.int .i64 0, .int .i64 0, .int .i64 0, .int .i64 0, .int .i64 0]).cells (12 * 5) = mk12W := by kernel_rfl
  rw [← e]
  exact h
theorem run_mk12I (w : World) : (Instr.makeSlice 27 (.int .i64 12) (.int .i64 12)).run Tryz.prog w = .ok (.slice (some ⟨w.heap.size, 0, none⟩) 12 12) (w.alloc (.cells mk12I 3)) := by
  obtain ⟨i0, hi, hz0, hz1, hz2⟩ := info_parts info_int
  have h := run_make (P := Tryz.prog) w 27 3 i0 _ Tryz.underlying27 hi hz0 .i64 .i64 12 12 (by decide) (by decide) (by rw [hz2]; decide) (by decide)
  rw [hz1] at h
  have e : madeCells (Value.int .i64 0).cells (12 * 1) = mk12I := by kernel_rfl
  rw [← e]
  exact h

/-- the volume that is stored, its map in block gm, its heat in block gh -/
def fmtQ (qs2 : List Zq) (A2 : Option Addr) (m2 c2 gm gh : Nat) : Vq := ⟨qs2, A2, m2, c2, [], none, 0, 0, new12, some ⟨gm, 0, none⟩, 12, 12, List.replicate 12 0, some ⟨gh, 0, none⟩, 12, 12, 1, 0⟩
theorem fmt_end {w w1 : World} {A2 : Option Addr} {m2 c2 gm gh : Nat} {qs2 : List Zq} {o1 o2 : Obj} (hb : Below w.heap.size w w1) (hx : Blk w1 w.heap.size 29 (boxV vq0)) (ho : OwnZ w1 (w.heap.size + 1) A2 m2 c2 qs2) (hz : zns qs2 = List.replicate 4 zone0)
    (hm : MpR ((w1.alloc o1).alloc o2) (w.heap.size + 1) (some ⟨gm, 0, none⟩) 12 12 new12) (hh : Own ((w1.alloc o1).alloc o2) (w.heap.size + 1) (some ⟨gh, 0, none⟩) 12 12 (List.replicate 12 0)) (h1 : w1.heap.size ≤ gm) (h2 : w1.heap.size ≤ gh) :
    FmtPost w newV 0 (.returned (.tuple #[(fmtQ qs2 A2 m2 c2 gm gh).val, .int .i64 0])) (put6 ((w1.alloc o1).alloc o2) w.heap.size (fmtQ qs2 A2 m2 c2 gm gh)).drew ∧
      Blk (put6 ((w1.alloc o1).alloc o2) w.heap.size (fmtQ qs2 A2 m2 c2 gm gh)).drew w.heap.size 29 (boxV (fmtQ qs2 A2 m2 c2 gm gh)) := by
  have hlt := hx.lt
  have hl : m2 = 4 := by
    have := ho.len
    have e : (zns qs2).length = 4 := by rw [hz]; rfl
    unfold zns at e
    rw [List.length_map] at e
    omega
  have hw : ∀ q ∈ qs2, q.words = [] := fun q hq => by
    have : q.zn ∈ zns qs2 := List.mem_map_of_mem hq
    rw [hz] at this
    have e := (List.mem_replicate.1 this).2
    exact congrArg (fun x => x.1) e
  have hv : OwnV ((w1.alloc o1).alloc o2) (w.heap.size + 1) (fmtQ qs2 A2 m2 c2 gm gh) := ⟨(ho.alloc o1).alloc o2, OwnO.nil_ _ _, hm, hh⟩
  have hp := (hv.put6 (p2 := fmtQ qs2 A2 m2 c2 gm gh) (g := w.heap.size) (by omega)).mono (b' := w.heap.size) (by omega)
  have hq := OwnV.drewN hp 1
  have hbb : Below w.heap.size w ((w1.alloc o1).alloc o2) := (hb.alloc hb.size o1).alloc (by have := hb.size; simp; omega) o2
  have hbe : Below w.heap.size w (put6 ((w1.alloc o1).alloc o2) w.heap.size (fmtQ qs2 A2 m2 c2 gm gh)) := hbb.grown (grown6 _ w.heap.size _) hbb.size (fun k hk => by injection hk with hk; omega)
  have hsz : w1.heap.size ≤ (put6 ((w1.alloc o1).alloc o2) w.heap.size (fmtQ qs2 A2 m2 c2 gm gh)).heap.size := by
    have h5 := (grown6 ((w1.alloc o1).alloc o2) w.heap.size (fmtQ qs2 A2 m2 c2 gm gh)).size
    have h6 : w1.heap.size ≤ ((w1.alloc o1).alloc o2).heap.size := by simp; omega
    exact Nat.le_trans h6 h5
  have hbk := blk6 ((hx.alloc o1).alloc o2) (fmtQ qs2 A2 m2 c2 gm gh)
  have own : ∀ (g n c b : Nat), (Value.slice (some ⟨g, 0, none⟩) n c).ownBlock = some b → g = b := fun g n c b e => by injection e
  generalize put6 ((w1.alloc o1).alloc o2) w.heap.size (fmtQ qs2 A2 m2 c2 gm gh) = W9 at hp hq hbe hsz hbk ⊢
  refine ⟨⟨⟨A2, m2, c2, some ⟨gm, 0, none⟩, 12, 12, some ⟨gh, 0, none⟩, 12, 12, 1, 0, w1.heap.size⟩, qs2, new12, List.replicate 12 0, rfl, ⟨Nat.le_of_eq hl, Nat.le_refl _, Nat.le_refl _, hw, rfl⟩, ?_, ?_, below_drewN hbe 1⟩, hbk⟩
  · exact ⟨hq.dev, ho.lim, hq.map.2, fun b e => by have := own gm 12 12 b e; subst this; exact h1, hq.heat, fun b e => by have := own gh 12 12 b e; subst this; exact h2, hb.size, hsz⟩
  · show (⟨zns qs2, _, _, _, _, _⟩ : Vol) = _
    rw [hz]; rfl

set_option maxHeartbeats 3200000 in
theorem implVFormat (A : Option Addr) (n c B : Nat) (qs : List Zq) (w : World) (hr : Zns w B A n qs) (hB : B ≤ w.heap.size) (hn : n ≤ 1000000000000) :
    Calls Tryz.prog 10 #[.slice A n c] w (FmtPost w (fmtV (devV (zns qs))) (fmtC (devV (zns qs)))) := by
  have HE := hide (implErase A n c B qs (w.alloc (.cells (boxV vq0) 29)) (hr.alloc hB _) (by simp; omega) hn)
  have HB0 := hide (below_box w (.cells (boxV vq0) 29))
  have HX := hide (Blk.new w 29 (boxV vq0))
  unfold boxV vq0 at HE
  clear hr
  rcases hv : devV (zns qs) with _ | _
  · rw [hv, if_neg (by decide)] at HE
    clear hv
    go_enter Tryz.func10, Tryz.ntmps10
    go_wp2_with fail
    refine HE.out.mono ?_
    rintro e w1 ⟨A2, m2, c2, qs2, rfl, -, -, hb1⟩
    have HB1 := hide (HB0.out.trans (hb1.mono (by simp)))
    have HX1 := HX.out.below hb1 HX.out.lt
    have fz := HX1.frozen
    obtain ⟨y0, y1, y2, y3, y4, y5⟩ := box_cells HX1
    have hblk := blk6 HX1 vq0
    have HBE := hide (HB1.out.grown (grown6 w1 w.heap.size vq0) HB1.out.size (fun k hk => by injection hk with hk; omega))
    unfold put6 at HBE hblk
    obtain ⟨q0, q1, q2, q3, q4, q5⟩ := box_cells hblk
    clear hblk HX1 HX HB0 HE hb1 HB1
    simp only [vq0] at y0 y1 y2 y3 y4 y5 q0 q1 q2 q3 q4 q5 HBE
    go_wp2
    generalize (((((w1.setCell ⟨w.heap.size, 0, none⟩ (.slice none 0 0)).setCell ⟨w.heap.size, 1, none⟩ (.slice none 0 0)).setCell ⟨w.heap.size, 2, none⟩ (.slice none 0 0)).setCell ⟨w.heap.size, 3, none⟩ (.slice none 0 0)).setCell ⟨w.heap.size, 4, none⟩ (.int .i64 0)).setCell ⟨w.heap.size, 5, none⟩ (.int .i64 0) = W9 at HBE q0 q1 q2 q3 q4 q5 ⊢
    refine bodyPost_ret (v := .tuple #[.agg #[.slice none 0 0, .slice none 0 0, .slice none 0 0, .slice none 0 0, .int .i64 0, .int .i64 0], .int .i64 3]) (by simp [results, Tryz.results10, go_sem, q0, q1, q2, q3, q4, q5]) rfl ?_
    refine ⟨⟨none, 0, 0, none, 0, 0, none, 0, 0, 0, 0, w.heap.size⟩, [], [], [], rfl, ⟨Nat.zero_le _, Nat.zero_le _, Nat.zero_le _, by simp, rfl⟩, ?_, rfl, HBE.out⟩
    exact ⟨OwnZ.nil_ _ _, ⟨by simp [Value.ownBlock], by simp⟩, OwnR.nil_ _ _ _ _, by simp [Value.ownBlock], Own.nil_ _ _, by simp [Value.ownBlock], Nat.le_refl _, HBE.out.size⟩
  · rw [hv, if_pos rfl] at HE
    clear hv
    have hmW := fun (W : World) => run_mk12W W
    have hmI := fun (W : World) => run_mk12I W
    go_enter Tryz.func10, Tryz.ntmps10
    go_wp2_with fail
    refine HE.out.mono ?_
    rintro e w1 ⟨A2, m2, c2, qs2, rfl, ho1, hz1, hb1⟩
    have HB1 := hide (HB0.out.trans (hb1.mono (by simp)))
    have HX1 := HX.out.below hb1 HX.out.lt
    have fz := HX1.frozen
    obtain ⟨y0, y1, y2, y3, y4, y5⟩ := box_cells HX1
    have HXX := hide HX1
    have HO1 := hide ho1
    have HZ1 := hide hz1
    simp only [vq0] at y0 y1 y2 y3 y4 y5
    have hsz1 : w.heap.size + 1 ≤ w1.heap.size := HXX.out.lt
    have HMW : Hid (MpR ((w1.alloc (.cells mk12W 141)).alloc (.cells mk12I 3)) (w.heap.size + 1) (some ⟨w1.heap.size, 0, none⟩) 12 12 new12 ∧ MpR ((w1.alloc (.cells mk12I 3)).alloc (.cells mk12W 141)) (w.heap.size + 1) (some ⟨w1.heap.size + 1, 0, none⟩) 12 12 new12) := ⟨⟨rfl, (OwnR.lit w1 _ (by omega) 141 5 12 (fl5 new12) (by simp [fl5_length, new12]) (by decide)).alloc _⟩, ⟨rfl, by have := OwnR.lit (w1.alloc (.cells mk12I 3)) (w.heap.size + 1) (by simp; omega) 141 5 12 (fl5 new12) (by simp [fl5_length, new12]) (by decide); rw [show (w1.alloc (.cells mk12I 3)).heap.size = w1.heap.size + 1 by simp] at this; exact this⟩⟩
    have HMI : Hid (Own ((w1.alloc (.cells mk12I 3)).alloc (.cells mk12W 141)) (w.heap.size + 1) (some ⟨w1.heap.size, 0, none⟩) 12 12 (List.replicate 12 0) ∧ Own ((w1.alloc (.cells mk12W 141)).alloc (.cells mk12I 3)) (w.heap.size + 1) (some ⟨w1.heap.size + 1, 0, none⟩) 12 12 (List.replicate 12 0)) := ⟨(Own.lit w1 _ (by omega) (List.replicate 12 0) (by decide)).alloc _, by have := Own.lit (w1.alloc (.cells mk12W 141)) (w.heap.size + 1) (by simp; omega) (List.replicate 12 0) (by decide); rw [show (w1.alloc (.cells mk12W 141)).heap.size = w1.heap.size + 1 by simp] at this; exact this⟩
    have HIW := (HX1.alloc (.cells mk12I 3)).alloc (.cells mk12W 141)
    have HWI := (HX1.alloc (.cells mk12W 141)).alloc (.cells mk12I 3)
    have f1 := HIW.frozen
    have f2 := HWI.frozen
    obtain ⟨u0, u1, u2, u3, u4, u5⟩ := box_cells HIW
    obtain ⟨v0, v1, v2, v3, v4, v5⟩ := box_cells HWI
    simp only [vq0] at u0 u1 u2 u3 u4 u5 v0 v1 v2 v3 v4 v5
    clear hb1 HX1 HX HB0 HE ho1 hz1 HIW HWI y0 y1 y2 y3 y4 y5 fz
    go_upto_region 4 with (fail)
    go_region
    · obtain ⟨hpost, hblk⟩ := fmt_end (o1 := .cells mk12W 141) (o2 := .cells mk12I 3) (gm := w1.heap.size) (gh := w1.heap.size + 1) HB1.out HXX.out (by simpa using HO1.out) HZ1.out HMW.out.1 HMI.out.2 (by omega) (by omega)
      have HPO := hide hpost
      unfold put6 fmtQ at HPO hblk
      obtain ⟨q0, q1, q2, q3, q4, q5⟩ := box_cells hblk
      clear hblk hpost u0 u1 u2 u3 u4 u5 v0 v1 v2 v3 v4 v5 f1 f2 hmW hmI HMW HMI HO1 HB1 HXX HZ1
      simp only [Vq.val] at HPO q0 q1 q2 q3 q4 q5
      generalize ((((((((w1.alloc (.cells mk12W 141)).alloc (.cells mk12I 3)).setCell ⟨w.heap.size, 0, none⟩ (.slice A2 m2 c2)).setCell ⟨w.heap.size, 1, none⟩ (.slice none 0 0)).setCell ⟨w.heap.size, 2, none⟩ (.slice (some ⟨w1.heap.size, 0, none⟩) 12 12)).setCell ⟨w.heap.size, 3, none⟩ (.slice (some ⟨w1.heap.size + 1, 0, none⟩) 12 12)).setCell ⟨w.heap.size, 4, none⟩ (.int .i64 1)).setCell ⟨w.heap.size, 5, none⟩ (.int .i64 0)).drew = W9 at HPO q0 q1 q2 q3 q4 q5 ⊢
      go_wp2
      refine bodyPost_ret (v := .tuple #[.agg #[.slice A2 m2 c2, .slice none 0 0, .slice (some ⟨w1.heap.size, 0, none⟩) 12 12, .slice (some ⟨w1.heap.size + 1, 0, none⟩) 12 12, .int .i64 1, .int .i64 0], .int .i64 0]) (by simp [results, Tryz.results10, go_sem, q0, q1, q2, q3, q4, q5]) rfl ?_
      exact HPO.out
    · obtain ⟨hpost, hblk⟩ := fmt_end (o1 := .cells mk12I 3) (o2 := .cells mk12W 141) (gm := w1.heap.size + 1) (gh := w1.heap.size) HB1.out HXX.out (by simpa using HO1.out) HZ1.out HMW.out.2 HMI.out.1 (by omega) (by omega)
      have HPO := hide hpost
      unfold put6 fmtQ at HPO hblk
      obtain ⟨q0, q1, q2, q3, q4, q5⟩ := box_cells hblk
      clear hblk hpost u0 u1 u2 u3 u4 u5 v0 v1 v2 v3 v4 v5 f1 f2 hmW hmI HMW HMI HO1 HB1 HXX HZ1
      simp only [Vq.val] at HPO q0 q1 q2 q3 q4 q5
      generalize ((((((((w1.alloc (.cells mk12I 3)).alloc (.cells mk12W 141)).setCell ⟨w.heap.size, 0, none⟩ (.slice A2 m2 c2)).setCell ⟨w.heap.size, 1, none⟩ (.slice none 0 0)).setCell ⟨w.heap.size, 2, none⟩ (.slice (some ⟨w1.heap.size + 1, 0, none⟩) 12 12)).setCell ⟨w.heap.size, 3, none⟩ (.slice (some ⟨w1.heap.size, 0, none⟩) 12 12)).setCell ⟨w.heap.size, 4, none⟩ (.int .i64 1)).setCell ⟨w.heap.size, 5, none⟩ (.int .i64 0)).drew = W9 at HPO q0 q1 q2 q3 q4 q5 ⊢
      go_wp2
      refine bodyPost_ret (v := .tuple #[.agg #[.slice A2 m2 c2, .slice none 0 0, .slice (some ⟨w1.heap.size + 1, 0, none⟩) 12 12, .slice (some ⟨w1.heap.size, 0, none⟩) 12 12, .int .i64 1, .int .i64 0], .int .i64 0]) (by simp [results, Tryz.results10, go_sem, q0, q1, q2, q3, q4, q5]) rfl ?_
      exact HPO.out
end Go.Proofs.YtfianpjoifcphaaGreat

/- SpecN3 -/
namespace Go.Proofs.YtfianpjoifcphaaGreat
open Go.RowKit
set_option linter.unusedVariables false
set_option maxRecDepth 100000

/-- the frames of the first zones, zone by zone -/
noncomputable def scansZ (d : Dev) (k : Nat) : List (List Fn) := (List.range k).map fun (i : Nat) => (scanW (i : Int) (d.getD i ([], 0, false)).1 0).1
noncomputable def devF (d : Dev) : List Fn := orderF (scansZ d d.length)
theorem scansZ_succ {qs : List Zq} {k : Nat} {q : Zq} (h : qs[k]? = some q) : scansZ (zns qs) (k + 1) = scansZ (zns qs) k ++ [(scanW (k : Int) q.words 0).1] := by
  unfold scansZ
  rw [List.range_succ, List.map_append]
  simp [zns, List.getD, h, Zq.zn]

set_option maxHeartbeats 6400000 in
theorem specDeviceF (A : Option Addr) (n c B : Nat) (qs : List Zq) (w : World) (hr : Zns w B A n qs) (hB : B ≤ w.heap.size) (hn : n ≤ 100) (hl : ∀ q ∈ qs, q.words.length ≤ 1000000) :
    Calls Tryz.prog 123 #[.slice A n c] w fun e w' => ∃ A2 c2 m rs, e = .returned (.slice A2 m c2) ∧ OwnF w' w.heap.size A2 m c2 rs ∧ fns rs = devF (zns qs) ∧ Below w.heap.size w w' := by
  have HR := hide hr
  have HL := hide hl
  have HBB := hide hB
  clear hr hl
  go_enter Tryz.func123, Tryz.ntmps123
  go_wp2
  go_loopw [3, 4] (fun o z wr => ∃ (k m c2 : Nat) (A2 : Option Addr) (rs : List Fq), k ≤ n ∧ m ≤ k * 200000 ∧ z = .int .i64 k ∧ o = .slice A2 m c2 ∧ Hid (OwnF wr w.heap.size A2 m c2 rs) ∧ Hid (fns rs = orderF (scansZ (zns qs) k)) ∧ Hid (Below w.heap.size w wr)) (fun _ z _ => n - (intOf z).toNat)
  case atStart => exact ⟨0, 0, 0, _, [], Nat.zero_le _, Nat.zero_le _, rfl, rfl, OwnF.lit0 w _ (Nat.le_refl _), rfl, below_new w _⟩
  case round =>
    obtain ⟨k, m, c2, A2, rs, hk, hm, rfl, rfl, HO, HF, HB⟩ := hrel
    have hs := HB.out.size
    by_cases hlt : k < n
    · obtain ⟨q, hq⟩ : ∃ q, qs[k]? = some q := ⟨_, List.getElem?_eq_getElem (by rw [HR.out.1]; omega)⟩
      have HZ := hide (scansZ_succ hq)
      have HC := hide (specScanL A n c B k q qs wr (HR.out.below HB.out HBB.out) (by omega) (by omega) hq (HL.out q (List.mem_of_getElem? hq)))
      have hct := scan_count (k : Int) q.words 0
      have hql := HL.out q (List.mem_of_getElem? hq)
      have k1 : (k : Int) < (n : Int) := by omega
      clear hq
      go_wp2_with fail
      refine HC.out.mono ?_
      rintro e w1 ⟨A5, c5, l, ls, rfl, ho5, hf5, hb5⟩
      rw [← hf5] at HZ hct
      have hll : l ≤ 200000 := by rw [fns_length, ho5.len] at hct; omega
      have HO5 := hide (ho5.mono hs)
      have HO1 := hide (HO.out.below hb5)
      have HB1 := hide (HB.out.trans (hb5.mono hs))
      have HFAR : Hid (∀ r ∈ rs, ∀ (j : Nat) (q : Fq), 0 ≤ j → ls[j]? = some q → ∀ g, r.sl.ownBlock = some g → q.sl.ownBlock ≠ some g) := fun r hr j q _ hj g hg e => by
        obtain ⟨i, hi⟩ := List.getElem?_of_mem hr
        have h1 := (HO.out.wblock hi g hg).2
        have h2 := (ho5.wblock hj g e).1
        omega
      clear ho5 hf5 hb5 hct hql HC
      go_wp2
      go_loopw [3, 7] (fun o i wi => ∃ (j c3 : Nat) (A3 : Option Addr) (ts : List Fq), j ≤ l ∧ i = .int .i64 j ∧ o = .slice A3 (m + j) c3 ∧ Hid (OwnF wi w.heap.size A3 (m + j) c3 ts) ∧ Hid (OwnF wi w.heap.size A5 l c5 ls) ∧
        Hid (fns ts = insAll (orderF (scansZ (zns qs) k)) ((fns ls).take j)) ∧ Hid (∀ r ∈ ts, ∀ (j' : Nat) (q : Fq), j ≤ j' → ls[j']? = some q → ∀ g, r.sl.ownBlock = some g → q.sl.ownBlock ≠ some g) ∧ Hid (Below w.heap.size w wi)) (fun _ i _ => l - (intOf i).toNat)
      case atStart => exact ⟨0, _, _, rs, Nat.zero_le _, rfl, rfl, HO1.out, HO5.out, HF.out, HFAR.out, HB1.out⟩
      case round =>
        clear HO HF HB HO1 HO5 HB1 HFAR
        obtain ⟨j, c3, A3, ts, hj, rfl, rfl, HO, HLS, HF, HFAR, HB⟩ := hrel
        have hsi := HB.out.size
        by_cases hjl : j < l
        · obtain ⟨x, hx⟩ : ∃ x, ls[j]? = some x := ⟨_, List.getElem?_eq_getElem (by rw [HLS.out.len]; omega)⟩
          obtain ⟨ad, p, rfl, hp, hpb, d0, d1, d2, d3, d4⟩ := HLS.out.fnds.at_ hx
          have HC := hide (specPutF w.heap.size A3 x.addr (m + j) c3 x.vals.length x.cap x.zone x.word x.kind x.seq x.vals ts wr HO.out hsi (by omega) rfl (HLS.out.own j x hx) (fun i r hi g hg => HFAR.out r (List.mem_of_getElem? hi) j x (Nat.le_refl _) hx g hg))
          have HX := hide hx
          have k2 : (j : Int) < (l : Int) := by omega
          have k3 : (0 : Int) ≤ (j : Int) := by omega
          clear hx
          obtain ⟨xz, xw, xk, xs, xv, xa, xc⟩ := x
          simp only [Fq.sl] at d4
          simp only at d0 d1 d2 d3 HC
          go_wp2_with fail
          refine HC.out.mono ?_
          rintro e w2 ⟨A4, c4, us, rfl, ho4, hf4, hm4, hb4⟩
          have HO4 := hide ho4
          have HF4 := hide hf4
          have HM4 := hide hm4
          have HB4 := hide hb4
          clear ho4 hf4 hm4 hb4 HC
          go_wp2
          go_roundw
          case rel => exact ⟨j + 1, c4, A4, us, by omega, by go_num, rfl, HO4.out, HLS.out.below HB4.out, by show _ = _; rw [List.take_add_one, fns_get HX.out, insAll_append, ← HF.out]; exact HF4.out,
            fun r hr j' q hj' hq g hg => by
              rcases HM4.out r hr with rfl | h
              · exact HLS.out.sep j j' _ q HX.out hq (by omega) g hg
              · exact HFAR.out r h j' q (by omega) hq g hg, HB.out.trans (HB4.out.mono hsi)⟩
          case measure => simp [intOf]; omega
        · obtain rfl : j = l := by omega
          go_wp2
          go_roundw
          case rel => exact ⟨k + 1, m + j, c3, A3, ts, by omega, by omega, by go_num, rfl, HO.out, by show _ = _; rw [HZ.out, orderF_step, HF.out, List.take_of_length_le (by rw [fns_length, HLS.out.len]; exact Nat.le_refl _)], HB.out⟩
          case measure => simp [intOf]; omega
    · obtain rfl : k = n := by omega
      have hz : (zns qs).length = k := by rw [zns, List.length_map]; exact HR.out.1
      go_wp2
      go_ret
      exact ⟨A2, c2, m, rs, rfl, HO.out, by rw [HF.out, devF, hz], HB.out⟩

/-- what ScanDevice answers -/
noncomputable def scanD (d : Dev) : List Fn := if devV d then devF d else []
end Go.Proofs.YtfianpjoifcphaaGreat

/- VolM -/
namespace Go.Proofs.YtfianpjoifcphaaGreat
open Go.RowKit
set_option linter.unusedVariables false
set_option maxRecDepth 100000

/-- zone k -/
def zat (d : Dev) (k : Nat) : List Int × Int × Bool := d.getD k ([], 0, false)
/-- frames with ascending numbers go zone by zone -/
def rowF (fs : List Fn) : Prop := ∀ i k : Nat, k + 1 < i → ∀ f g p : Fn, fs[i]? = some f → fs[k]? = some g → fs[i - 1]? = some p → g.1 = f.1 → p.1 = f.1
/-- the objects in which values are, have them -/
def coldV (ms : List Wh) (s : Sto) : Prop := ∀ x ∈ ms, x.1 = 2 → getB s x.2.2.2.1 x.2.2.2.2 = true
/-- all words of zone k are those of frames; it is closed if it has words and is not the current one; then all of them last -/
structure ZoneFit (d : Dev) (z : Int) (k : Nat) : Prop where
  scan : (scanW (k : Int) (zat d k).1 0).2 = (zat d k).1.length
  full : (zat d k).2.2 = true ↔ (zat d k).1 ≠ [] ∧ (k : Int) ≠ z
  sync : (zat d k).2.2 = true → (zat d k).2.1 = (zat d k).1.length
structure VolOk (v : Vol) : Prop where
  dv : devV v.dev = true
  st : stV v.sto = true
  ht : hV v.heat = true
  z0 : 0 ≤ v.zone ∧ v.zone ≤ 3
  zs : ∀ k : Nat, k < 4 → ZoneFit v.dev v.zone k
  sm : smap (devF v.dev) = some v.map
  rw_ : rowF (devF v.dev)
  cd : coldV v.map v.sto
  sq : devF v.dev = [] → v.seq = 1
  sl : ∀ f, (devF v.dev).getLast? = some f → v.seq = seqOf f + 1 ∧ (f.1 = v.zone ∨ (zat v.dev v.zone.toNat).1 = [])

/-! ### devices -/
theorem dev_len {d : Dev} (h : devV d = true) : d.length = 4 := by
  unfold devV at h
  rw [Bool.and_eq_true, decide_eq_true_eq] at h
  exact h.2
theorem dev_zone {d : Dev} (h : devV d = true) {k : Nat} (hk : k < 4) : d[k]? = some (zat d k) ∧ allW (zat d k).1 = true ∧ (zat d k).1.length ≤ 64 ∧ 0 ≤ (zat d k).2.1 ∧ (zat d k).2.1 ≤ (zat d k).1.length := by
  have hl := dev_len h
  have e : zat d k = d[k]'(by omega) := by simp [zat, List.getD, show k < d.length by omega]
  have hm : zat d k ∈ d := by rw [e]; exact List.getElem_mem _
  unfold devV at h
  rw [Bool.and_eq_true] at h
  have hz := List.all_eq_true.1 h.1 _ hm
  unfold zoneOk at hz
  rw [Bool.and_eq_true, Bool.and_eq_true, decide_eq_true_eq, inB_iff] at hz
  exact ⟨by rw [e]; exact List.getElem?_eq_getElem _, hz.1.1, hz.1.2, hz.2.1, hz.2.2⟩
theorem zat_set {d : Dev} {k : Nat} (hk : k < d.length) (q : List Int × Int × Bool) (j : Nat) : zat (d.set k q) j = if j = k then q else zat d j := by
  unfold zat
  by_cases e : j = k
  · subst e; simp [List.getD, hk]
  · rw [if_neg e]; simp [List.getD, List.getElem?_set_ne (fun h => e h.symm)]
theorem devV_put {d : Dev} (h : devV d = true) {k : Nat} {q : List Int × Int × Bool} (hq : zoneOk q = true) : devV (d.set k q) = true := by
  have hl := dev_len h
  unfold devV at h ⊢
  rw [Bool.and_eq_true] at h ⊢
  refine ⟨List.all_eq_true.2 fun x hx => ?_, by rw [List.length_set, hl]; rfl⟩
  rcases List.mem_or_eq_of_mem_set hx with hx | rfl
  · exact List.all_eq_true.1 h.1 x hx
  · exact hq
theorem scansZ_len (d : Dev) (k : Nat) : (scansZ d k).length = k := by unfold scansZ; simp
theorem scansZ_get (d : Dev) {k n : Nat} (hk : k < n) : (scansZ d n)[k]? = some (scanW (k : Int) (zat d k).1 0).1 := by
  unfold scansZ
  rw [List.getElem?_map, List.getElem?_range hk]
  rfl
theorem devF_mem {d : Dev} (h : d.length = 4) {f : Fn} : f ∈ devF d ↔ ∃ k : Nat, k < 4 ∧ f ∈ (scanW (k : Int) (zat d k).1 0).1 := by
  unfold devF
  rw [orderF_mem, h]
  constructor
  · rintro ⟨g, hg, hf⟩
    obtain ⟨k, hk⟩ := List.getElem?_of_mem hg
    have hl : k < 4 := by have := (List.getElem?_eq_some_iff.1 hk).1; rwa [scansZ_len] at this
    rw [scansZ_get d hl] at hk
    injection hk with hk
    exact ⟨k, hl, by rw [hk]; exact hf⟩
  · rintro ⟨k, hk, hf⟩
    exact ⟨_, List.mem_of_getElem? (scansZ_get d hk), hf⟩
/-- where a frame of a zone lies -/
theorem scan_frame (z : Int) {xs : List Int} {f : Fn} (hf : f ∈ (scanW z xs 0).1) : ∃ b : Nat, goodF xs xs.length (b : Int) ∧ f = fnAt z xs b := scan_mem z xs 0 f hf
theorem devF_zone {d : Dev} (h : d.length = 4) {f : Fn} (hf : f ∈ devF d) : ∃ k b : Nat, k < 4 ∧ f.1 = (k : Int) ∧ goodF (zat d k).1 (zat d k).1.length (b : Int) ∧ f = fnAt (k : Int) (zat d k).1 b := by
  obtain ⟨k, hk, h1⟩ := (devF_mem h).1 hf
  obtain ⟨b, hb, e⟩ := scan_frame _ h1
  exact ⟨k, b, hk, by rw [e]; rfl, hb, e⟩
theorem devF_words {d : Dev} (h : d.length = 4) {f : Fn} (hf : f ∈ devF d) {k : Nat} (hk : f.1 = (k : Int)) : (zat d k).1 ≠ [] := by
  obtain ⟨j, b, hj, e, hg, _⟩ := devF_zone h hf
  obtain rfl : j = k := by omega
  intro e2
  have := (good_len hg).1
  rw [e2] at this
  simp at this
/-- all numbers are less than the next one -/
theorem seq_less {v : Vol} (h : VolOk v) : ∀ f ∈ devF v.dev, seqOf f < v.seq := by
  intro f hf
  rcases hl : (devF v.dev).getLast? with _ | g
  · rw [List.getLast?_eq_none_iff] at hl
    rw [hl] at hf; cases hf
  · have hs := (h.sl g hl).1
    have ha : ascF (devF v.dev) := orderF_asc _
    obtain ⟨i, hi, e⟩ := List.getElem_of_mem hf
    rw [List.getLast?_eq_getElem?] at hl
    obtain ⟨hj, e2⟩ := List.getElem?_eq_some_iff.1 hl
    rcases Nat.lt_or_ge i ((devF v.dev).length - 1) with h1 | h1
    · have := List.pairwise_iff_getElem.1 ha i ((devF v.dev).length - 1) hi hj h1
      rw [e, e2] at this
      omega
    · have hij : i = (devF v.dev).length - 1 := by omega
      subst hij
      rw [e] at e2
      rw [e2, hs]
      omega
theorem list_split {α : Type} {L : List α} {k : Nat} {g : α} (hk : L[k]? = some g) (x : α) : L.set k x = L.take k ++ x :: L.drop (k + 1) ∧ L = L.take k ++ g :: L.drop (k + 1) := by
  obtain ⟨hl, e⟩ := List.getElem?_eq_some_iff.1 hk
  have h2 : L = L.take k ++ g :: L.drop (k + 1) := by rw [← e, ← List.drop_eq_getElem_cons hl, List.take_append_drop]
  refine ⟨?_, h2⟩
  rw [List.set_eq_take_append_cons_drop, if_pos hl]
theorem orderF_set {L : List (List Fn)} {k : Nat} {gs : List Fn} {f : Fn} (hk : L[k]? = some gs) (h : ∀ g ∈ L, ∀ x ∈ g, seqOf x < seqOf f) : orderF (L.set k (gs ++ [f])) = orderF L ++ [f] := by
  obtain ⟨e1, e2⟩ := list_split hk (gs ++ [f])
  rw [e1]
  have h2 : ∀ g ∈ L.take k ++ gs :: L.drop (k + 1), ∀ x ∈ g, seqOf x < seqOf f := by rw [← e2]; exact h
  rw [orderF_more h2, ← e2]
/-- the frames of a device with one more in zone k -/
theorem devF_more {d : Dev} (hl : d.length = 4) {k : Nat} (hk : k < 4) (hs : (scanW (k : Int) (zat d k).1 0).2 = (zat d k).1.length) {kd sq : Int} {body : List Int} (hv : validF kd sq body = true)
    (hq : ∀ f ∈ devF d, seqOf f < sq) (sy : Int) (fu : Bool) :
    devF (d.set k ((zat d k).1 ++ putF kd sq body, sy, fu)) = devF d ++ [((k : Int), ((zat d k).1.length : Int), kd, sq, body)] := by
  have hlen : (d.set k ((zat d k).1 ++ putF kd sq body, sy, fu)).length = 4 := by rw [List.length_set]; exact hl
  have e : scansZ (d.set k ((zat d k).1 ++ putF kd sq body, sy, fu)) 4 = (scansZ d 4).set k ((scanW (k : Int) (zat d k).1 0).1 ++ [((k : Int), ((zat d k).1.length : Int), kd, sq, body)]) := by
    apply List.ext_getElem?
    intro j
    by_cases hj : j < 4
    · rw [scansZ_get _ hj, zat_set (by omega), List.getElem?_set]
      by_cases ej : j = k
      · subst ej
        rw [if_pos rfl, if_pos rfl, if_pos (by rw [scansZ_len]; exact hj)]
        have := scan_append (j : Int) (zat d j).1 hv 0 (Nat.zero_le _) hs
        rw [this]
      · rw [if_neg ej, if_neg (fun h => ej h.symm), scansZ_get d hj]
    · rw [List.getElem?_eq_none (by rw [scansZ_len]; omega), List.getElem?_eq_none (by rw [List.length_set, scansZ_len]; omega)]
  unfold devF
  rw [hlen, hl, e]
  refine orderF_set (scansZ_get d hk) fun g hg x hx => ?_
  exact hq x (by unfold devF; rw [orderF_mem, hl]; exact ⟨g, hg, hx⟩)
theorem putF_words {kd sq : Int} {body : List Int} (hv : validF kd sq body = true) : allW (putF kd sq body) = true := by
  have ha := allW_head hv
  have hr := sumFrom_rng (headF kd sq body) 7 (by omega) (by omega) ha
  rw [putF_yes hv]
  unfold allW at ha ⊢
  rw [List.all_append, ha]
  simp only [List.all_cons, List.all_nil, Bool.and_true, Bool.true_and]
  unfold okW
  exact decide_eq_true (by omega)

/-- words that last, none of them cut: the frames are the same -/
theorem devF_congr {d d' : Dev} (hl : d.length = 4) (hl' : d'.length = 4) (h : ∀ k, k < 4 → (zat d' k).1 = (zat d k).1) : devF d' = devF d := by
  unfold devF
  rw [hl, hl']
  congr 1
  apply List.ext_getElem?
  intro j
  by_cases hj : j < 4
  · rw [scansZ_get _ hj, scansZ_get _ hj, h j hj]
  · rw [List.getElem?_eq_none (by rw [scansZ_len]; omega), List.getElem?_eq_none (by rw [scansZ_len]; omega)]

/-! ### a frame is appended -/
/-- what is asked of a device and of the zone to which a frame goes: the frames are those of v; its zones fit; the current one is z, with room, and has the last frame or none -/
structure Ready (v : Vol) (d : Dev) (z : Nat) : Prop where
  dv : devV d = true
  z0 : z < 4
  zs : ∀ k : Nat, k < 4 → ZoneFit d (z : Int) k
  fr : devF d = devF v.dev
  la : (∀ f, (devF v.dev).getLast? = some f → f.1 = (z : Int)) ∨ (zat d z).1 = []
/-- the volume behind it -/
def appV (v : Vol) (d : Dev) (z : Nat) (kd : Int) (body : List Int) (sto : Sto) (heat : List Int) : Vol :=
  { dev := d.set z ((zat d z).1 ++ putF kd v.seq body, (zat d z).2.1, (zat d z).2.2), sto := sto, map := apM v.map kd v.seq body (z : Int) ((zat d z).1.length : Int), heat := heat, seq := v.seq + 1, zone := (z : Int) }
theorem app_ok {v : Vol} (h : VolOk v) {d : Dev} {z : Nat} (hr : Ready v d z) {kd : Int} {body : List Int} (hv : validF kd v.seq body = true) (hb : bodyOk kd body = true) (hroom : (zat d z).1.length + body.length + 4 ≤ 64)
    {sto : Sto} (hst : stV sto = true) {heat : List Int} (hht : hV heat = true) (hcd : coldV (apM v.map kd v.seq body (z : Int) ((zat d z).1.length : Int)) sto) :
    VolOk (appV v d z kd body sto heat) ∧ devF (appV v d z kd body sto heat).dev = devF v.dev ++ [((z : Int), ((zat d z).1.length : Int), kd, v.seq, body)] ∧
      apOk v.map kd v.seq body (z : Int) ((zat d z).1.length : Int) = true := by
  have hl := dev_len hr.dv
  have hzo := dev_zone hr.dv hr.z0
  have hfz := hr.zs z hr.z0
  have hfull : (zat d z).2.2 = false := by
    rcases hf : (zat d z).2.2 with _ | _
    · rfl
    · exact absurd rfl (hfz.full.1 hf).2
  have hseq : ∀ f ∈ devF d, seqOf f < v.seq := by rw [hr.fr]; exact seq_less h
  have hF := devF_more hl hr.z0 hfz.scan hv hseq (zat d z).2.1 (zat d z).2.2
  rw [hr.fr] at hF
  have hap : apOk v.map kd v.seq body (z : Int) ((zat d z).1.length : Int) = true := by
    rw [apOk_iff]
    exact { mp := smap_valid h.sm, fr := hv, z0 := by have := hr.z0; omega, a0 := by omega, bo := hb }
  have hz : ∀ j, zat (appV v d z kd body sto heat).dev j = if j = z then ((zat d z).1 ++ putF kd v.seq body, (zat d z).2.1, (zat d z).2.2) else zat d j := fun j => zat_set (by have := hr.z0; omega) _ j
  refine ⟨{ dv := ?_, st := hst, ht := hht, z0 := by have := hr.z0; show 0 ≤ ((z : Nat) : Int) ∧ ((z : Nat) : Int) ≤ 3; omega, zs := ?_, sm := ?_, rw_ := ?_, cd := hcd, sq := ?_, sl := ?_ }, hF, hap⟩
  · refine devV_put hr.dv ?_
    unfold zoneOk
    have hw : allW ((zat d z).1 ++ putF kd v.seq body) = true := by
      have h1 := hzo.2.1
      have h2 := putF_words hv
      unfold allW at h1 h2 ⊢
      rw [List.all_append, h1, h2]; rfl
    have hlen : ((zat d z).1 ++ putF kd v.seq body).length = (zat d z).1.length + (body.length + 4) := by rw [List.length_append, putF_lenA hv]
    simp only
    rw [hw, hlen, decide_eq_true (by omega), inB_iff.2 (by omega)]
    rfl
  · intro k hk
    by_cases e : k = z
    · subst e
      have e1 := hz k
      rw [if_pos rfl] at e1
      refine ⟨?_, ?_, ?_⟩
      · rw [e1]
        have := scan_append (k : Int) (zat d k).1 hv 0 (Nat.zero_le _) hfz.scan
        rw [this]
      · rw [e1]
        simp only [hfull]
        constructor
        · intro h2; cases h2
        · rintro ⟨_, h2⟩; exact absurd rfl h2
      · rw [e1]
        simp only [hfull]
        intro h2; cases h2
    · have e1 := hz k
      rw [if_neg e] at e1
      have := hr.zs k hk
      exact ⟨by rw [e1]; exact this.scan, by rw [e1]; exact this.full, by rw [e1]; exact this.sync⟩
  · show smap (devF (appV v d z kd body sto heat).dev) = _
    have := smap_more (f := ((z : Int), ((zat d z).1.length : Int), kd, v.seq, body)) h.sm hap (seq_less h)
    rw [show (appV v d z kd body sto heat).dev = d.set z ((zat d z).1 ++ putF kd v.seq body, (zat d z).2.1, (zat d z).2.2) from rfl, hF]
    exact this
  · rw [show (appV v d z kd body sto heat).dev = d.set z ((zat d z).1 ++ putF kd v.seq body, (zat d z).2.1, (zat d z).2.2) from rfl, hF]
    intro i k hki f g p hf hg hp hgf
    have hlt : ∀ {j : Nat} {x : Fn}, (devF v.dev ++ [((z : Int), ((zat d z).1.length : Int), kd, v.seq, body)])[j]? = some x → j < (devF v.dev).length → (devF v.dev)[j]? = some x := fun hj hl => by rwa [List.getElem?_append_left hl] at hj
    have hil : i < (devF v.dev).length + 1 := by have := (List.getElem?_eq_some_iff.1 hf).1; simpa using this
    rcases Nat.lt_or_ge i (devF v.dev).length with h1 | h1
    · exact h.rw_ i k hki f g p (hlt hf h1) (hlt hg (by omega)) (hlt hp (by omega)) hgf
    · have hi : i = (devF v.dev).length := by omega
      subst hi
      have hfe : f = ((z : Int), ((zat d z).1.length : Int), kd, v.seq, body) := by
        rw [List.getElem?_append_right (Nat.le_refl _), Nat.sub_self] at hf
        injection hf with hf
        exact hf.symm
      have hg' := hlt hg (by omega)
      have hp' := hlt hp (by omega)
      rw [hfe] at hgf ⊢
      have hgm : g ∈ devF d := by rw [hr.fr]; exact List.mem_of_getElem? hg'
      have hne := devF_words hl hgm hgf
      rcases hr.la with h2 | h2
      · refine h2 p ?_
        rw [List.getLast?_eq_getElem?]
        exact hp'
      · exact absurd h2 hne
  · intro e
    rw [show (appV v d z kd body sto heat).dev = d.set z ((zat d z).1 ++ putF kd v.seq body, (zat d z).2.1, (zat d z).2.2) from rfl, hF] at e
    simp at e
  · intro f hf
    rw [show (appV v d z kd body sto heat).dev = d.set z ((zat d z).1 ++ putF kd v.seq body, (zat d z).2.1, (zat d z).2.2) from rfl, hF] at hf
    simp at hf
    subst hf
    exact ⟨rfl, .inl rfl⟩
end Go.Proofs.YtfianpjoifcphaaGreat

/- VolV -/
namespace Go.Proofs.YtfianpjoifcphaaGreat
open Go.RowKit
set_option linter.unusedVariables false
set_option maxRecDepth 100000

/-- the value of a block, or 0 -/
def valW (d : Dev) (s : Sto) (x : Wh) : Int := if x.1 = 1 then (zat d x.2.1.toNat).1.getD x.2.2.1.toNat 0 else if x.1 = 2 then getV s x.2.2.2.1 x.2.2.2.2 else 0
def valV (v : Vol) (b : Nat) : Int := valW v.dev v.sto (v.map.getD b wh0)
def allV (v : Vol) : List Int := (List.range 12).map (valV v)
theorem allV_get (v : Vol) {b : Nat} (hb : b < 12) : (allV v)[b]? = some (valV v b) := by unfold allV; rw [List.getElem?_map, List.getElem?_range hb]; rfl
theorem allV_len (v : Vol) : (allV v).length = 12 := by unfold allV; simp
theorem allV_eq {v w : Vol} (h : ∀ b, b < 12 → valV v b = valV w b) : allV v = allV w := by
  apply List.ext_getElem?
  intro b
  by_cases hb : b < 12
  · rw [allV_get v hb, allV_get w hb, h b hb]
  · rw [List.getElem?_eq_none (by rw [allV_len]; omega), List.getElem?_eq_none (by rw [allV_len]; omega)]

/-- a hot element names a word that is a value -/
def HotAt (d : Dev) (x : Wh) : Prop := x.1 = 1 → ∃ k a : Nat, k < 4 ∧ x.2.1 = (k : Int) ∧ x.2.2.1 = (a : Int) ∧ a < (zat d k).1.length ∧ 1 ≤ (zat d k).1.getD a 0 ∧ (zat d k).1.getD a 0 ≤ 99
theorem puts_all {P : Wh → Prop} {f : Nat → Nat} {g : Nat → Wh} : ∀ {k : Nat} {ms : List Wh}, (∀ j, j < k → P (g j)) → (∀ x ∈ ms, P x) → ∀ x ∈ puts f g k ms, P x
  | 0, ms, _, h2, x, hx => h2 x hx
  | k + 1, ms, h1, h2, x, hx => by
    rw [puts_succ] at hx
    rcases List.mem_or_eq_of_mem_set hx with hx | rfl
    · exact puts_all (fun j hj => h1 j (by omega)) h2 x hx
    · exact h1 k (Nat.lt_succ_self k)
theorem cutW_at {xs : List Int} {a m j : Nat} (h : a + m ≤ xs.length) (hj : j < m) : (cutW xs a m).getD j 0 = xs.getD (a + j) 0 := cutW_getD xs a m j hj
/-- the elements that a frame of a device gives -/
theorem hot_frame {d : Dev} {k b : Nat} (hk : k < 4) (hg : goodF (zat d k).1 (zat d k).1.length (b : Int)) {ms : List Wh} (hok : apOk ms (fnAt (k : Int) (zat d k).1 b).2.2.1 (fnAt (k : Int) (zat d k).1 b).2.2.2.1 (fnAt (k : Int) (zat d k).1 b).2.2.2.2 (k : Int) (b : Int) = true) :
    ∀ j, j < recN (fnAt (k : Int) (zat d k).1 b).2.2.1 (fnAt (k : Int) (zat d k).1 b).2.2.2.2 → HotAt d (apG (fnAt (k : Int) (zat d k).1 b).2.2.1 (k : Int) (b : Int) (fnAt (k : Int) (zat d k).1 b).2.2.2.2 j) := by
  obtain ⟨hl, hm, hv, hs⟩ := good_len hg
  have hI := apOk_iff.1 hok
  have hbo := hI.bo
  simp only [fnAt] at hbo hI ⊢
  have hbl : (cutW (zat d k).1 (b + 3) (lenAt (zat d k).1 b)).length = lenAt (zat d k).1 b := cutW_length _ _ _ (by omega)
  intro j hj ht
  unfold apG at ht ⊢
  by_cases h1 : (zat d k).1.getD b 0 = 1
  · rw [if_pos h1] at ht ⊢
    unfold recN at hj
    rw [if_pos h1, hbl] at hj
    unfold bodyOk at hbo
    rw [if_pos h1] at hbo
    have hr := recs_of hbo
    have hfl := fldP_iff (hr.fld j (by rw [hbl]; exact hj))
    have hlen := hr.len
    rw [hbl] at hlen
    have e : (cutW (zat d k).1 (b + 3) (lenAt (zat d k).1 b)).getD (j * 2 + 1) 0 = (zat d k).1.getD (b + 4 + 2 * j) 0 := by
      rw [cutW_at (by omega) (by omega)]
      congr 1
      omega
    unfold hotE at ht ⊢
    by_cases hp : 0 < (cutW (zat d k).1 (b + 3) (lenAt (zat d k).1 b)).getD (j * 2 + 1) 0
    · rw [if_pos hp] at ht ⊢
      refine ⟨k, b + 4 + 2 * j, hk, rfl, by show (b : Int) + 4 + 2 * (j : Int) = ((b + 4 + 2 * j : Nat) : Int); omega, by omega, ?_, ?_⟩
      · rw [← e]; omega
      · rw [← e]; omega
    · rw [if_neg hp] at ht
      exact absurd ht (by decide)
  · rw [if_neg h1] at ht
    exact absurd (show (2 : Int) = 1 from ht) (by decide)
theorem sm_all {d : Dev} (hl : d.length = 4) : ∀ (fs : List Fn) (ms : List Wh) (l : Int) (rs : List Wh), (∀ f ∈ fs, f ∈ devF d) → smF ms l fs = some rs → (∀ x ∈ ms, HotAt d x) → ∀ x ∈ rs, HotAt d x
  | [], ms, l, rs, _, h, h2 => by
    simp only [smF, Option.some.injEq] at h
    rw [← h]; exact h2
  | f :: fs, ms, l, rs, h1, h, h2 => by
    by_cases hok : okFn ms l f = true
    · rw [smF_yes hok] at h
      refine sm_all hl fs _ _ rs (fun g hg => h1 g (List.mem_cons_of_mem _ hg)) h ?_
      obtain ⟨k, b, hk, e1, hg, e⟩ := devF_zone hl (h1 f (List.mem_cons_self ..))
      have ha := (okFn_iff.1 hok).1
      unfold apFn
      rw [apM_eq ha]
      rw [e] at ha ⊢
      exact puts_all (hot_frame hk hg ha) h2
    · rw [smF_no hok] at h; cases h
/-- each hot element of a valid volume names a word that is a value -/
theorem vhot_at {v : Vol} (h : VolOk v) : ∀ x ∈ v.map, HotAt v.dev x := by
  have hs := h.sm
  unfold smap at hs
  refine sm_all (dev_len h.dv) _ _ _ _ (fun f hf => hf) hs ?_
  intro x hx ht
  unfold new12 at hx
  rw [List.eq_of_mem_replicate hx] at ht
  exact absurd ht (by decide)
theorem map_len {v : Vol} (h : VolOk v) : v.map.length = 12 := smap_len h.sm
theorem map_get {v : Vol} (h : VolOk v) {b : Nat} (hb : b < 12) : v.map[b]? = some (v.map.getD b wh0) ∧ v.map.getD b wh0 ∈ v.map := by
  have hl := map_len h
  have e : v.map.getD b wh0 = v.map[b]'(by omega) := by simp [List.getD, show b < v.map.length by omega]
  exact ⟨by rw [e]; exact List.getElem?_eq_getElem _, by rw [e]; exact List.getElem_mem _⟩
theorem getV_rng {s : Sto} {id ix : Int} (hs : stV s = true) (h : getB s id ix = true) : 1 ≤ getV s id ix ∧ getV s id ix ≤ 99 := by
  unfold getV
  rw [if_pos h]
  unfold getB at h
  rw [Bool.and_eq_true, Bool.and_eq_true, inB_iff] at h
  obtain ⟨⟨h1, h2⟩, h3⟩ := h
  obtain ⟨o, ho, he⟩ := hasS_iff.1 h2
  have hv := valsAt_mem (stV_asc hs) ho
  rw [he] at hv
  rw [hv] at h3 ⊢
  have hob := (obOk_iff.1 ((stV_iff.1 hs).1 o ho)).2.2
  unfold valsOk at hob
  rw [Bool.and_eq_true] at hob
  have hlt : ix.toNat < o.2.length := by omega
  have e : o.2.getD ix.toNat 0 = o.2[ix.toNat] := by simp [List.getD, hlt]
  rw [e]
  have := List.all_eq_true.1 hob.1 _ (List.getElem_mem hlt)
  exact inB_iff.1 this
/-- all values are in range; only a block without a value has 0 -/
theorem val_rng {v : Vol} (h : VolOk v) {b : Nat} (hb : b < 12) : 0 ≤ valV v b ∧ valV v b ≤ 99 ∧ (valV v b = 0 ↔ (v.map.getD b wh0).1 = 0) := by
  obtain ⟨_, hm⟩ := map_get h hb
  have ht := whV_tier ((mpV_iff.1 (smap_valid h.sm)).1 _ hm)
  unfold valV valW
  by_cases h1 : (v.map.getD b wh0).1 = 1
  · rw [if_pos h1]
    obtain ⟨k, a, hk, e1, e2, ha, h2, h3⟩ := vhot_at h _ hm h1
    rw [e1, e2, Int.toNat_natCast, Int.toNat_natCast]
    omega
  · rw [if_neg h1]
    by_cases h2 : (v.map.getD b wh0).1 = 2
    · rw [if_pos h2]
      have := getV_rng h.st (h.cd _ hm h2)
      omega
    · rw [if_neg h2]
      omega

/-! ### what an appended frame tells -/
/-- words that are there stay -/
theorem valW_keep {d d' : Dev} {s s' : Sto} {x : Wh} (hx : HotAt d x) (hw : ∀ k, k < 4 → ∃ ws, (zat d' k).1 = (zat d k).1 ++ ws) (hs : x.1 = 2 → getV s' x.2.2.2.1 x.2.2.2.2 = getV s x.2.2.2.1 x.2.2.2.2) : valW d' s' x = valW d s x := by
  unfold valW
  by_cases h1 : x.1 = 1
  · rw [if_pos h1, if_pos h1]
    obtain ⟨k, a, hk, e1, e2, ha, _⟩ := hx h1
    obtain ⟨ws, e⟩ := hw k hk
    rw [e1, e2, Int.toNat_natCast, Int.toNat_natCast, e]
    simp [List.getD, List.getElem?_append_left ha]
  · rw [if_neg h1, if_neg h1]
    by_cases h2 : x.1 = 2
    · rw [if_pos h2, if_pos h2, hs h2]
    · rw [if_neg h2, if_neg h2]
/-- hot frames: the value of record j is that of its block -/
theorem valW_hot {d : Dev} (hl : d.length = 4) {z : Nat} (hz : z < 4) {kd sq : Int} {body : List Int} (hv : validF kd sq body = true) (sy : Int) (fu : Bool) (s : Sto) {j : Nat} (hj : j * 2 + 1 < body.length) (h0 : 0 ≤ body.getD (j * 2 + 1) 0) :
    valW (d.set z ((zat d z).1 ++ putF kd sq body, sy, fu)) s (hotE (z : Int) ((zat d z).1.length : Int) body j) = body.getD (j * 2 + 1) 0 := by
  unfold hotE
  by_cases hp : 0 < body.getD (j * 2 + 1) 0
  · rw [if_pos hp]
    unfold valW
    rw [if_pos rfl]
    simp only [Int.toNat_natCast]
    rw [zat_set (by omega), if_pos rfl]
    rw [show ((((zat d z).1.length : Nat) : Int) + 4 + 2 * (j : Int)).toNat = (zat d z).1.length + (3 + (j * 2 + 1)) by omega, getD_right, putF_yes hv]
    have hb : (headF kd sq body).length = 3 + body.length := by simp [headF]; omega
    simp only [List.getD]
    rw [List.getElem?_append_left (by omega)]
    unfold headF
    rw [List.getElem?_append_right (by simp)]
    congr 1
    congr 1
    simp
  · rw [if_neg hp]
    unfold valW wh0
    rw [if_neg (by decide), if_neg (by decide)]
    omega
/-- the value of a block behind a frame of values: that of its record, or as before -/
theorem val_hot {v : Vol} (h : VolOk v) {d : Dev} {z : Nat} (hr : Ready v d z) (hw : ∀ k, k < 4 → (zat d k).1 = (zat v.dev k).1) {body : List Int} (hv : validF 1 v.seq body = true) (hb : bodyOk 1 body = true) (hroom : (zat d z).1.length + body.length + 4 ≤ 64)
    {heat : List Int} (hht : hV heat = true) :
    VolOk (appV v d z 1 body v.sto heat) ∧ (∀ j, j < recN 1 body → valV (appV v d z 1 body v.sto heat) (blkAt 2 body j) = body.getD (j * 2 + 1) 0) ∧
      ∀ b, b < 12 → (∀ j, j < recN 1 body → blkAt 2 body j ≠ b) → valV (appV v d z 1 body v.sto heat) b = valV v b := by
  have hap : apOk v.map 1 v.seq body (z : Int) ((zat d z).1.length : Int) = true := by
    rw [apOk_iff]
    exact { mp := smap_valid h.sm, fr := hv, z0 := by have := hr.z0; omega, a0 := by omega, bo := hb }
  have hR := (apOk_iff.1 hap).recs
  have hl := dev_len hr.dv
  have hb2 : okG 2 9 fldP body body.length = true := by unfold bodyOk at hb; rw [if_pos rfl] at hb; exact hb
  have hrec := recs_of hb2
  have hn : recN 1 body = body.length / 2 := by unfold recN; rw [if_pos rfl]
  have hcd : coldV (apM v.map 1 v.seq body (z : Int) ((zat d z).1.length : Int)) v.sto := by
    rw [apM_eq hap]
    refine puts_all (fun j hj ht => ?_) h.cd
    unfold apG at ht
    rw [if_pos rfl] at ht
    unfold hotE at ht
    split at ht
    · exact absurd ht (by show ¬ (1 : Int) = 2; decide)
    · exact absurd ht (by decide)
  obtain ⟨h1, h2, _⟩ := app_ok h hr hv hb hroom h.st hht hcd
  refine ⟨h1, fun j hj => ?_, fun b hb' hno => ?_⟩
  · have he := apM_at hap hj
    have hf := fldP_iff (hrec.fld j (by rw [← hn]; exact hj))
    have hlen := hrec.len
    have e1 : apF 1 body j = blkAt 2 body j := by unfold apF; rw [if_pos rfl]
    have e2 : apG 1 (z : Int) ((zat d z).1.length : Int) body j = hotE (z : Int) ((zat d z).1.length : Int) body j := by unfold apG; rw [if_pos rfl]
    rw [e1, e2] at he
    unfold valV
    have e3 : (appV v d z 1 body v.sto heat).map.getD (blkAt 2 body j) wh0 = hotE (z : Int) ((zat d z).1.length : Int) body j := by
      show (apM v.map 1 v.seq body (z : Int) ((zat d z).1.length : Int)).getD (blkAt 2 body j) wh0 = _
      simp [List.getD, he]
    rw [e3]
    exact valW_hot hl hr.z0 hv _ _ _ (by rw [hn] at hj; omega) hf.1
  · have he := apM_not hap (b := b) (fun j hj => by have e1 : apF 1 body j = blkAt 2 body j := by unfold apF; rw [if_pos rfl]
                                                    rw [e1]; exact hno j hj)
    unfold valV
    have e3 : (appV v d z 1 body v.sto heat).map.getD b wh0 = v.map.getD b wh0 := by
      show (apM v.map 1 v.seq body (z : Int) ((zat d z).1.length : Int)).getD b wh0 = _
      simp only [List.getD]
      rw [he]
    rw [e3]
    refine valW_keep (vhot_at h _ (map_get h hb').2) (fun k hk => ?_) (fun _ => rfl)
    show ∃ ws, (zat (d.set z _) k).1 = _
    rw [zat_set (by have := hr.z0; omega)]
    by_cases e : k = z
    · subst e; rw [if_pos rfl, hw k hk]; exact ⟨_, rfl⟩
    · rw [if_neg e, hw k hk]; exact ⟨[], by simp⟩
end Go.Proofs.YtfianpjoifcphaaGreat

/- VolW -/
namespace Go.Proofs.YtfianpjoifcphaaGreat
open Go.RowKit
set_option linter.unusedVariables false
set_option maxRecDepth 100000

def roomV (d : Dev) (z n : Nat) : Bool := !(zat d z).2.2 && decide ((zat d z).1.length + n ≤ 64)
/-- a zone without words that is not the current one -/
def emptyK (d : Dev) (z : Int) (k : Nat) : Bool := !decide ((k : Int) = z) && (zat d k).1.isEmpty
def freeN (d : Dev) (z : Int) : Nat := ((List.range 4).filter (emptyK d z)).length
def emptyV (d : Dev) (z : Int) : Option Nat := (List.range 4).find? (emptyK d z)
/-- all words last, the current zone is closed -/
def turnD (d : Dev) (z : Nat) : Dev := (syncD d).set z ((zat d z).1, ((zat d z).1.length : Int), true)
def nextOk (v : Vol) (n : Nat) (left : Int) : Bool := decide (v.seq ≤ 999) && decide (left ≤ (freeN v.dev v.zone : Int) - (if roomV v.dev v.zone.toNat n then 0 else 1))
def nextD (v : Vol) (n : Nat) : Dev := if roomV v.dev v.zone.toNat n then v.dev else turnD v.dev v.zone.toNat
def nextZ (v : Vol) (n : Nat) : Nat := if roomV v.dev v.zone.toNat n then v.zone.toNat else (emptyV v.dev v.zone).getD 0

theorem zat_sync {d : Dev} {k : Nat} (hk : k < d.length) : zat (syncD d) k = ((zat d k).1, ((zat d k).1.length : Int), (zat d k).2.2) := by
  unfold zat syncD
  simp only [List.getD, List.getElem?_map, List.getElem?_eq_getElem hk]
  rfl
theorem sync_len (d : Dev) : (syncD d).length = d.length := by unfold syncD; rw [List.length_map]
theorem zoneOk_of {d : Dev} (h : devV d = true) {k : Nat} (hk : k < 4) (fu : Bool) : zoneOk ((zat d k).1, ((zat d k).1.length : Int), fu) = true := by
  have hz := dev_zone h hk
  unfold zoneOk
  simp only
  rw [hz.2.1, decide_eq_true hz.2.2.1, inB_iff.2 (by omega)]
  rfl
theorem devV_sync {d : Dev} (h : devV d = true) : devV (syncD d) = true := by
  have hl := dev_len h
  unfold devV
  rw [Bool.and_eq_true]
  refine ⟨List.all_eq_true.2 fun x hx => ?_, by rw [sync_len, hl]; rfl⟩
  obtain ⟨k, hk⟩ := List.getElem?_of_mem hx
  have hk4 : k < 4 := by have := (List.getElem?_eq_some_iff.1 hk).1; rw [sync_len] at this; omega
  have e : zat (syncD d) k = x := by unfold zat; simp [List.getD, hk]
  rw [← e, zat_sync (by omega)]
  exact zoneOk_of h hk4 _
theorem vol_zone {v : Vol} (h : VolOk v) : v.zone = (v.zone.toNat : Int) ∧ v.zone.toNat < 4 := by have := h.z0; omega
/-- the current zone is open -/
theorem cur_open {v : Vol} (h : VolOk v) : (zat v.dev v.zone.toNat).2.2 = false := by
  obtain ⟨e, hk⟩ := vol_zone h
  rcases hf : (zat v.dev v.zone.toNat).2.2 with _ | _
  · rfl
  · exact absurd e.symm ((h.zs _ hk).full.1 hf).2
theorem zat_turn {d : Dev} (hl : d.length = 4) {z : Nat} (hz : z < 4) {k : Nat} (hk : k < 4) : zat (turnD d z) k = ((zat d k).1, ((zat d k).1.length : Int), if k = z then true else (zat d k).2.2) := by
  unfold turnD
  rw [zat_set (by rw [sync_len]; omega)]
  by_cases e : k = z
  · subst e; rw [if_pos rfl, if_pos rfl]
  · rw [if_neg e, if_neg e, zat_sync (by omega)]
theorem emptyV_some {d : Dev} {z : Int} {k : Nat} (h : emptyV d z = some k) : k < 4 ∧ (k : Int) ≠ z ∧ (zat d k).1 = [] := by
  unfold emptyV at h
  have hm := List.mem_range.1 (List.mem_of_find?_eq_some h)
  have ht := List.find?_some h
  unfold emptyK at ht
  rw [Bool.and_eq_true, Bool.not_eq_true', decide_eq_false_iff_not, List.isEmpty_iff] at ht
  exact ⟨hm, ht⟩
theorem emptyV_free {d : Dev} {z : Int} (h : 0 < freeN d z) : ∃ k, emptyV d z = some k := by
  unfold freeN at h
  obtain ⟨k, hk⟩ := List.exists_mem_of_length_pos h
  obtain ⟨h1, h2⟩ := List.mem_filter.1 hk
  unfold emptyV
  rcases hf : (List.range 4).find? (emptyK d z) with _ | j
  · have := List.find?_eq_none.1 hf k h1
    exact absurd h2 this
  · exact ⟨j, rfl⟩
/-- there the next frame goes -/
theorem next_ready {v : Vol} (h : VolOk v) {n : Nat} {left : Int} (hleft : 0 ≤ left) (hn : n ≤ 64) (hok : nextOk v n left = true) :
    Ready v (nextD v n) (nextZ v n) ∧ (zat (nextD v n) (nextZ v n)).1.length + n ≤ 64 ∧ ∀ k, k < 4 → (zat (nextD v n) k).1 = (zat v.dev k).1 := by
  obtain ⟨ez, hz⟩ := vol_zone h
  have hl := dev_len h.dv
  unfold nextOk at hok
  rw [Bool.and_eq_true, decide_eq_true_eq, decide_eq_true_eq] at hok
  rcases hr : roomV v.dev v.zone.toNat n with _ | _
  · rw [hr] at hok
    simp only [Bool.false_eq_true, if_false] at hok
    have hfull := cur_open h
    have hlong : 64 < (zat v.dev v.zone.toNat).1.length + n := by
      unfold roomV at hr
      rw [hfull] at hr
      simpa using hr
    obtain ⟨k, hk⟩ := emptyV_free (d := v.dev) (z := v.zone) (by omega)
    obtain ⟨hk4, hkz, hke⟩ := emptyV_some hk
    have eD : nextD v n = turnD v.dev v.zone.toNat := by unfold nextD; rw [hr]; rfl
    have eZ : nextZ v n = k := by unfold nextZ; rw [hr, hk]; rfl
    have hne : k ≠ v.zone.toNat := by omega
    have hw : ∀ j, j < 4 → (zat (turnD v.dev v.zone.toNat) j).1 = (zat v.dev j).1 := fun j hj => by rw [zat_turn hl hz hj]
    have htl : (turnD v.dev v.zone.toNat).length = 4 := by unfold turnD; rw [List.length_set, sync_len, hl]
    have hwords : (zat v.dev v.zone.toNat).1 ≠ [] := by intro e; rw [e] at hlong; simp at hlong; omega
    rw [eD, eZ]
    refine ⟨{ dv := ?_, z0 := hk4, zs := ?_, fr := devF_congr hl htl hw, la := .inr (by rw [hw k hk4]; exact hke) }, by rw [hw k hk4, hke]; simp; exact hn, hw⟩
    · unfold turnD
      exact devV_put (devV_sync h.dv) (zoneOk_of h.dv hz true)
    · intro j hj
      have hj2 := zat_turn hl hz hj
      have hf := h.zs j hj
      refine ⟨by rw [hj2]; exact hf.scan, ?_, by rw [hj2]; intro _; rfl⟩
      rw [hj2]
      simp only
      by_cases e : j = v.zone.toNat
      · subst e
        rw [if_pos rfl]
        exact ⟨fun _ => ⟨hwords, by omega⟩, fun _ => rfl⟩
      · rw [if_neg e, hf.full]
        constructor
        · rintro ⟨h1, h2⟩
          refine ⟨h1, fun e2 => h1 ?_⟩
          have : j = k := by omega
          rw [this]; exact hke
        · rintro ⟨h1, h2⟩
          exact ⟨h1, by omega⟩
  · have eD : nextD v n = v.dev := by unfold nextD; rw [hr]; rfl
    have eZ : nextZ v n = v.zone.toNat := by unfold nextZ; rw [hr]; rfl
    rw [eD, eZ]
    refine ⟨{ dv := h.dv, z0 := hz, zs := fun k hk => by rw [← ez]; exact h.zs k hk, fr := rfl, la := ?_ }, ?_, fun _ _ => rfl⟩
    · rcases hg : (devF v.dev).getLast? with _ | f
      · left; intro f hf; cases hf
      · rcases (h.sl f hg).2 with h1 | h1
        · left
          intro g hg2
          injection hg2 with hg2
          rw [← hg2, h1]; exact ez
        · exact .inr h1
    · unfold roomV at hr
      rw [Bool.and_eq_true, decide_eq_true_eq] at hr
      exact hr.2
/-- free zones are counted one by one -/
theorem freeN_sum (d : Dev) (z : Int) : freeN d z = (if emptyK d z 0 then 1 else 0) + (if emptyK d z 1 then 1 else 0) + (if emptyK d z 2 then 1 else 0) + (if emptyK d z 3 then 1 else 0) := by
  unfold freeN
  rw [show List.range 4 = [0, 1, 2, 3] from rfl]
  simp only [List.filter_cons, List.filter_nil]
  cases emptyK d z 0 <;> cases emptyK d z 1 <;> cases emptyK d z 2 <;> cases emptyK d z 3 <;> rfl
/-- behind a frame: as many free zones, or one less -/
theorem next_free {v : Vol} (h : VolOk v) {n : Nat} {left : Int} (hleft : 0 ≤ left) (hn : n ≤ 64) (hok : nextOk v n left = true) {q : List Int × Int × Bool} (hq : q.1 ≠ []) :
    (freeN ((nextD v n).set (nextZ v n) q) (nextZ v n : Nat) : Int) = (freeN v.dev v.zone : Int) - (if roomV v.dev v.zone.toNat n then 0 else 1) := by
  obtain ⟨ez, hz⟩ := vol_zone h
  obtain ⟨hR, _, hw⟩ := next_ready h hleft hn hok
  have hl := dev_len hR.dv
  have hz4 := hR.z0
  have key : ∀ k, k < 4 → emptyK ((nextD v n).set (nextZ v n) q) (nextZ v n : Nat) k = (!decide (k = nextZ v n) && (zat v.dev k).1.isEmpty) := by
    intro k hk
    unfold emptyK
    rw [zat_set (by omega)]
    by_cases e : k = nextZ v n
    · rw [if_pos e, decide_eq_true (by omega), decide_eq_true e]; rfl
    · rw [if_neg e, hw k hk, decide_eq_false (by omega), decide_eq_false e]
  rw [freeN_sum, freeN_sum, key 0 (by omega), key 1 (by omega), key 2 (by omega), key 3 (by omega)]
  unfold emptyK
  rcases hr : roomV v.dev v.zone.toNat n with _ | _
  · have eZ : nextZ v n = (emptyV v.dev v.zone).getD 0 := by unfold nextZ; rw [hr]; rfl
    have hfree : 0 < freeN v.dev v.zone := by
      unfold nextOk at hok
      rw [hr, Bool.and_eq_true, decide_eq_true_eq, decide_eq_true_eq] at hok
      simp only [Bool.false_eq_true, if_false] at hok
      omega
    obtain ⟨k, hk⟩ := emptyV_free hfree
    obtain ⟨hk4, hkz, hke⟩ := emptyV_some hk
    have eZ2 : nextZ v n = k := by rw [eZ, hk]; rfl
    have hwords : (zat v.dev v.zone.toNat).1.isEmpty = false := by
      have hfull := cur_open h
      have hlong : 64 < (zat v.dev v.zone.toNat).1.length + n := by
        unfold roomV at hr
        rw [hfull] at hr
        simpa using hr
      rcases he : (zat v.dev v.zone.toNat).1 with _ | ⟨x, r⟩
      · rw [he] at hlong; simp at hlong; omega
      · rfl
    rw [eZ2]
    have hke2 : (zat v.dev k).1.isEmpty = true := by rw [hke]; rfl
    rw [ez] at hkz ⊢
    generalize v.zone.toNat = c at *
    have hc : c = 0 ∨ c = 1 ∨ c = 2 ∨ c = 3 := by omega
    have hk' : k = 0 ∨ k = 1 ∨ k = 2 ∨ k = 3 := by omega
    rcases hc with rfl | rfl | rfl | rfl <;> rcases hk' with rfl | rfl | rfl | rfl <;> first | (exact absurd rfl hkz) | (simp [hwords, hke2]; omega) | simp [hwords, hke2]
  · have eZ : nextZ v n = v.zone.toNat := by unfold nextZ; rw [hr]; rfl
    rw [eZ, ez]
    generalize v.zone.toNat = c at *
    have hc : c = 0 ∨ c = 1 ∨ c = 2 ∨ c = 3 := by omega
    rcases hc with rfl | rfl | rfl | rfl <;> simp

/-! ### heat of several blocks -/
def heatN (h : List Int) (f : Nat → Nat) : Nat → List Int
  | 0 => h
  | k + 1 => useH (heatN h f k) (f k)
theorem heatN_valid {h : List Int} (hv : hV h = true) {f : Nat → Nat} : ∀ {n : Nat}, (∀ j, j < n → f j < 12) → hV (heatN h f n) = true
  | 0, _ => hv
  | k + 1, hf => useH_valid (heatN_valid hv fun j hj => hf j (by omega)) (hf k (Nat.lt_succ_self k))

/-! ### syncs -/
def syncV (v : Vol) : Vol := { v with dev := syncD v.dev }
theorem sync_ok {v : Vol} (h : VolOk v) : VolOk (syncV v) ∧ allV (syncV v) = allV v := by
  have hl := dev_len h.dv
  have hw : ∀ k, k < 4 → (zat (syncD v.dev) k).1 = (zat v.dev k).1 := fun k hk => by rw [zat_sync (by omega)]
  have hF : devF (syncD v.dev) = devF v.dev := devF_congr hl (by rw [sync_len]; exact hl) hw
  refine ⟨{ dv := devV_sync h.dv, st := h.st, ht := h.ht, z0 := h.z0, zs := fun k hk => ?_, sm := by show smap (devF (syncD v.dev)) = _; rw [hF]; exact h.sm, rw_ := by show rowF (devF (syncD v.dev)); rw [hF]; exact h.rw_, cd := h.cd, sq := by intro e; rw [show (syncV v).dev = syncD v.dev from rfl, hF] at e; exact h.sq e, sl := ?_ }, ?_⟩
  · have hf := h.zs k hk
    have e := zat_sync (d := v.dev) (k := k) (by omega)
    refine ⟨?_, ?_, ?_⟩
    · show (scanW (k : Int) (zat (syncD v.dev) k).1 0).2 = (zat (syncD v.dev) k).1.length
      rw [e]; exact hf.scan
    · show (zat (syncD v.dev) k).2.2 = true ↔ (zat (syncD v.dev) k).1 ≠ [] ∧ _
      rw [e]; exact hf.full
    · show (zat (syncD v.dev) k).2.2 = true → (zat (syncD v.dev) k).2.1 = (zat (syncD v.dev) k).1.length
      rw [e]; intro _; rfl
  · intro f hf
    rw [show (syncV v).dev = syncD v.dev from rfl, hF] at hf
    have := h.sl f hf
    refine ⟨this.1, ?_⟩
    rcases this.2 with h1 | h1
    · exact .inl h1
    · right
      show (zat (syncD v.dev) v.zone.toNat).1 = []
      rw [hw _ (vol_zone h).2]; exact h1
  · refine allV_eq fun b hb => ?_
    unfold valV
    exact valW_keep (vhot_at h _ (map_get h hb).2) (fun k hk => ⟨[], by rw [List.append_nil]; exact hw k hk⟩) (fun _ => rfl)

/-! ### a new volume -/
theorem new_frames : devF newV.dev = [] := by
  have e : ∀ k : Nat, k < 4 → zat newV.dev k = ([], 0, false) := by
    intro k hk
    have : k = 0 ∨ k = 1 ∨ k = 2 ∨ k = 3 := by omega
    rcases this with rfl | rfl | rfl | rfl <;> rfl
  rcases hf : devF newV.dev with _ | ⟨f, r⟩
  · rfl
  · obtain ⟨k, b, hk, _, hg, _⟩ := devF_zone (d := newV.dev) rfl (f := f) (by rw [hf]; exact List.mem_cons_self ..)
    have := (good_len hg).1
    rw [e k hk] at this
    simp at this
theorem new_ok : VolOk newV := by
  have e : ∀ k : Nat, k < 4 → zat newV.dev k = ([], 0, false) := by
    intro k hk
    have : k = 0 ∨ k = 1 ∨ k = 2 ∨ k = 3 := by omega
    rcases this with rfl | rfl | rfl | rfl <;> rfl
  refine { dv := by decide, st := rfl, ht := by decide, z0 := by decide, zs := fun k hk => ⟨?_, ?_, ?_⟩, sm := by rw [new_frames]; rfl, rw_ := by rw [new_frames]; intro i k _ f g p hf; simp at hf, cd := ?_, sq := fun _ => rfl, sl := by rw [new_frames]; intro f hf; cases hf }
  · rw [e k hk, scanW_past _ (Nat.zero_le _)]; rfl
  · rw [e k hk]; simp
  · rw [e k hk]; intro h; cases h
  · intro x hx ht
    have hx2 : x ∈ new12 := hx
    unfold new12 at hx2
    rw [List.eq_of_mem_replicate hx2] at ht
    exact absurd ht (by decide)
end Go.Proofs.YtfianpjoifcphaaGreat

/- VolP -/
namespace Go.Proofs.YtfianpjoifcphaaGreat
open Go.RowKit
set_option linter.unusedVariables false
set_option maxRecDepth 100000

structure FlwF (fs : List Fn) : Prop where
  new : ∀ (k i : Nat) (f p g : Fn), fs[k + 1]? = some f → fs[k]? = some p → f.1 ≠ p.1 → i ≤ k → fs[i]? = some g → g.1 ≠ f.1
  asc : ∀ (k : Nat) (f p : Fn), fs[k + 1]? = some f → fs[k]? = some p → f.1 = p.1 → p.2.1 ≤ f.2.1
theorem flw_nil : FlwF [] := ⟨fun k i f p g h => by simp at h, fun k f p h => by simp at h⟩
theorem flw_more {fs : List Fn} {f : Fn} (h : FlwF fs) (h1 : ∀ p, fs.getLast? = some p → f.1 = p.1 → p.2.1 ≤ f.2.1) (h2 : ∀ p, fs.getLast? = some p → f.1 ≠ p.1 → ∀ g ∈ fs, g.1 ≠ f.1) : FlwF (fs ++ [f]) := by
  have get : ∀ {k : Nat} {x : Fn}, (fs ++ [f])[k]? = some x → (k < fs.length ∧ fs[k]? = some x) ∨ (k = fs.length ∧ x = f) := by
    intro k x hx
    by_cases hk : k < fs.length
    · rw [List.getElem?_append_left hk] at hx; exact .inl ⟨hk, hx⟩
    · rw [List.getElem?_append_right (by omega)] at hx
      have h0 : k - fs.length = 0 := by
        rcases e : k - fs.length with _ | m
        · rfl
        · rw [e] at hx; simp at hx
      rw [h0] at hx
      simp at hx
      exact .inr ⟨by omega, hx.symm⟩
  have last : ∀ {k : Nat} {p : Fn}, k + 1 = fs.length → fs[k]? = some p → fs.getLast? = some p := by
    intro k p hk hp
    rw [List.getLast?_eq_getElem?, ← hk]
    exact hp
  constructor
  · intro k i x p g hx hp hne hi hg
    rcases get hx with ⟨hk, hx⟩ | ⟨hk, rfl⟩
    · rcases get hp with ⟨_, hp⟩ | ⟨hk2, _⟩
      · rcases get hg with ⟨_, hg⟩ | ⟨hk3, _⟩
        · exact h.new k i x p g hx hp hne hi hg
        · omega
      · omega
    · rcases get hp with ⟨_, hp⟩ | ⟨hk2, _⟩
      · rcases get hg with ⟨_, hg⟩ | ⟨hk3, _⟩
        · exact h2 p (last hk hp) hne g (List.mem_of_getElem? hg)
        · omega
      · omega
  · intro k x p hx hp he
    rcases get hx with ⟨hk, hx⟩ | ⟨hk, rfl⟩
    · rcases get hp with ⟨_, hp⟩ | ⟨hk2, _⟩
      · exact h.asc k x p hx hp he
      · omega
    · rcases get hp with ⟨_, hp⟩ | ⟨hk2, _⟩
      · exact h1 p (last hk hp) he
      · omega

/-- which zones have a frame among the first k -/
def begunF (fs : List Fn) (k : Nat) : List Bool := (List.range 4).map fun (z : Nat) => (fs.take k).any fun f => decide (f.1 = (z : Int))
theorem begunF_len (fs : List Fn) (k : Nat) : (begunF fs k).length = 4 := by unfold begunF; simp
theorem begunF_zero (fs : List Fn) : begunF fs 0 = [false, false, false, false] := by unfold begunF; simp [List.range, List.range.loop]
theorem begunF_get (fs : List Fn) (k : Nat) {z : Nat} (hz : z < 4) : (begunF fs k)[z]? = some ((fs.take k).any fun f => decide (f.1 = (z : Int))) := by
  unfold begunF
  rw [List.getElem?_map, List.getElem?_range hz]
  rfl
theorem begunF_next {fs : List Fn} {k z : Nat} {f : Fn} (hf : fs[k]? = some f) (hz : f.1 = (z : Int)) (h4 : z < 4) : begunF fs (k + 1) = (begunF fs k).set z true := by
  apply List.ext_getElem?
  intro j
  by_cases hj : j < 4
  · rw [begunF_get _ _ hj, List.getElem?_set, begunF_get _ _ hj, begunF_len, List.take_add_one, hf, List.any_append]
    by_cases e : z = j
    · subst e
      rw [if_pos rfl, if_pos h4]
      simp [hz]
    · rw [if_neg e]
      have : ¬ f.1 = (j : Int) := by omega
      simp [this]
  · rw [List.getElem?_eq_none (by rw [begunF_len]; omega), List.getElem?_eq_none (by rw [List.length_set, begunF_len]; omega)]
/-- what a round of the program's check asks, behind the first frame -/
theorem flw_round {fs : List Fn} (h : FlwF fs) {k z : Nat} {f p : Fn} (hf : fs[k + 1]? = some f) (hp : fs[k]? = some p) (hz : f.1 = (z : Int)) (h4 : z < 4) :
    (f.1 = p.1 → p.2.1 ≤ f.2.1) ∧ (f.1 ≠ p.1 → (begunF fs (k + 1))[z]? = some false) := by
  refine ⟨fun e => h.asc k f p hf hp e, fun e => ?_⟩
  rw [begunF_get _ _ h4]
  congr 1
  rw [List.any_eq_false]
  intro g hg
  obtain ⟨i, hi, e2⟩ := List.getElem_of_mem hg
  rw [List.length_take] at hi
  rw [List.getElem_take] at e2
  have := h.new k i f p g hf hp e (by omega) (by rw [List.getElem?_eq_getElem (by omega), e2])
  simp only [decide_eq_true_eq]
  omega

/-- a volume that is valid as the program reads it -/
structure VolP (v : Vol) : Prop where
  ok : VolOk v
  flw : FlwF (devF v.dev)
theorem newP : VolP newV := ⟨new_ok, by rw [new_frames]; exact flw_nil⟩
/-- only words count -/
theorem VolP.same {v v' : Vol} (h : VolP v) (ho : VolOk v') (hl : v'.dev.length = 4) (hw : ∀ k, k < 4 → (zat v'.dev k).1 = (zat v.dev k).1) : VolP v' :=
  ⟨ho, by rw [devF_congr (dev_len h.ok.dv) hl hw]; exact h.flw⟩
end Go.Proofs.YtfianpjoifcphaaGreat

/- Fits -/
namespace Go.Proofs.YtfianpjoifcphaaGreat
open Go.RowKit
set_option linter.unusedVariables false
set_option maxRecDepth 100000

theorem sum_leV {zs : List (List Fn)} {K : Nat} (h : ∀ g ∈ zs, g.length ≤ K) : sumL zs ≤ zs.length * K := by
  induction zs with
  | nil => exact Nat.zero_le _
  | cons g gs ih =>
    have h1 := h g List.mem_cons_self
    have h2 := ih fun x hx => h x (List.mem_cons_of_mem _ hx)
    simp only [sumL, List.length_cons, Nat.succ_mul]
    omega
theorem devF_short {d : Dev} (h : devV d = true) : (devF d).length ≤ 256 ∧ ∀ f ∈ devF d, f.2.2.2.2.length ≤ 64 := by
  have hl := dev_len h
  refine ⟨?_, fun f hf => ?_⟩
  · unfold devF
    rw [orderF_length]
    have h1 : sumL (scansZ d d.length) ≤ (scansZ d d.length).length * 64 := sum_leV fun g hg => by
      unfold scansZ at hg
      obtain ⟨i, hi, rfl⟩ := List.mem_map.1 hg
      have h2 := scan_count (i : Int) (d.getD i ([], 0, false)).1 0
      have h3 := (dev_zone h (k := i) (by have := List.mem_range.1 hi; omega)).2.2.1
      unfold zat at h3
      omega
    have h2 : (scansZ d d.length).length = 4 := by unfold scansZ; rw [List.length_map, List.length_range, hl]
    rw [h2] at h1
    omega
  · obtain ⟨k, b, hk, _, _, e⟩ := devF_zone hl hf
    have h3 := (dev_zone h hk).2.2.1
    rw [e]
    show (cutW _ _ _).length ≤ 64
    unfold cutW
    rw [List.length_take, List.length_drop]
    omega

theorem devF_seq {d : Dev} (h : d.length = 4) {f : Fn} (hf : f ∈ devF d) : 1 ≤ seqOf f ∧ seqOf f ≤ 999 := by
  obtain ⟨k, b, hk, _, hg, e⟩ := devF_zone h hf
  have := (validF_iff.1 hg.2.1).2.1
  rw [e]
  exact this

/-- sizes that a walk over a volume asks -/
structure Small (q : Vq) : Prop where
  d : q.dn ≤ 1000000000
  s : q.sn ≤ 1000000000
  m : q.mn ≤ 1000000000
  h : q.hn ≤ 1000000000

/-- what is known while VolumeValid runs: the box, and the volume behind it -/
structure VV (w : World) (B : Nat) (q : Vq) (W : World) : Prop where
  bx : Blk W w.heap.size 29 (boxV q)
  bl : Below w.heap.size w W
  vi : VolI W B q
  sz : w.heap.size < W.heap.size
section
variable {w W W' : World} {B : Nat} {q : Vq}
theorem VV.drewN (h : VV w B q W) (k : Nat) : VV w B q (W.drewN k) := ⟨h.bx.drewN k, below_drewN h.bl k, h.vi.drewN k, h.sz⟩
theorem VV.below (h : VV w B q W) (hb : Below W.heap.size W W') (hB : B ≤ w.heap.size) : VV w B q W' :=
  ⟨h.bx.below hb h.sz, h.bl.trans (hb.mono (Nat.le_of_lt h.sz)), h.vi.below hb (Nat.le_trans hB (Nat.le_of_lt h.sz)), Nat.lt_of_lt_of_le h.sz hb.size⟩
theorem VV.cells (h : VV w B q W) : W.cell? ⟨w.heap.size, 0, none⟩ = some (.slice q.dA q.dn q.dc) ∧ W.cell? ⟨w.heap.size, 1, none⟩ = some (.slice q.sA q.sn q.sc) ∧
    W.cell? ⟨w.heap.size, 2, none⟩ = some (.slice q.mA q.mn q.mc) ∧ W.cell? ⟨w.heap.size, 3, none⟩ = some (.slice q.hA q.hn q.hc) ∧ W.cell? ⟨w.heap.size, 4, none⟩ = some (.int .i64 q.seq) ∧ W.cell? ⟨w.heap.size, 5, none⟩ = some (.int .i64 q.zone) := box_cells h.bx
end
/-- what is known of a volume whose values are read -/
structure Fits (q : Vq) : Prop where
  ok : VolOk q.vol
  d4 : q.dn = 4
  m12 : q.mn = 12
  h12 : q.hn = 12
  s6 : q.sn ≤ 6
theorem Fits.of {w : World} {B : Nat} {q : Vq} (hv : VolI w B q) (h : VolOk q.vol) : Fits q :=
  ⟨h, devV_is4 h.dv hv.dev.1, hv.map.1.symm.trans (map_len h), hv.heat.1.symm.trans (hV_len h.ht), by rw [← hv.sto.1]; exact (stV_len h.st).1⟩
theorem Fits.small {q : Vq} (h : Fits q) : Small q := ⟨by rw [h.d4]; omega, by have := h.s6; omega, by rw [h.m12]; omega, by rw [h.h12]; omega⟩

theorem VV.start (w : World) (B : Nat) (q : Vq) (hv : VolI w B q) (hB : B ≤ w.heap.size) : VV w B q (w.alloc (.cells (boxV q) 29)) := ⟨Blk.new w _ _, below_new w _, hv.alloc hB _, by simp⟩
theorem VV.hB {w W : World} {B : Nat} {q : Vq} (h : VV w B q W) (hB : B ≤ w.heap.size) : B ≤ W.heap.size := Nat.le_trans hB (Nat.le_of_lt h.sz)
end Go.Proofs.YtfianpjoifcphaaGreat

/- ImpV1 -/
namespace Go.Proofs.YtfianpjoifcphaaGreat
open Go.RowKit
set_option linter.unusedVariables false
set_option maxRecDepth 100000

set_option maxHeartbeats 6400000 in
theorem implParts (q : Vq) (B : Nat) (w : World) (hv : VolI w B q) (hB : B ≤ w.heap.size) (hf : Fits q) :
    Calls Tryz.prog 48 #[q.val] w fun e w' => e = .returned (.bool true) ∧ Below w.heap.size w w' := by
  obtain ⟨W0, hW0⟩ : ∃ W0, w.alloc (.cells (boxV q) 29) = W0 := ⟨_, rfl⟩
  have HV0 : Hid (VV w B q W0) := by rw [← hW0]; exact VV.start w B q hv hB
  have hs := hf.small
  have HD := hide fun (W : World) (h : VV w B q W) => (show devV (zns q.dev) = true from hf.ok.dv) ▸ implDV q.dA q.dn q.dc B q.dev W h.vi.dev (h.hB hB) (Nat.le_trans hs.d (by omega))
  have HS := hide fun (W : World) (h : VV w B q W) => (show stV (obs q.sto) = true from hf.ok.st) ▸ implSV q.sA q.sn q.sc B q.sto W h.vi.sto (h.hB hB) (Nat.le_trans hs.s (by omega))
  have HM := hide fun (W : World) (h : VV w B q W) => (show mpV q.map = true from smap_valid hf.ok.sm) ▸ implMV q.mA q.mn q.mc B q.map W h.vi.map (h.hB hB) hs.m
  have HH := hide fun (W : World) (h : VV w B q W) => (show hV q.heat = true from hf.ok.ht) ▸ implHV q.hA q.hn q.hc B q.heat W h.vi.heat (Nat.le_trans hs.h (by omega))
  have HBB := hide hB
  have z0 : ¬ q.zone < 0 := by have := hf.ok.z0.1; show ¬ q.vol.zone < 0; omega
  have z1 : ¬ q.zone ≥ 4 := by have := hf.ok.z0.2; show ¬ q.vol.zone ≥ 4; omega
  clear hs hv hf hB
  unfold boxV at hW0
  unfold Vq.val
  go_enter Tryz.func48, Tryz.ntmps48
  obtain ⟨c0, c1, c2, c3, c4, c5⟩ := HV0.out.cells
  go_wp2_with fail
  refine (HD.out _ HV0.out).mono ?_
  rintro e w1 ⟨rfl, hb1⟩
  have HV1 := hide (HV0.out.below hb1 HBB.out)
  clear hb1 HV0 c0 c1 c2 c3 c4 c5 hW0
  obtain ⟨c0, c1, c2, c3, c4, c5⟩ := HV1.out.cells
  go_wp2_with fail
  refine (HS.out _ HV1.out).mono ?_
  rintro e w2 ⟨rfl, hb2⟩
  have HV2 := hide (HV1.out.below hb2 HBB.out)
  clear hb2 HV1 c0 c1 c2 c3 c4 c5
  obtain ⟨c0, c1, c2, c3, c4, c5⟩ := HV2.out.cells
  go_wp2_with fail
  refine (HM.out _ HV2.out).mono ?_
  rintro e w3 ⟨rfl, hb3⟩
  have HV3 := hide (HV2.out.below hb3 HBB.out)
  clear hb3 HV2 c0 c1 c2 c3 c4 c5
  obtain ⟨c0, c1, c2, c3, c4, c5⟩ := HV3.out.cells
  go_wp2_with fail
  refine (HH.out _ HV3.out).mono ?_
  rintro e w4 ⟨rfl, rfl⟩
  go_wp2
  go_ret
  exact ⟨rfl, HV3.out.bl⟩

set_option maxHeartbeats 6400000 in
theorem implZoneFits (q : Vq) (B k : Nat) (w : World) (hv : VolI w B q) (hB : B ≤ w.heap.size) (hf : Fits q) (hk : k < 4) :
    Calls Tryz.prog 49 #[q.val, .int .i64 k] w fun e w' => e = .returned (.bool true) ∧ Below w.heap.size w w' := by
  obtain ⟨W0, hW0⟩ : ∃ W0, w.alloc (.cells (boxV q) 29) = W0 := ⟨_, rfl⟩
  have HV0 : Hid (VV w B q W0) := by rw [← hW0]; exact VV.start w B q hv hB
  obtain ⟨x, hx⟩ : ∃ x, q.dev[k]? = some x := ⟨_, List.getElem?_eq_getElem (by rw [hv.dev.1, hf.d4]; exact hk)⟩
  have hfit := hf.ok.zs k hk
  have hz : zat q.vol.dev k = (x.words, x.synced, x.full) := by
    show zat (zns q.dev) k = _
    unfold zat zns
    rw [List.getD, List.getElem?_map, hx]
    rfl
  have hscan : (scanW (k : Int) x.words 0).2 = x.words.length := by have := hfit.scan; rw [hz] at this; exact this
  have hfull : x.full = true ↔ x.words ≠ [] ∧ (k : Int) ≠ q.zone := by have := hfit.full; rw [hz] at this; exact this
  have hsync : x.full = true → x.synced = x.words.length := by have := hfit.sync; rw [hz] at this; exact this
  have HZ := hide fun (W : World) (h : VV w B q W) => (scanZ_yes hf.ok.dv hk hx) ▸ implScanZ q.dA q.dn q.dc B (k : Int) q.dev W h.vi.dev (h.hB hB) (by have := hf.d4; omega) (by omega) (by omega)
  have hdz := (dev_zone hf.ok.dv hk).2.2
  rw [hz] at hdz
  have HBB := hide hB
  have h4 := hf.d4
  obtain ⟨ad, p, e1, hp, hpb, g0, g1, g2⟩ := HV0.out.vi.dev.at_ hx
  obtain ⟨hle, hcm⟩ := (HV0.out.vi.dev.words hx).2
  obtain ⟨ws, sy, fu, qa, qc⟩ := x
  simp only [Zq.sl] at g0 g1 g2 hscan hfull hsync hdz hle hcm
  obtain ⟨m, hm⟩ : ∃ m, ws.length = m := ⟨_, rfl⟩
  rw [hm] at g0 hscan hsync hdz hle
  have hfu : fu = (decide (0 < m) && !decide ((k : Int) = q.zone)) := by
    rcases fu with _ | _
    · have : ¬ (ws ≠ [] ∧ (k : Int) ≠ q.zone) := fun h => by simpa using hfull.2 h
      by_cases e : (k : Int) = q.zone
      · simp [e]
      · have h0 : ws = [] := Classical.byContradiction fun h => this ⟨h, e⟩
        rw [h0] at hm
        simp at hm
        simp [← hm]
    · obtain ⟨h1, h2⟩ := hfull.1 rfl
      have : 0 < m := by rw [← hm]; exact List.length_pos_iff.2 h1
      simp [this, h2]
  have hsy : ¬ (k : Int) = q.zone → sy = (m : Int) := fun e => by
    rcases fu with _ | _
    · have : m = 0 := by
        simp [e] at hfu
        omega
      omega
    · exact hsync rfl
  have HSC := hide hscan
  clear hscan hfull hsync hf hv hfit hz hx
  have hsz := HV0.out.sz
  obtain ⟨c0, c1, c2, c3, c4, c5⟩ := HV0.out.cells
  rw [h4, e1] at c0
  have HV1 := hide (HV0.out.below (below_new W0 (.cells #[.slice qa m qc, .int .i64 sy, .bool fu] 69)) HBB.out)
  have HX1 := hide (Blk.new W0 69 #[.slice qa m qc, .int .i64 sy, .bool fu])
  rw [h4, e1] at HZ
  have hm64 : m ≤ 64 := hdz.1
  have k1 : (k : Int) < ((4 : Nat) : Int) := by omega
  clear h4 e1 hm hdz
  unfold boxV at hW0
  unfold Vq.val
  have HFU := hide hfu
  have HSY := hide hsy
  clear hfu hsy
  have kz : ¬ (m : Int) < (m : Int) := by omega
  go_enter Tryz.func49, Tryz.ntmps49
  go_wp2_with fail
  refine (HZ.out _ HV1.out).mono ?_
  rintro e w2 ⟨A2, d2, m2, rs, rfl, -, -, hb2⟩
  rw [HSC.out]
  have HV2 := hide (HV1.out.below hb2 HBB.out)
  have HX2 := hide (HX1.out.below hb2 HX1.out.lt)
  clear hb2 HV1 HX1 c0 c1 c2 c3 c4 c5 g0 g1 g2 hp hpb HZ HSC hW0 HV0
  obtain ⟨c0, c1, c2, c3, c4, c5⟩ := HV2.out.cells
  have x0 := HX2.out.cell 0
  have x1 := HX2.out.cell 1
  have x2 := HX2.out.cell 2
  simp at x0 x1 x2
  by_cases e : (k : Int) = q.zone
  · have hf0 : fu = false := by rw [HFU.out]; simp [e]
    clear HFU HSY
    subst hf0
    have e2 : ((k : Int) == q.zone) = true := by simp [e]
    have HE := hide e
    clear e
    go_wp2
    go_ret
    exact ⟨rfl, HV2.out.bl⟩
  · have hs := HSY.out e
    clear HSY
    subst hs
    have e2 : ((k : Int) == q.zone) = false := by simp [e]
    have hf0 : fu = decide (0 < m) := by rw [HFU.out]; simp [e]
    clear HFU
    have HE := hide e
    clear e
    rcases Nat.eq_zero_or_pos m with h0 | h0
    · subst h0
      have : fu = false := by rw [hf0]; rfl
      subst this
      have x1' : w2.cell? ⟨W0.heap.size, 1, none⟩ = some (.int .i64 0) := x1
      clear hf0 x1
      go_wp2
      go_ret
      exact ⟨rfl, HV2.out.bl⟩
    · have : fu = true := by rw [hf0]; simp [h0]
      subst this
      clear hf0
      have h0' : (0 : Int) < (m : Int) := by omega
      go_wp2
      go_ret
      exact ⟨rfl, HV2.out.bl⟩

set_option maxHeartbeats 6400000 in
theorem implEnd (q : Vq) (B : Nat) (A : Option Addr) (n c BL : Nat) (qs : List Fq) (w : World) (hv : VolI w B q) (hB : B ≤ w.heap.size) (hf : Fits q) (hr : Fnds w BL A n qs) (hBL : BL ≤ w.heap.size) (hn : n ≤ 100000000) (hfs : fns qs = devF (zns q.dev)) :
    Calls Tryz.prog 53 #[q.val, .slice A n c] w fun e w' => e = .returned (.bool true) ∧ Below w.heap.size w w' := by
  obtain ⟨W0, hW0⟩ : ∃ W0, w.alloc (.cells (boxV q) 29) = W0 := ⟨_, rfl⟩
  have HV0 : Hid (VV w B q W0) := by rw [← hW0]; exact VV.start w B q hv hB
  have hw0 : Below w.heap.size w W0 := by rw [← hW0]; exact below_box w _
  have HR := hide (hr.below hw0 hBL)
  have hlen : qs.length = n := hr.1
  have HBB := hide hB
  have hsz := HV0.out.sz
  rcases Nat.eq_zero_or_pos n with h0 | h0
  · subst h0
    have e0 : qs = [] := List.eq_nil_of_length_eq_zero hlen
    subst e0
    have hsq : q.seq = 1 := hf.ok.sq hfs.symm
    obtain ⟨c0, c1, c2, c3, c4, c5⟩ := HV0.out.cells
    rw [hsq] at c4
    clear hf hv hr hfs hsq hw0
    unfold boxV at hW0
    unfold Vq.val
    go_enter Tryz.func53, Tryz.ntmps53
    go_wp2
    go_ret
    exact ⟨rfl, HV0.out.bl⟩
  · obtain ⟨f, hq⟩ : ∃ f, qs[n - 1]? = some f := ⟨_, List.getElem?_eq_getElem (by omega)⟩
    have hlast : (devF q.vol.dev).getLast? = some f.fn := by
      show (devF (zns q.dev)).getLast? = _
      rw [← hfs, List.getLast?_eq_getElem?]
      unfold fns
      rw [List.length_map, hlen, List.getElem?_map, hq]
      rfl
    obtain ⟨hs1, hs2⟩ := hf.ok.sl f.fn hlast
    obtain ⟨kz, bz, hkz, ez, hgz, eq2⟩ := devF_zone (dev_len hf.ok.dv) (List.mem_of_getLast? hlast)
    have hsr : 1 ≤ f.seq ∧ f.seq ≤ 999 := by
      have := (validF_iff.1 hgz.2.1).2.1
      have e3 : f.fn.2.2.2.1 = f.seq := rfl
      rw [eq2] at e3
      rw [← e3]
      exact this
    have hfz : f.zone = (kz : Int) := ez
    have hs1' : q.seq = f.seq + 1 := hs1
    obtain ⟨zn, hzn, hz4⟩ : ∃ zn : Nat, q.zone = (zn : Int) ∧ zn < 4 := ⟨q.zone.toNat, vol_zone hf.ok⟩
    obtain ⟨x, hx⟩ : ∃ x, q.dev[zn]? = some x := ⟨_, List.getElem?_eq_getElem (by rw [hv.dev.1, hf.d4]; exact hz4)⟩
    have hxw : f.zone = q.zone ∨ x.words = [] := by
      rcases hs2 with h | h
      · exact .inl h
      · refine .inr ?_
        have : zat q.vol.dev q.vol.zone.toNat = (x.words, x.synced, x.full) := by
          show zat (zns q.dev) q.zone.toNat = _
          rw [hzn]
          unfold zat zns
          rw [List.getD, Int.toNat_natCast, List.getElem?_map, hx]
          rfl
        rw [this] at h
        exact h
    have h4 := hf.d4
    obtain ⟨ad, p, e1, hp, hpb, g0, g1, g2⟩ := HV0.out.vi.dev.at_ hx
    obtain ⟨ad2, p2, e2, hp2, hpb2, r0, r1, r2, r3, r4⟩ := HR.out.at_ hq
    obtain ⟨c0, c1, c2, c3, c4, c5⟩ := HV0.out.cells
    rw [h4, e1] at c0
    rw [hzn] at c5
    rw [hs1'] at c4
    obtain ⟨ws, sy, fu, qa, qc⟩ := x
    obtain ⟨fz, fa, f2, f3, fw, fA, fc⟩ := f
    simp only [Zq.sl, Fq.sl] at g0 g1 g2 r0 r1 r2 r3 r4 hxw hsr hfz hs1'
    rw [hzn] at hxw
    obtain ⟨m, hm⟩ : ∃ m, ws.length = m := ⟨_, rfl⟩
    obtain ⟨m2, hm2⟩ : ∃ m2, fw.length = m2 := ⟨_, rfl⟩
    rw [hm] at g0
    rw [hm2] at r4
    have hxm : fz = (zn : Int) ∨ m = 0 := by
      rcases hxw with h | h
      · exact .inl h
      · rw [h] at hm
        exact .inr hm.symm
    have hw1 : IntKind.i64.wrap (f3 + 1) = f3 + 1 := IntWalk.i64_in _ (by omega)
    have hwn : IntKind.i64.wrap ((n : Int) - 1) = ((n - 1 : Nat) : Int) := (IntWalk.i64_in _ (by omega)).trans (by omega)
    have k1 : ((n - 1 : Nat) : Int) < (n : Int) := by omega
    have k2 : (zn : Int) < ((4 : Nat) : Int) := by omega
    have k3 : (zn : Int) < 4 := by omega
    have n0 : ¬ (n : Int) = 0 := by omega
    have n0' : ((n : Int) == 0) = false := by simp; omega
    have HE1 := hide (⟨h4, e1, hzn, hs1', e2⟩ : q.dn = 4 ∧ q.dA = some ad ∧ q.zone = (zn : Int) ∧ q.seq = f3 + 1 ∧ A = some ad2)
    subst e2
    clear h4 e1 hzn hs1' hfz hsr hf hv hr hfs hw0 hs1 hs2 hlast hx hq hgz eq2 ez hxw hm hm2 hlen hkz
    unfold boxV at hW0
    unfold Vq.val
    have HXM := hide hxm
    have hpb3 : p.block < W0.heap.size := by omega
    clear hxm
    go_enter Tryz.func53, Tryz.ntmps53
    rcases HXM.out with e | e
    · subst e
      go_wp2
      go_ret
      exact ⟨rfl, (HV0.out.bl.alloc (Nat.le_of_lt hsz) _)⟩
    · subst e
      by_cases e : fz = (zn : Int)
      · subst e
        go_wp2
        go_ret
        exact ⟨rfl, (HV0.out.bl.alloc (Nat.le_of_lt hsz) _)⟩
      · go_wp2
        go_ret
        exact ⟨rfl, (HV0.out.bl.alloc (Nat.le_of_lt hsz) _)⟩
end Go.Proofs.YtfianpjoifcphaaGreat

/- ImpV2 -/
namespace Go.Proofs.YtfianpjoifcphaaGreat
open Go.RowKit
set_option linter.unusedVariables false
set_option maxRecDepth 100000

/-- five stores -/
def put5 (W : World) (g : Nat) (a b c d : Int) (v : Value) : World :=
  ((((W.setCell ⟨g, 0, none⟩ (.int .i64 a)).setCell ⟨g, 1, none⟩ (.int .i64 b)).setCell ⟨g, 2, none⟩ (.int .i64 c)).setCell ⟨g, 3, none⟩ (.int .i64 d)).setCell ⟨g, 4, none⟩ v
theorem grown5 (w : World) (g : Nat) (a b c d : Int) (v : Value) : w.grownBy (put5 w g a b c d v) (some g) := by
  have s : ∀ (w0 w1 : World) (i : Nat) (u : Value), w0.grownBy w1 (some g) → w0.grownBy (w1.setCell ⟨g, i, none⟩ u) (some g) := fun w0 w1 i u h =>
    ⟨h.os, h.tape, h.output, by simpa [World.setCell] using h.size, fun q hq hne => (Below.heap_setCell w1 ⟨g, i, none⟩ u q (fun e => hne (by rw [e]))).trans (h.block q hq hne)⟩
  exact s _ _ _ _ (s _ _ _ _ (s _ _ _ _ (s _ _ _ _ (s _ _ _ _ (grown_refl w _)))))
theorem blk5 {W : World} {g : Nat} {t : TypeId} {a b c d a' b' c' d' : Int} {v v' : Value} (h : Blk W g t #[.int .i64 a, .int .i64 b, .int .i64 c, .int .i64 d, v]) : Blk (put5 W g a' b' c' d' v') g t #[.int .i64 a', .int .i64 b', .int .i64 c', .int .i64 d', v'] :=
  ((((h.set_ 0 _).set_ 1 _).set_ 2 _).set_ 3 _).set_ 4 _

/-- behind k rounds -/
structure FI (w wr : World) (k : Nat) (fs : List Fn) (lz la l2 l3 : Int) (lv : Value) : Prop where
  bg : Blk wr w.heap.size 160 ((begunF fs k).map Value.bool).toArray
  ls : Blk wr (w.heap.size + 1) 156 #[.int .i64 lz, .int .i64 la, .int .i64 l2, .int .i64 l3, lv]
  bl : Below w.heap.size w wr
  st : (k = 0 ∧ lz = -1) ∨ ∃ j p, k = j + 1 ∧ fs[j]? = some p ∧ lz = p.1 ∧ la = p.2.1
theorem FI.next {w wr : World} {k z : Nat} {fs : List Fn} {lz la l2 l3 : Int} {lv : Value} {f : Fn} (h : FI w wr k fs lz la l2 l3 lv) (hf : fs[k]? = some f) (hz : f.1 = (z : Int)) (h4 : z < 4) (o : Obj) (m2 m3 : Int) (mv : Value) :
    FI w (put5 ((wr.alloc o).setCell ⟨w.heap.size, z, none⟩ (.bool true)) (w.heap.size + 1) f.1 f.2.1 m2 m3 mv) (k + 1) fs f.1 f.2.1 m2 m3 mv := by
  have hs := h.bl.size
  have g1 := grown1 (wr.alloc o) w.heap.size z (.bool true)
  have b1 := (h.bg.alloc o).set_ z (.bool true)
  have l1 := (h.ls.alloc o).grown g1 (by simp)
  have e1 : ((begunF fs k).map Value.bool).toArray.setIfInBounds z (.bool true) = ((begunF fs (k + 1)).map Value.bool).toArray := by
    rw [begunF_next hf hz h4, List.map_set]
    simp
  rw [e1] at b1
  have g2 := grown5 ((wr.alloc o).setCell ⟨w.heap.size, z, none⟩ (.bool true)) (w.heap.size + 1) f.1 f.2.1 m2 m3 mv
  refine ⟨b1.grown g2 (by simp), blk5 l1, ?_, .inr ⟨k, f, rfl, hf, rfl, rfl⟩⟩
  have c1 := (h.bl.alloc hs o).grown g1 (by simp; omega) (fun b e => by injection e with e; omega)
  exact c1.grown g2 c1.size (fun b e => by injection e with e; omega)
theorem FI.round {w wr : World} {k z : Nat} {fs : List Fn} {lz la l2 l3 : Int} {lv : Value} {f : Fn} (h : FI w wr k fs lz la l2 l3 lv) (hfl : FlwF fs) (hf : fs[k]? = some f) (hz : f.1 = (z : Int)) (h4 : z < 4) :
    (f.1 = lz → ¬ f.2.1 < la) ∧ (f.1 ≠ lz → (begunF fs k)[z]? = some false) := by
  rcases h.st with ⟨rfl, rfl⟩ | ⟨j, p, rfl, hp, rfl, rfl⟩
  · refine ⟨fun e => by omega, fun _ => ?_⟩
    rw [begunF_zero]
    rcases z with _ | _ | _ | _ | z
    · rfl
    · rfl
    · rfl
    · rfl
    · omega
  · obtain ⟨h1, h2⟩ := flw_round hfl hf hp hz h4
    exact ⟨fun e => by have := h1 e; omega, h2⟩

set_option maxHeartbeats 6400000 in
theorem implFollow (A : Option Addr) (n c B : Nat) (qs : List Fq) (w : World) (hr : Fnds w B A n qs) (hB : B ≤ w.heap.size) (hn : n ≤ 100000000) (hfl : FlwF (fns qs)) (hz : ∀ q ∈ qs, 0 ≤ q.zone ∧ q.zone < 4) :
    Calls Tryz.prog 51 #[.slice A n c] w fun e w' => e = .returned (.bool true) ∧ Below w.heap.size w w' := by
  have HR := hide hr
  have HFL := hide hfl
  have HZ := hide hz
  obtain ⟨fs, hfs⟩ : ∃ fs, fns qs = fs := ⟨_, rfl⟩
  have HFS := hide hfs
  clear hr hfl hz hfs
  go_enter Tryz.func51, Tryz.ntmps51
  go_wp2_with fail
  go_loopw [10] (fun i wr => ∃ (k : Nat) (lz la l2 l3 : Int) (lv : Value), k ≤ n ∧ i = .int .i64 k ∧ Hid (FI w wr k fs lz la l2 l3 lv)) (fun i _ => n - (intOf i).toNat)
  case atStart =>
    refine ⟨0, -1, 0, 0, 0, .slice none 0 0, Nat.zero_le _, rfl, ⟨?_, ?_, ?_, .inl ⟨rfl, rfl⟩⟩⟩
    · rw [begunF_zero]
      exact (Blk.new w 160 #[.bool false, .bool false, .bool false, .bool false]).alloc _
    · have := Blk.new (w.alloc (.cells #[.bool false, .bool false, .bool false, .bool false] 160)) 156 #[.int .i64 (-1), .int .i64 0, .int .i64 0, .int .i64 0, .slice none 0 0]
      simpa using this
    · exact (below_box w _).alloc (by simp) _
  case round =>
    obtain ⟨k, lz, la, l2, l3, lv, hk, rfl, HI⟩ := hrel
    have hs := HI.out.bl.size
    by_cases hlt : k < n
    · obtain ⟨q, hq⟩ : ∃ q, qs[k]? = some q := ⟨_, List.getElem?_eq_getElem (by rw [HR.out.1]; omega)⟩
      have hR := HR.out.below HI.out.bl hB
      obtain ⟨ad, p, rfl, hp, hpb, hc0, hc1, hc2, hc3, hc4⟩ := hR.at_ hq
      have hfq : fs[k]? = some q.fn := by rw [← HFS.out]; unfold fns; rw [List.getElem?_map, hq]; rfl
      obtain ⟨hz0, hz1⟩ := HZ.out q (List.mem_of_getElem? hq)
      obtain ⟨z, a, x0, x1, ws, qa, qc⟩ := q
      simp only at hz0 hz1
      obtain ⟨zn, rfl⟩ := Int.eq_ofNat_of_zero_le hz0
      have hz4 : zn < 4 := by omega
      have hrd := HI.out.round (by rw [← HFS.out]; exact HFL.out) hfq rfl hz4
      simp only [Fq.fn] at hrd
      have HNX := hide fun (o : Obj) (m2 m3 : Int) (mv : Value) => HI.out.next hfq rfl hz4 o m2 m3 mv
      simp only [Fq.sl] at hc0 hc1 hc2 hc3 hc4
      generalize hm : ws.length = m at hc4
      obtain ⟨W0, hW0⟩ : ∃ W0, wr.alloc (.cells #[.int .i64 (zn : Int), .int .i64 a, .int .i64 x0, .int .i64 x1, .slice qa m qc] 156) = W0 := ⟨_, rfl⟩
      have HBX := hide (show Blk W0 wr.heap.size 156 #[.int .i64 (zn : Int), .int .i64 a, .int .i64 x0, .int .i64 x1, .slice qa m qc] by rw [← hW0]; exact Blk.new wr _ _)
      have HBG := hide (show Blk W0 w.heap.size 160 ((begunF fs k).map Value.bool).toArray by rw [← hW0]; exact HI.out.bg.alloc _)
      have HLS := hide (show Blk W0 (w.heap.size + 1) 156 #[.int .i64 lz, .int .i64 la, .int .i64 l2, .int .i64 l3, lv] by rw [← hW0]; exact HI.out.ls.alloc _)
      obtain ⟨bv, hbv⟩ : ∃ bv, (begunF fs k)[zn]? = some bv := ⟨_, List.getElem?_eq_getElem (by rw [begunF_len]; exact hz4)⟩
      have hg0 : W0.cell? ⟨w.heap.size, zn, none⟩ = some (.bool bv) := by rw [HBG.out.cell]; simp [hbv]
      have hgf := HBG.out.frozen zn
      obtain ⟨b0, b1, b2, b3, b4⟩ : W0.cell? ⟨wr.heap.size, 0, none⟩ = some (.int .i64 (zn : Int)) ∧ W0.cell? ⟨wr.heap.size, 1, none⟩ = some (.int .i64 a) ∧ W0.cell? ⟨wr.heap.size, 2, none⟩ = some (.int .i64 x0) ∧
          W0.cell? ⟨wr.heap.size, 3, none⟩ = some (.int .i64 x1) ∧ W0.cell? ⟨wr.heap.size, 4, none⟩ = some (.slice qa m qc) := ⟨(HBX.out.cell 0), (HBX.out.cell 1), (HBX.out.cell 2), (HBX.out.cell 3), (HBX.out.cell 4)⟩
      have l0 : W0.cell? ⟨w.heap.size + 1, 0, none⟩ = some (.int .i64 lz) := HLS.out.cell 0
      have l1 : W0.cell? ⟨w.heap.size + 1, 1, none⟩ = some (.int .i64 la) := HLS.out.cell 1
      obtain ⟨W1, hW1⟩ : ∃ W1, W0.setCell ⟨w.heap.size, zn, none⟩ (.bool true) = W1 := ⟨_, rfl⟩
      have hgr : W0.grownBy W1 (some w.heap.size) := by rw [← hW1]; exact grown1 W0 w.heap.size zn (.bool true)
      have hne : wr.heap.size ≠ w.heap.size := by have := HI.out.bg.lt; omega
      have HBX1 := hide (HBX.out.grown hgr (by simpa using hne))
      have HLS1 := hide (HLS.out.grown hgr (by simp))
      obtain ⟨d0, d1, d2, d3, d4⟩ : W1.cell? ⟨wr.heap.size, 0, none⟩ = some (.int .i64 (zn : Int)) ∧ W1.cell? ⟨wr.heap.size, 1, none⟩ = some (.int .i64 a) ∧ W1.cell? ⟨wr.heap.size, 2, none⟩ = some (.int .i64 x0) ∧
          W1.cell? ⟨wr.heap.size, 3, none⟩ = some (.int .i64 x1) ∧ W1.cell? ⟨wr.heap.size, 4, none⟩ = some (.slice qa m qc) := ⟨(HBX1.out.cell 0), (HBX1.out.cell 1), (HBX1.out.cell 2), (HBX1.out.cell 3), (HBX1.out.cell 4)⟩
      obtain ⟨f0, f1, f2, f3, f4⟩ : W1.cell? ⟨w.heap.size + 1, 0, none⟩ = some (.int .i64 lz) ∧ W1.cell? ⟨w.heap.size + 1, 1, none⟩ = some (.int .i64 la) ∧ W1.cell? ⟨w.heap.size + 1, 2, none⟩ = some (.int .i64 l2) ∧
          W1.cell? ⟨w.heap.size + 1, 3, none⟩ = some (.int .i64 l3) ∧ W1.cell? ⟨w.heap.size + 1, 4, none⟩ = some lv := ⟨(HLS1.out.cell 0), (HLS1.out.cell 1), (HLS1.out.cell 2), (HLS1.out.cell 3), (HLS1.out.cell 4)⟩
      have ff := HLS1.out.frozen
      have HN := hide (show FI w (put5 W1 (w.heap.size + 1) (zn : Int) a x0 x1 (.slice qa m qc)) (k + 1) fs (zn : Int) a x0 x1 (.slice qa m qc) by rw [← hW1, ← hW0]; exact HNX.out _ _ _ _)
      unfold put5 at HN
      have k0 : (0 : Int) ≤ (k : Int) := by omega
      have k1 : (k : Int) < (n : Int) := by omega
      have z1 : (zn : Int) < ((4 : Nat) : Int) := by omega
      have z2 : (zn : Int) < 4 := by omega
      clear hR hq hfq hm HNX hgr HBX HBG HLS HBX1 HLS1
      by_cases e : (zn : Int) = lz
      · have ha : ¬ a < la := hrd.1 e
        clear hrd hbv
        subst e
        go_wp2
        exact ⟨⟨k + 1, (zn : Int), a, x0, x1, .slice qa m qc, by omega, by go_num, HN.out⟩, by simp [intOf]; omega⟩
      · have hb := hrd.2 e
        rw [hbv] at hb
        injection hb with hb
        subst hb
        clear hrd hbv
        go_wp2
        exact ⟨⟨k + 1, (zn : Int), a, x0, x1, .slice qa m qc, by omega, by go_num, HN.out⟩, by simp [intOf]; omega⟩
    · go_wp2
      go_ret
      exact ⟨rfl, HI.out.bl⟩
end Go.Proofs.YtfianpjoifcphaaGreat
