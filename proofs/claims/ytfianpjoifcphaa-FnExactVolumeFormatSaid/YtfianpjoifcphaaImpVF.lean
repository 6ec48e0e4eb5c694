/-
  The program's VolumeFormat.
-/
import Derived.Test.YtfianpjoifcphaaExVm
import Derived.Test.YtfianpjoifcphaaBoxV
import Derived.Test.YtfianpjoifcphaaImpZ5
import Derived.Test.YtfianpjoifcphaaNewM
namespace Go.Proofs.Ytfianpjoifcphaa
open Go.RowKit
set_option linter.unusedVariables false
set_option maxRecDepth 100000

theorem made12W (w w1 : World) (b : Nat) (h : w1.ownsRow b 72 5 (.slice (some ⟨w.heap.size, 0, none⟩) 12 12) 12 (madeCells (Value.agg #[.int .i64 0, .int .i64 0, .int .i64 0, .int .i64 0, .int .i64 0]).cells (12 * 5)).toList) : MpR w1 b (some ⟨w.heap.size, 0, none⟩) 12 12 new12 := by
  refine ⟨rfl, by simp [fl5_length, new12], ?_⟩
  have e : (madeCells (Value.agg #[.int .i64 0, .int .i64 0, .int .i64 0, .int .i64 0, .int .i64 0]).cells (12 * 5)).toList = (fl5 new12).map (Value.int .i64) := by
    rw [made_sameM _ (.int .i64 0) (by decide) (fun i hi => by have h2 : i < 5 := hi; rcases i with _ | _ | _ | _ | _ | i <;> first | rfl | omega) _]
    rfl
  rw [← e]
  exact h
theorem made12I (w w1 : World) (b : Nat) (h : w1.ownsRow b 3 1 (.slice (some ⟨w.heap.size, 0, none⟩) 12 12) 12 (madeCells (Value.int .i64 0).cells (12 * 1)).toList) : Own w1 b (some ⟨w.heap.size, 0, none⟩) 12 12 (List.replicate 12 0) := by
  refine ⟨by simp, ?_⟩
  have e : (madeCells (Value.int .i64 0).cells (12 * 1)).toList = (List.replicate 12 (0 : Int)).map (Value.int .i64) := by
    rw [Nat.mul_one]
    show (madeCells #[Value.int .i64 0] 12).toList = _
    rw [toList_madeCells_one, List.map_replicate]
  rw [← e]
  exact h

def mk12W : Array Value := ((fl5 new12).map (Value.int .i64)).toArray
def mk12I : Array Value := ((List.replicate 12 (0 : Int)).map (Value.int .i64)).toArray
theorem run_mk12W (w : World) : (Instr.makeSlice 26 (.int .i64 12) (.int .i64 12)).run Try.prog w = .ok (.slice (some ⟨w.heap.size, 0, none⟩) 12 12) (w.alloc (.cells mk12W 72)) := by
  obtain ⟨i0, hi, hz0, hz1, hz2⟩ := info_parts whT.info
  have h := run_make (P := Try.prog) w 26 72 i0 _ Try.underlying26 hi hz0 .i64 .i64 12 12 (by decide) (by decide) (by rw [hz2]; decide) (by decide)
  rw [hz1] at h
  have e : madeCells (Value.agg #[.int .i64 0, .int .i64 0, .int .i64 0, .int .i64 0, .int .i64 0]).cells (12 * 5) = mk12W := by kernel_rfl
  rw [← e]
  exact h
theorem run_mk12I (w : World) : (Instr.makeSlice 27 (.int .i64 12) (.int .i64 12)).run Try.prog w = .ok (.slice (some ⟨w.heap.size, 0, none⟩) 12 12) (w.alloc (.cells mk12I 3)) := by
  obtain ⟨i0, hi, hz0, hz1, hz2⟩ := info_parts info_int
  have h := run_make (P := Try.prog) w 27 3 i0 _ Try.underlying27 hi hz0 .i64 .i64 12 12 (by decide) (by decide) (by rw [hz2]; decide) (by decide)
  rw [hz1] at h
  have e : madeCells (Value.int .i64 0).cells (12 * 1) = mk12I := by kernel_rfl
  rw [← e]
  exact h

/-- the volume that is stored, its map in block gm, its heat in block gh -/
def fmtQ (qs2 : List Zq) (A2 : Option Addr) (m2 c2 gm gh : Nat) : Vq := ⟨qs2, A2, m2, c2, [], none, 0, 0, new12, some ⟨gm, 0, none⟩, 12, 12, List.replicate 12 0, some ⟨gh, 0, none⟩, 12, 12, 1, 0⟩
theorem fmt_end {w w1 : World} {A2 : Option Addr} {m2 c2 gm gh : Nat} {qs2 : List Zq} {o1 o2 : Obj} (hb : Below w.heap.size w w1) (hx : Blk w1 w.heap.size 29 (boxV vq0)) (ho : OwnZ w1 (w.heap.size + 1) A2 m2 c2 qs2) (hz : zns qs2 = List.replicate 4 zone0)
    (hm : MpR ((w1.alloc o1).alloc o2) (w.heap.size + 1) (some ⟨gm, 0, none⟩) 12 12 new12) (hh : Own ((w1.alloc o1).alloc o2) (w.heap.size + 1) (some ⟨gh, 0, none⟩) 12 12 (List.replicate 12 0)) (h1 : w1.heap.size ≤ gm) (h2 : w1.heap.size ≤ gh) :
    FmtPost w newV 0 (.returned (.tuple #[(fmtQ qs2 A2 m2 c2 gm gh).val, .int .i64 0])) (put6 ((w1.alloc o1).alloc o2) w.heap.size (fmtQ qs2 A2 m2 c2 gm gh)).drew ∧
      Blk (put6 ((w1.alloc o1).alloc o2) w.heap.size (fmtQ qs2 A2 m2 c2 gm gh)).drew w.heap.size 29 (boxV (fmtQ qs2 A2 m2 c2 gm gh)) := by
  have hlt := hx.lt
  have hl : m2 = 4 := by
    have := ho.len
    have e : (zns qs2).length = 4 := by rw [hz]; rfl
    unfold zns at e
    rw [List.length_map] at e
    omega
  have hw : ∀ q ∈ qs2, q.words = [] := fun q hq => by
    have : q.zn ∈ zns qs2 := List.mem_map_of_mem hq
    rw [hz] at this
    have e := (List.mem_replicate.1 this).2
    exact congrArg (fun x => x.1) e
  have hv : OwnV ((w1.alloc o1).alloc o2) (w.heap.size + 1) (fmtQ qs2 A2 m2 c2 gm gh) := ⟨(ho.alloc o1).alloc o2, OwnO.nil_ _ _, hm, hh⟩
  have hp := (hv.put6 (p2 := fmtQ qs2 A2 m2 c2 gm gh) (g := w.heap.size) (by omega)).mono (b' := w.heap.size) (by omega)
  have hq := OwnV.drewN hp 1
  have hbb : Below w.heap.size w ((w1.alloc o1).alloc o2) := (hb.alloc hb.size o1).alloc (by have := hb.size; simp; omega) o2
  have hbe : Below w.heap.size w (put6 ((w1.alloc o1).alloc o2) w.heap.size (fmtQ qs2 A2 m2 c2 gm gh)) := hbb.grown (grown6 _ w.heap.size _) hbb.size (fun k hk => by injection hk with hk; omega)
  have hsz : w1.heap.size ≤ (put6 ((w1.alloc o1).alloc o2) w.heap.size (fmtQ qs2 A2 m2 c2 gm gh)).heap.size := by
    have h5 := (grown6 ((w1.alloc o1).alloc o2) w.heap.size (fmtQ qs2 A2 m2 c2 gm gh)).size
    have h6 : w1.heap.size ≤ ((w1.alloc o1).alloc o2).heap.size := by simp; omega
    exact Nat.le_trans h6 h5
  have hbk := blk6 ((hx.alloc o1).alloc o2) (fmtQ qs2 A2 m2 c2 gm gh)
  have own : ∀ (g n c b : Nat), (Value.slice (some ⟨g, 0, none⟩) n c).ownBlock = some b → g = b := fun g n c b e => by injection e
  generalize put6 ((w1.alloc o1).alloc o2) w.heap.size (fmtQ qs2 A2 m2 c2 gm gh) = W9 at hp hq hbe hsz hbk ⊢
  refine ⟨⟨⟨A2, m2, c2, some ⟨gm, 0, none⟩, 12, 12, some ⟨gh, 0, none⟩, 12, 12, 1, 0, w1.heap.size⟩, qs2, new12, List.replicate 12 0, rfl, ⟨Nat.le_of_eq hl, Nat.le_refl _, Nat.le_refl _, hw, rfl⟩, ?_, ?_, below_drewN hbe 1⟩, hbk⟩
  · exact ⟨hq.dev, ho.lim, hq.map.2, fun b e => by have := own gm 12 12 b e; subst this; exact h1, hq.heat, fun b e => by have := own gh 12 12 b e; subst this; exact h2, hb.size, hsz⟩
  · show (⟨zns qs2, _, _, _, _, _⟩ : Vol) = _
    rw [hz]; rfl

set_option maxHeartbeats 3200000 in
theorem implVFormat (A : Option Addr) (n c B : Nat) (qs : List Zq) (w : World) (hr : Zns w B A n qs) (hB : B ≤ w.heap.size) (hn : n ≤ 1000000000000) :
    Calls Try.prog 7 #[.slice A n c] w (FmtPost w (fmtV (devV (zns qs))) (fmtC (devV (zns qs)))) := by
  have HE := hide (implErase A n c B qs (w.alloc (.cells (boxV vq0) 29)) (hr.alloc hB _) (by simp; omega) hn)
  have HB0 := hide (below_box w (.cells (boxV vq0) 29))
  have HX := hide (Blk.new w 29 (boxV vq0))
  unfold boxV vq0 at HE
  clear hr
  rcases hv : devV (zns qs) with _ | _
  · rw [hv, if_neg (by decide)] at HE
    clear hv
    go_enter Try.func7, Try.ntmps7
    go_wp2_with fail
    refine HE.out.mono ?_
    rintro e w1 ⟨A2, m2, c2, qs2, rfl, -, -, hb1⟩
    have HB1 := hide (HB0.out.trans (hb1.mono (by simp)))
    have HX1 := HX.out.below hb1 HX.out.lt
    have fz := HX1.frozen
    obtain ⟨y0, y1, y2, y3, y4, y5⟩ := box_cells HX1
    have hblk := blk6 HX1 vq0
    have HBE := hide (HB1.out.grown (grown6 w1 w.heap.size vq0) HB1.out.size (fun k hk => by injection hk with hk; omega))
    unfold put6 at HBE hblk
    obtain ⟨q0, q1, q2, q3, q4, q5⟩ := box_cells hblk
    clear hblk HX1 HX HB0 HE hb1 HB1
    simp only [vq0] at y0 y1 y2 y3 y4 y5 q0 q1 q2 q3 q4 q5 HBE
    go_wp2
    generalize (((((w1.setCell ⟨w.heap.size, 0, none⟩ (.slice none 0 0)).setCell ⟨w.heap.size, 1, none⟩ (.slice none 0 0)).setCell ⟨w.heap.size, 2, none⟩ (.slice none 0 0)).setCell ⟨w.heap.size, 3, none⟩ (.slice none 0 0)).setCell ⟨w.heap.size, 4, none⟩ (.int .i64 0)).setCell ⟨w.heap.size, 5, none⟩ (.int .i64 0) = W9 at HBE q0 q1 q2 q3 q4 q5 ⊢
    refine bodyPost_ret (v := .tuple #[.agg #[.slice none 0 0, .slice none 0 0, .slice none 0 0, .slice none 0 0, .int .i64 0, .int .i64 0], .int .i64 3]) (by simp [results, Try.results7, go_sem, q0, q1, q2, q3, q4, q5]) rfl ?_
    refine ⟨⟨none, 0, 0, none, 0, 0, none, 0, 0, 0, 0, w.heap.size⟩, [], [], [], rfl, ⟨Nat.zero_le _, Nat.zero_le _, Nat.zero_le _, by simp, rfl⟩, ?_, rfl, HBE.out⟩
    exact ⟨OwnZ.nil_ _ _, ⟨by simp [Value.ownBlock], by simp⟩, OwnR.nil_ _ _ _ _, by simp [Value.ownBlock], Own.nil_ _ _, by simp [Value.ownBlock], Nat.le_refl _, HBE.out.size⟩
  · rw [hv, if_pos rfl] at HE
    clear hv
    have hmW := fun (W : World) => run_mk12W W
    have hmI := fun (W : World) => run_mk12I W
    go_enter Try.func7, Try.ntmps7
    go_wp2_with fail
    refine HE.out.mono ?_
    rintro e w1 ⟨A2, m2, c2, qs2, rfl, ho1, hz1, hb1⟩
    have HB1 := hide (HB0.out.trans (hb1.mono (by simp)))
    have HX1 := HX.out.below hb1 HX.out.lt
    have fz := HX1.frozen
    obtain ⟨y0, y1, y2, y3, y4, y5⟩ := box_cells HX1
    have HXX := hide HX1
    have HO1 := hide ho1
    have HZ1 := hide hz1
    simp only [vq0] at y0 y1 y2 y3 y4 y5
    have hsz1 : w.heap.size + 1 ≤ w1.heap.size := HXX.out.lt
    have HMW : Hid (MpR ((w1.alloc (.cells mk12W 72)).alloc (.cells mk12I 3)) (w.heap.size + 1) (some ⟨w1.heap.size, 0, none⟩) 12 12 new12 ∧ MpR ((w1.alloc (.cells mk12I 3)).alloc (.cells mk12W 72)) (w.heap.size + 1) (some ⟨w1.heap.size + 1, 0, none⟩) 12 12 new12) := ⟨⟨rfl, (OwnR.lit w1 _ (by omega) 72 5 12 (fl5 new12) (by simp [fl5_length, new12]) (by decide)).alloc _⟩, ⟨rfl, by have := OwnR.lit (w1.alloc (.cells mk12I 3)) (w.heap.size + 1) (by simp; omega) 72 5 12 (fl5 new12) (by simp [fl5_length, new12]) (by decide); rw [show (w1.alloc (.cells mk12I 3)).heap.size = w1.heap.size + 1 by simp] at this; exact this⟩⟩
    have HMI : Hid (Own ((w1.alloc (.cells mk12I 3)).alloc (.cells mk12W 72)) (w.heap.size + 1) (some ⟨w1.heap.size, 0, none⟩) 12 12 (List.replicate 12 0) ∧ Own ((w1.alloc (.cells mk12W 72)).alloc (.cells mk12I 3)) (w.heap.size + 1) (some ⟨w1.heap.size + 1, 0, none⟩) 12 12 (List.replicate 12 0)) := ⟨(Own.lit w1 _ (by omega) (List.replicate 12 0) (by decide)).alloc _, by have := Own.lit (w1.alloc (.cells mk12W 72)) (w.heap.size + 1) (by simp; omega) (List.replicate 12 0) (by decide); rw [show (w1.alloc (.cells mk12W 72)).heap.size = w1.heap.size + 1 by simp] at this; exact this⟩
    have HIW := (HX1.alloc (.cells mk12I 3)).alloc (.cells mk12W 72)
    have HWI := (HX1.alloc (.cells mk12W 72)).alloc (.cells mk12I 3)
    have f1 := HIW.frozen
    have f2 := HWI.frozen
    obtain ⟨u0, u1, u2, u3, u4, u5⟩ := box_cells HIW
    obtain ⟨v0, v1, v2, v3, v4, v5⟩ := box_cells HWI
    simp only [vq0] at u0 u1 u2 u3 u4 u5 v0 v1 v2 v3 v4 v5
    clear hb1 HX1 HX HB0 HE ho1 hz1 HIW HWI y0 y1 y2 y3 y4 y5 fz
    go_upto_region 4 with (fail)
    go_region
    · obtain ⟨hpost, hblk⟩ := fmt_end (o1 := .cells mk12W 72) (o2 := .cells mk12I 3) (gm := w1.heap.size) (gh := w1.heap.size + 1) HB1.out HXX.out (by simpa using HO1.out) HZ1.out HMW.out.1 HMI.out.2 (by omega) (by omega)
      have HPO := hide hpost
      unfold put6 fmtQ at HPO hblk
      obtain ⟨q0, q1, q2, q3, q4, q5⟩ := box_cells hblk
      clear hblk hpost u0 u1 u2 u3 u4 u5 v0 v1 v2 v3 v4 v5 f1 f2 hmW hmI HMW HMI HO1 HB1 HXX HZ1
      simp only [Vq.val] at HPO q0 q1 q2 q3 q4 q5
      generalize ((((((((w1.alloc (.cells mk12W 72)).alloc (.cells mk12I 3)).setCell ⟨w.heap.size, 0, none⟩ (.slice A2 m2 c2)).setCell ⟨w.heap.size, 1, none⟩ (.slice none 0 0)).setCell ⟨w.heap.size, 2, none⟩ (.slice (some ⟨w1.heap.size, 0, none⟩) 12 12)).setCell ⟨w.heap.size, 3, none⟩ (.slice (some ⟨w1.heap.size + 1, 0, none⟩) 12 12)).setCell ⟨w.heap.size, 4, none⟩ (.int .i64 1)).setCell ⟨w.heap.size, 5, none⟩ (.int .i64 0)).drew = W9 at HPO q0 q1 q2 q3 q4 q5 ⊢
      go_wp2
      refine bodyPost_ret (v := .tuple #[.agg #[.slice A2 m2 c2, .slice none 0 0, .slice (some ⟨w1.heap.size, 0, none⟩) 12 12, .slice (some ⟨w1.heap.size + 1, 0, none⟩) 12 12, .int .i64 1, .int .i64 0], .int .i64 0]) (by simp [results, Try.results7, go_sem, q0, q1, q2, q3, q4, q5]) rfl ?_
      exact HPO.out
    · obtain ⟨hpost, hblk⟩ := fmt_end (o1 := .cells mk12I 3) (o2 := .cells mk12W 72) (gm := w1.heap.size + 1) (gh := w1.heap.size) HB1.out HXX.out (by simpa using HO1.out) HZ1.out HMW.out.2 HMI.out.1 (by omega) (by omega)
      have HPO := hide hpost
      unfold put6 fmtQ at HPO hblk
      obtain ⟨q0, q1, q2, q3, q4, q5⟩ := box_cells hblk
      clear hblk hpost u0 u1 u2 u3 u4 u5 v0 v1 v2 v3 v4 v5 f1 f2 hmW hmI HMW HMI HO1 HB1 HXX HZ1
      simp only [Vq.val] at HPO q0 q1 q2 q3 q4 q5
      generalize ((((((((w1.alloc (.cells mk12I 3)).alloc (.cells mk12W 72)).setCell ⟨w.heap.size, 0, none⟩ (.slice A2 m2 c2)).setCell ⟨w.heap.size, 1, none⟩ (.slice none 0 0)).setCell ⟨w.heap.size, 2, none⟩ (.slice (some ⟨w1.heap.size + 1, 0, none⟩) 12 12)).setCell ⟨w.heap.size, 3, none⟩ (.slice (some ⟨w1.heap.size, 0, none⟩) 12 12)).setCell ⟨w.heap.size, 4, none⟩ (.int .i64 1)).setCell ⟨w.heap.size, 5, none⟩ (.int .i64 0)).drew = W9 at HPO q0 q1 q2 q3 q4 q5 ⊢
      go_wp2
      refine bodyPost_ret (v := .tuple #[.agg #[.slice A2 m2 c2, .slice none 0 0, .slice (some ⟨w1.heap.size + 1, 0, none⟩) 12 12, .slice (some ⟨w1.heap.size, 0, none⟩) 12 12, .int .i64 1, .int .i64 0], .int .i64 0]) (by simp [results, Try.results7, go_sem, q0, q1, q2, q3, q4, q5]) rfl ?_
      exact HPO.out
end Go.Proofs.Ytfianpjoifcphaa
