/-
  The program's DeviceErase, DeviceSync, DeviceFinish, DeviceReset, DeviceAppend: each tells what the model's own tells.
-/
import Derived.Test.YtfianpjoifcphaaImpZ4
namespace Go.Proofs.Ytfianpjoifcphaa
open Go.RowKit
set_option linter.unusedVariables false
set_option maxRecDepth 100000

theorem devpost_nil {w w' : World} (hb : Below w.heap.size w w') : DevPost w false [] (.returned (.tuple #[.slice none 0 0, .bool false])) w' := ⟨_, _, _, [], rfl, OwnZ.nil_ _ _, rfl, hb⟩

/-- a grid in a new block, behind the call that made it -/
structure Gd (w w2 : World) (G : Nat) (ds : Dev) (W : List Int) (M : List Mk) : Prop where
  grid : GB w2 G W M
  dev : devG W M = ds
  below : Below w.heap.size w w2
  new : w.heap.size ≤ G

theorem Gd.mk' {w w1 w2 : World} {ds : Dev} {cs : List Value} {W : List Int} {M : List Mk} (hb : Below w.heap.size w w1) (hcs : cs = gcells W M ∧ GrOk W M ∧ devG W M = ds) (o : Obj)
    (hw : Blk w2 w1.heap.size 66 cs.toArray) (hg : (w1.alloc o).grownBy w2 (some w1.heap.size)) : Gd w w2 w1.heap.size ds W M := by
  obtain ⟨rfl, hok, hd⟩ := hcs
  have hs := hb.size
  exact ⟨⟨hw, hok⟩, hd, (hb.alloc hs o).grown hg (by simp; omega) (fun b hb => by injection hb with hb; omega), hs⟩
/-- behind a change of the grid -/
theorem Gd.next {w w2 w3 : World} {G : Nat} {ds ds' : Dev} {W W' : List Int} {M M' : List Mk} (h : Gd w w2 G ds W M) (hG : GB w3 G W' M') (hg : w2.grownBy w3 (some G)) (hd : devG W' M' = ds') : Gd w w3 G ds' W' M' :=
  ⟨hG, hd, h.below.grown hg h.below.size (fun b hb => by injection hb with hb; have := h.new; omega), h.new⟩
theorem Gd.done {w w2 w3 : World} {G : Nat} {ds : Dev} {W : List Int} {M : List Mk} (h : Gd w w2 G ds W M) {A2 : Option Addr} {c2 : Nat} {qs2 : List Zq} (ho : OwnZ w3 w2.heap.size A2 4 c2 qs2) (hz : zns qs2 = devG W M) (hb : Below w2.heap.size w2 w3) :
    DevPost w true ds (.returned (.tuple #[.slice A2 4 c2, .bool true])) w3 :=
  ⟨_, _, _, _, rfl, ho.mono h.below.size, hz.trans h.dev, h.below.trans (hb.mono h.below.size)⟩
theorem Gd.doneI {w w2 w3 : World} {G : Nat} {ds : Dev} {W : List Int} {M : List Mk} (h : Gd w w2 G ds W M) {A2 : Option Addr} {c2 : Nat} {qs2 : List Zq} (ho : OwnZ w3 w2.heap.size A2 4 c2 qs2) (hz : zns qs2 = devG W M) (hb : Below w2.heap.size w2 w3) (v : Int) :
    DevPostI w v ds (.returned (.tuple #[.slice A2 4 c2, .int .i64 v])) w3 :=
  ⟨_, _, _, _, rfl, ho.mono h.below.size, hz.trans h.dev, h.below.trans (hb.mono h.below.size)⟩

set_option maxHeartbeats 1600000 in
theorem implErase (A : Option Addr) (n c B : Nat) (qs : List Zq) (w : World) (hr : Zns w B A n qs) (hB : B ≤ w.heap.size) (hn : n ≤ 1000000000000) :
    Calls Try.prog 17 #[.slice A n c] w (DevPost w (devV (zns qs)) (if devV (zns qs) then List.replicate 4 zone0 else [])) := by
  have HV := hide (implDV A n c B qs w hr hB hn)
  clear hr
  rcases hv : devV (zns qs) with _ | _
  · rw [hv] at HV
    clear hv
    rw [if_neg (by decide)]
    go_enter Try.func17, Try.ntmps17
    go_wp2_with (first | (with_reducible refine wpList_alloc_grid rfl rfl ?_) | (with_reducible refine wpList_build_grid rfl rfl ?_))
    refine HV.out.mono ?_
    rintro e w1 ⟨rfl, hb⟩
    have HB := hide hb
    clear hb
    go_wp2
    go_ret2
    exact devpost_nil HB.out
  · rw [hv] at HV
    clear hv
    rw [if_pos rfl]
    go_enter Try.func17, Try.ntmps17
    go_wp2_with (first | (with_reducible refine wpList_alloc_grid rfl rfl ?_) | (with_reducible refine wpList_build_grid rfl rfl ?_))
    refine HV.out.mono ?_
    rintro e w1 ⟨rfl, hb⟩
    have HB := hide hb
    have HG := hide (show GB (w1.alloc (.cells ZG 66)) w1.heap.size zeroW zeroM from ⟨by rw [← zeroG]; exact Blk.new _ _ _, zeroOk⟩)
    have HD := hide (implDevice w1.heap.size zeroW zeroM _ HG.out)
    have HGd := hide (Gd.mk (w := w) HG.out zeroDev (HB.out.alloc HB.out.size (.cells ZG 66)) HB.out.size)
    clear hb
    go_wp2_with (first | (with_reducible refine wpList_alloc_grid rfl rfl ?_) | (with_reducible refine wpList_build_grid rfl rfl ?_))
    refine HD.out.mono ?_
    rintro e w2 ⟨A2, c2, qs2, rfl, ho, hz, hb2⟩
    have HO := hide ho
    have HZ := hide hz
    have HB2 := hide hb2
    clear ho hz hb2
    go_wp2
    go_ret2
    exact HGd.out.done HO.out HZ.out HB2.out

theorem modG {ds : Dev} {W : List Int} {M : List Mk} {k : Nat} {m : Mk} (hd : devG W M = ds) (hm : M[k]? = some m) (f : List Int × Int × Bool → List Int × Int × Bool) (m' : Mk) (hf : f (zoneG W k m) = zoneG W k m') : devG W (M.set k m') = modD ds k f := by
  have h : ds[k]? = some (zoneG W k m) := by rw [← hd]; exact devG_get hm
  rw [modD_at h, hf, ← hd, devG_set]

theorem zoneV_num {ds : Dev} {z : Int} (h : zoneV ds z = true) : ∃ k : Nat, z = (k : Int) ∧ k < 4 := by
  unfold zoneV at h
  rw [Bool.and_eq_true] at h
  obtain ⟨h0, h1⟩ := inB_iff.1 h.2
  exact ⟨z.toNat, by omega, by omega⟩


theorem zoneG_len {W : List Int} {M : List Mk} (h : GrOk W M) {k : Nat} (hk : k < 4) {m : Mk} (h1 : m.1 ≤ 64) : (zoneG W k m).1.length = m.1.toNat := by
  unfold zoneG
  rw [List.length_take, List.length_drop, h.words]
  omega


end Go.Proofs.Ytfianpjoifcphaa
