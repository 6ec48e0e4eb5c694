/-
  The program's DeviceErase, DeviceSync, DeviceFinish, DeviceReset, DeviceAppend: each tells what the model's own tells.
-/
import Derived.Test.YtfgcmlapmeemaaaImpZ4
namespace Go.Proofs.Ytfgcmlapmeemaaa
open Go.RowKit
set_option linter.unusedVariables false
set_option maxRecDepth 100000

theorem devpost_nil {w w' : World} (hb : Below w.heap.size w w') : DevPost w false [] (.returned (.tuple #[.slice none 0 0, .bool false])) w' := ⟨_, _, _, [], rfl, OwnZ.nil_ _ _, rfl, hb⟩

/-- a grid in a new block, behind the call that made it -/
structure Gd (w w2 : World) (G : Nat) (ds : Dev) (W : List Int) (M : List Mk) : Prop where
  grid : GB w2 G W M
  dev : devG W M = ds
  below : Below w.heap.size w w2
  new : w.heap.size ≤ G

theorem Gd.mk' {w w1 w2 : World} {ds : Dev} {cs : List Value} {W : List Int} {M : List Mk} (hb : Below w.heap.size w w1) (hcs : cs = gcells W M ∧ GrOk W M ∧ devG W M = ds) (o : Obj)
    (hw : Blk w2 w1.heap.size 43 cs.toArray) (hg : (w1.alloc o).grownBy w2 (some w1.heap.size)) : Gd w w2 w1.heap.size ds W M := by
  obtain ⟨rfl, hok, hd⟩ := hcs
  have hs := hb.size
  exact ⟨⟨hw, hok⟩, hd, (hb.alloc hs o).grown hg (by simp; omega) (fun b hb => by injection hb with hb; omega), hs⟩
/-- behind a change of the grid -/
theorem Gd.next {w w2 w3 : World} {G : Nat} {ds ds' : Dev} {W W' : List Int} {M M' : List Mk} (h : Gd w w2 G ds W M) (hG : GB w3 G W' M') (hg : w2.grownBy w3 (some G)) (hd : devG W' M' = ds') : Gd w w3 G ds' W' M' :=
  ⟨hG, hd, h.below.grown hg h.below.size (fun b hb => by injection hb with hb; have := h.new; omega), h.new⟩
theorem Gd.done {w w2 w3 : World} {G : Nat} {ds : Dev} {W : List Int} {M : List Mk} (h : Gd w w2 G ds W M) {A2 : Option Addr} {c2 : Nat} {qs2 : List Zq} (ho : OwnZ w3 w2.heap.size A2 4 c2 qs2) (hz : zns qs2 = devG W M) (hb : Below w2.heap.size w2 w3) :
    DevPost w true ds (.returned (.tuple #[.slice A2 4 c2, .bool true])) w3 :=
  ⟨_, _, _, _, rfl, ho.mono h.below.size, hz.trans h.dev, h.below.trans (hb.mono h.below.size)⟩
theorem Gd.doneI {w w2 w3 : World} {G : Nat} {ds : Dev} {W : List Int} {M : List Mk} (h : Gd w w2 G ds W M) {A2 : Option Addr} {c2 : Nat} {qs2 : List Zq} (ho : OwnZ w3 w2.heap.size A2 4 c2 qs2) (hz : zns qs2 = devG W M) (hb : Below w2.heap.size w2 w3) (v : Int) :
    DevPostI w v ds (.returned (.tuple #[.slice A2 4 c2, .int .i64 v])) w3 :=
  ⟨_, _, _, _, rfl, ho.mono h.below.size, hz.trans h.dev, h.below.trans (hb.mono h.below.size)⟩


theorem modG {ds : Dev} {W : List Int} {M : List Mk} {k : Nat} {m : Mk} (hd : devG W M = ds) (hm : M[k]? = some m) (f : List Int × Int × Bool → List Int × Int × Bool) (m' : Mk) (hf : f (zoneG W k m) = zoneG W k m') : devG W (M.set k m') = modD ds k f := by
  have h : ds[k]? = some (zoneG W k m) := by rw [← hd]; exact devG_get hm
  rw [modD_at h, hf, ← hd, devG_set]

theorem zoneV_num {ds : Dev} {z : Int} (h : zoneV ds z = true) : ∃ k : Nat, z = (k : Int) ∧ k < 4 := by
  unfold zoneV at h
  rw [Bool.and_eq_true] at h
  obtain ⟨h0, h1⟩ := inB_iff.1 h.2
  exact ⟨z.toNat, by omega, by omega⟩


theorem zoneG_len {W : List Int} {M : List Mk} (h : GrOk W M) {k : Nat} (hk : k < 4) {m : Mk} (h1 : m.1 ≤ 64) : (zoneG W k m).1.length = m.1.toNat := by
  unfold zoneG
  rw [List.length_take, List.length_drop, h.words]
  omega

set_option maxHeartbeats 3200000 in
theorem implReset (A : Option Addr) (n c B : Nat) (z : Int) (qs : List Zq) (w : World) (hr : Zns w B A n qs) (hB : B ≤ w.heap.size) (hn : n ≤ 1000000000000) :
    Calls Try.prog 6 #[.slice A n c, .int .i64 z] w (DevPost w (zoneV (zns qs) z) (resetD (zns qs) z)) := by
  have HW := hide (implGridWith A n c B z qs w hr hB hn)
  have HT := hide gridI
  have HZ0 := hide fun (w1 : World) => (show Blk (w1.alloc (.cells ZG 43)) w1.heap.size 43 (gcells zeroW zeroM).toArray by rw [← zeroG]; exact Blk.new _ _ _)
  clear hr
  unfold resetD
  rcases hv : zoneV (zns qs) z with _ | _
  · rw [hv] at HW
    clear hv
    generalize zns qs = ds at HW ⊢
    rw [if_neg (by decide)]
    go_enter Try.func6, Try.ntmps6
    go_wp2_with (first | (with_reducible refine wpList_alloc_grid rfl rfl ?_) | (with_reducible refine wpList_build_grid rfl rfl ?_))
    refine HW.out.mono ?_
    rintro e w1 ⟨cs, rfl, hlen, hone, hgood, hb1⟩
    have HL := hide hlen
    have HO := hide hone
    have HB1 := hide hb1
    clear hlen hone hgood hb1
    go_wp2_with (first | (with_reducible refine wpList_alloc_grid rfl rfl ?_) | (with_reducible refine wpList_build_grid rfl rfl ?_) | (refine wpList_store_blk rfl 43 _ _ rfl w1.heap.size rfl 43 (gcells zeroW zeroM) cs rfl (HZ0.out w1) (by rw [HL.out, gcells_length zeroOk]) (by rw [HT.out, HL.out]) HO.out ?_; intro w2 hw2 hg2; have HB2 := hide ((HB1.out.alloc HB1.out.size _).grown hg2 (by have := HB1.out.size; simp; omega) (fun b hb => by injection hb with hb; have := HB1.out.size; omega)); clear hg2))
    go_ret2
    exact devpost_nil HB2.out
  · rw [hv] at HW
    obtain ⟨k, rfl, hk4⟩ := zoneV_num hv
    rw [if_pos rfl]
    clear hv
    generalize zns qs = ds at HW ⊢
    go_enter Try.func6, Try.ntmps6
    go_wp2_with (first | (with_reducible refine wpList_alloc_grid rfl rfl ?_) | (with_reducible refine wpList_build_grid rfl rfl ?_))
    refine HW.out.mono ?_
    rintro e w1 ⟨cs, rfl, hlen, hone, hgood, hb1⟩
    have HL := hide hlen
    have HO := hide hone
    obtain ⟨W, M, hWM⟩ := hgood rfl
    have HMK := hide fun (w2 : World) (hw : Blk w2 w1.heap.size 43 cs.toArray) (hg : (w1.alloc (.cells ZG 43)).grownBy w2 (some w1.heap.size)) => Gd.mk' hb1 hWM _ hw hg
    clear hlen hone hgood hb1 hWM
    have k0 : (0 : Int) ≤ (k : Int) := by omega
    have k2 : (k : Int) < 4 := by omega
    go_upto_region 4 with (first | (with_reducible refine wpList_alloc_grid rfl rfl ?_) | (with_reducible refine wpList_build_grid rfl rfl ?_) | (refine wpList_store_blk rfl 43 _ _ rfl w1.heap.size rfl 43 (gcells zeroW zeroM) cs rfl (HZ0.out w1) (by rw [HL.out, gcells_length zeroOk]) (by rw [HT.out, HL.out]) HO.out ?_; intro w2 hw2 hg2; have HGD := hide (HMK.out w2 hw2.out hg2); clear hg2))
    obtain ⟨mk, hmk, _⟩ := HGD.out.grid.2.at_ hk4
    have HCL := hide (HGD.out.grid.mark hmk)
    have hc0 := HCL.out.1
    have hc1 := HCL.out.2.1
    have hc2 := HCL.out.2.2
    have hf0 := HGD.out.grid.1.frozen (256 + k * 3)
    have hf1 := HGD.out.grid.1.frozen (256 + k * 3 + 1)
    have hf2 := HGD.out.grid.1.frozen (256 + k * 3 + 2)
    have HGD3 := hide (HGD.out.next (HGD.out.grid.set3 hmk 0 0 false (by decide) (by decide)) (grown3 _ _ _ _ _ _ _ _) (modG HGD.out.dev hmk (fun _ => zone0) (0, 0, false) rfl))
    have HDV := hide (implDevice w1.heap.size _ _ _ HGD3.out.grid)
    clear hmk
    go_wp2_with (first | (with_reducible refine wpList_alloc_grid rfl rfl ?_) | (with_reducible refine wpList_build_grid rfl rfl ?_))
    refine HDV.out.mono ?_
    rintro e w3 ⟨A2, c2, qs2, rfl, ho, hz, hb3⟩
    have HO3 := hide ho
    have HZ3 := hide hz
    have HB3 := hide hb3
    clear ho hz hb3
    go_wp2
    go_ret2
    exact HGD3.out.done HO3.out HZ3.out HB3.out

end Go.Proofs.Ytfgcmlapmeemaaa
