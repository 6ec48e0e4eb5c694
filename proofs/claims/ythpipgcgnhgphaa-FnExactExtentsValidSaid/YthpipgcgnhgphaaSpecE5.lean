/-
  The model's ExtentsBlocks, ExtentsJoin, ExtentsWithout.
-/
import Derived.Test.YthpipgcgnhgphaaSpecE4
namespace Go.Proofs.Ythpipgcgnhgphaa
open Go.RowKit
set_option linter.unusedVariables false
set_option maxRecDepth 100000

theorem OwnM.rdmAt {w : World} {base g : Nat} {p : Int → Bool} (h : OwnM w base g p) : Rdm w (g + 1) g p := ⟨Nat.lt_succ_self _, fun j hj => h.cell hj⟩
theorem Rdm.kept {w w' : World} {B g : Nat} {p : Int → Bool} {row : Option Nat} (h : Rdm w B g p) (hg : w.grownBy w' row) (hlt : g < w.heap.size) (hne : ∀ b, row = some b → g ≠ b) : Rdm w' B g p :=
  ⟨h.1, fun j hj => (World.cell?_of_block (hg.block g hlt (fun e => hne g e.symm rfl))).trans (h.2 j hj)⟩
theorem blk_app {w wr w8 : World} {B g m d c8 : Nat} {X A8 : Option Addr} {xs ys : List Int} {p : Int → Bool} {o : Obj} (h : Own wr w.heap.size X m d xs) (hb : Below w.heap.size w wr) (hm : Rdm wr B g p) (hne : ∀ b, (Value.slice X m d).ownBlock = some b → g ≠ b) (hg : g < wr.heap.size)
    (ho : Own w8 w.heap.size A8 (m + 1) c8 ys) (hgr : (wr.alloc o).grownBy w8 (Value.slice X m d).ownBlock)
    (hat : (Value.slice A8 (m + 1) c8).ownBlock = (Value.slice X m d).ownBlock ∨ (Value.slice A8 (m + 1) c8).ownBlock = some (wr.alloc o).heap.size) :
    Own w8 w.heap.size A8 (m + 1) c8 ys ∧ Below w.heap.size w w8 ∧ Rdm w8 B g p ∧ (∀ b, (Value.slice A8 (m + 1) c8).ownBlock = some b → g ≠ b) ∧ g < w8.heap.size := by
  have h1 : (wr.alloc o).heap.size = wr.heap.size + 1 := by simp
  refine ⟨ho, (hb.alloc hb.size o).grown hgr (by have := hb.size; omega) (fun b e => (h.block b e).1), ?_, ?_, by have := hgr.size; omega⟩
  · have ha : Rdm (wr.alloc o) B g p := ⟨hm.1, fun j hj => (World.cell?_alloc_lt wr o _ hg).trans (hm.2 j hj)⟩
    exact ha.kept hgr (by omega) hne
  · intro b e
    rcases hat with h2 | h2
    · exact hne b (by rw [← h2]; exact e)
    · rw [h2] at e
      injection e with e
      omega

set_option maxHeartbeats 3200000 in
theorem specBlocks (A : Option Addr) (n c B : Nat) (es : Exs) (w : World) (hr : ExI w B A n es) (hB : B ≤ w.heap.size) (hn : n ≤ 1000000000000) :
    Calls Try.prog 20 #[.slice A n c] w fun e w' => ∃ A2 n2 c2, e = .returned (.slice A2 n2 c2) ∧ Own w' w.heap.size A2 n2 c2 (blkE es) ∧ Below w.heap.size w w' := by
  have HR := hide hr
  have HO0 := hide (Own.lit0 w w.heap.size (Nat.le_refl _))
  have HB0 := hide (below_new w (.cells #[] 3))
  have HR0 := hide (hr.alloc hB (.cells #[] 3))
  have HV := hide (specEV A n c B es _ HR0.out hn)
  clear hr
  rcases hv : exV es with _ | _
  · have HE := hide (show blkE es = [] by unfold blkE; rw [hv]; rfl)
    rw [hv] at HV
    clear hv
    go_enter Try.func20, Try.ntmps20
    go_wp2_with fail
    refine HV.out.mono ?_
    rintro e w2 ⟨rfl, z, rfl⟩
    go_wp2
    go_ret
    exact ⟨_, _, _, rfl, by rw [HE.out]; exact HO0.out.drewN z, below_drewN HB0.out z⟩
  · have HE := hide (show blkE es = blkP (inE es) 12 by unfold blkE; rw [hv]; rfl)
    rw [hv] at HV
    have HVV := hide hv
    clear hv
    go_enter Try.func20, Try.ntmps20
    go_wp2_with fail
    refine HV.out.mono ?_
    rintro e w2 ⟨rfl, z, rfl⟩
    have HR1 := hide (HR0.out.drewN z)
    have HO1 := hide (HO0.out.drewN z)
    have HB1 := hide (below_drewN HB0.out z)
    generalize hw1 : (w.alloc (.cells #[] 3)).drewN z = w1 at HR1 HO1 HB1 ⊢
    have hsz1 := HB1.out.size
    have hlt1 := (HO1.out.block w.heap.size rfl).2
    clear HV HO0 HB0 HR0 hw1
    go_wp2_with fail
    refine (specMarks A n c B es w1 HR1.out (Nat.le_trans hB hsz1) hn HVV.out).mono ?_
    rintro e w2 ⟨rfl, ho2, hb2⟩
    have HM := hide ho2.rdmAt
    have HO2 := hide (HO1.out.below hb2)
    have HB2 := hide (HB1.out.trans (hb2.mono hsz1))
    have hg2 := ho2.lt.2
    clear ho2 hb2 HO1 HB1 HR1
    go_wp2
    go_loopw [3, 5] (fun s i wr => ∃ (k m d : Nat) (X : Option Addr), k ≤ 12 ∧ m ≤ k ∧ i = .int .i64 k ∧ s = .slice X m d ∧ Hid (Own wr w.heap.size X m d (blkP (inE es) k)) ∧ Hid (Below w.heap.size w wr) ∧ Hid (Rdm wr (w1.heap.size + 1) w1.heap.size (inE es)) ∧ Hid (∀ b, (Value.slice X m d).ownBlock = some b → w1.heap.size ≠ b) ∧ Hid (w1.heap.size < wr.heap.size)) (fun _ i _ => 12 - (intOf i).toNat)
    case atStart => exact ⟨0, 0, 0, _, by omega, Nat.le_refl _, rfl, rfl, HO2.out, HB2.out, HM.out, (fun b hb => by have hb2 : some w.heap.size = some b := hb; injection hb2 with hb2; omega), hg2⟩
    case round =>
      clear HO2 HB2 HM
      obtain ⟨k, m, d, X, hk, hmk, rfl, rfl, HO, HB, HM, HNE, HG⟩ := hrel
      have hsz := HB.out.size
      by_cases hlt : k < 12
      · have hc := HM.out.2 k hlt
        have HSU := hide (blkP_succ (inE es) k)
        have k0 : (0 : Int) ≤ (k : Int) := by omega
        have k1 : (k : Int) < 12 := by omega
        rcases hp : inE es k with _ | _
        · rw [hp] at hc HSU
          have HO2 := hide HO.out
          rw [show blkP (inE es) k = blkP (inE es) (k + 1) from by rw [HSU.out]; rfl] at HO2
          clear hp HSU HO
          go_wp2
          go_roundw
          case rel => exact ⟨k + 1, _, _, _, by omega, by omega, by go_num, rfl, HO2.out, HB.out, HM.out, HNE.out, HG.out⟩
          case measure => simp [intOf]; omega
        · rw [hp] at hc HSU
          clear hp
          go_wp2_with (at_builtin; refine wpList_append_ints rfl (.tmp 23) (.tmp 25) rfl w.heap.size m d (wr.heap.size + 1) 1 1 X (some ⟨wr.heap.size, 0, none⟩) (blkP (inE es) k) [(k : Int)] rfl (HO.out.alloc _) rfl (Ints.one wr (k : Int)) (by omega) (by simp; omega) ?_; intro A8 c8 w8 ho8 hg8 hat8; have HE8 := hide (blk_app HO.out HB.out HM.out HNE.out HG.out ho8 hg8 hat8); clear ho8 hg8 hat8)
          go_roundw
          case rel => exact ⟨k + 1, _, _, _, by omega, by omega, by go_num, rfl, by rw [HSU.out]; exact HE8.out.1, HE8.out.2.1, HE8.out.2.2.1, HE8.out.2.2.2.1, HE8.out.2.2.2.2⟩
          case measure => simp [intOf]; omega
      · obtain rfl : k = 12 := by omega
        go_wp2
        go_ret
        exact ⟨_, _, _, rfl, by rw [HE.out]; exact HO.out, HB.out⟩

set_option maxHeartbeats 3200000 in
theorem specJoin (A A' : Option Addr) (n c n' c' B B' : Nat) (es fs : Exs) (w : World) (hr : ExI w B A n es) (hB : B ≤ w.heap.size) (hn : n ≤ 1000000000000) (hr' : ExI w B' A' n' fs) (hB' : B' ≤ w.heap.size) (hn' : n' ≤ 1000000000000) :
    Calls Try.prog 23 #[.slice A n c, .slice A' n' c'] w (ExPost w (bothV es fs) (joinE es fs)) := by
  have HR := hide hr
  have HR' := hide hr'
  have HV := hide (specEV A n c B es _ hr hn)
  have HV' := hide fun z => specEV A' n' c' B' fs (w.drewN z) (hr'.drewN z) hn'
  clear hr hr'
  rcases hv : exV es with _ | _
  · have HE := hide (show bothV es fs = false ∧ joinE es fs = [] by unfold bothV joinE; rw [hv]; exact ⟨rfl, rfl⟩)
    rw [hv] at HV
    clear hv HV'
    go_enter Try.func23, Try.ntmps23
    go_wp2_with fail
    refine HV.out.mono ?_
    rintro e w2 ⟨rfl, z, rfl⟩
    go_wp2
    go_ret2
    exact ⟨_, _, _, by rw [HE.out.1]; rfl, by rw [HE.out.2]; exact ExR.lit0 _ _ (Nat.le_refl _), (below_drewN (Below.refl w.heap.size w) z).alloc (Nat.le_refl _) _⟩
  · rcases hv' : exV fs with _ | _
    · have HE := hide (show bothV es fs = false ∧ joinE es fs = [] by unfold bothV joinE; rw [hv, hv']; exact ⟨rfl, rfl⟩)
      rw [hv] at HV
      rw [hv'] at HV'
      clear hv hv'
      go_enter Try.func23, Try.ntmps23
      go_wp2_with fail
      refine HV.out.mono ?_
      rintro e w2 ⟨rfl, z, rfl⟩
      go_wp2_with fail
      refine (HV'.out z).mono ?_
      rintro e w2 ⟨rfl, z', rfl⟩
      go_wp2
      go_ret2
      exact ⟨_, _, _, by rw [HE.out.1]; rfl, by rw [HE.out.2]; exact ExR.lit0 _ _ (Nat.le_refl _), (below_drewN (Below.refl w.heap.size w) (z + z')).alloc (Nat.le_refl _) _⟩
    · have HE := hide (show bothV es fs = true ∧ joinE es fs = R (fun i => inE es i || inE fs i) by unfold bothV joinE; rw [hv, hv']; exact ⟨rfl, rfl⟩)
      rw [hv] at HV
      rw [hv'] at HV'
      have HVV := hide hv
      have HVV' := hide hv'
      clear hv hv'
      go_enter Try.func23, Try.ntmps23
      go_wp2_with fail
      refine HV.out.mono ?_
      rintro e w2 ⟨rfl, z, rfl⟩
      go_wp2_with fail
      refine (HV'.out z).mono ?_
      rintro e w2 ⟨rfl, z', rfl⟩
      have HR1 := hide ((HR.out.drewN z).drewN z')
      have HR1' := hide ((HR'.out.drewN z).drewN z')
      have HB1 := hide (below_drewN (below_drewN (Below.refl w.heap.size w) z) z')
      generalize (w.drewN z).drewN z' = w1 at HR1 HR1' HB1 ⊢
      have hsz1 := HB1.out.size
      clear HV HV' HR HR'
      go_wp2_with fail
      refine (specMarks A n c B es w1 HR1.out (Nat.le_trans hB hsz1) hn HVV.out).mono ?_
      rintro e w2 ⟨rfl, ho2, hb2⟩
      have hb12 := hb2.size
      have HO2 := hide ho2
      have HB2 := hide (HB1.out.trans (hb2.mono hsz1))
      have HR2' := hide (HR1'.out.below hb2 (Nat.le_trans hB' hsz1))
      have hg2 := ho2.lt.2
      have hsz2 := HB2.out.size
      clear ho2 hb2 HR1 HR1' HB1
      go_wp2_with fail
      refine (specMarks A' n' c' B' fs w2 HR2'.out (Nat.le_trans hB' hsz2) hn' HVV'.out).mono ?_
      rintro e w3 ⟨rfl, ho3, hb3⟩
      have HO3 : Hid (OwnM w3 w1.heap.size w1.heap.size (inE es)) := HO2.out.kept (grown_of_below hb3 none) (by simp)
      have HM3 := hide ho3.rdmAt
      have HB3 := hide (HB2.out.trans (hb3.mono hsz2))
      have hg3 := ho3.lt.2
      clear ho3 hb3 HO2 HB2 HR2'
      go_wp2
      go_loopw [8] (fun i wr => ∃ (k : Nat), k ≤ 12 ∧ i = .int .i64 k ∧ Hid (OwnM wr w1.heap.size w1.heap.size (fun i => if i < (k : Int) then (inE es i || inE fs i) else inE es i)) ∧ Hid (Rdm wr (w2.heap.size + 1) w2.heap.size (inE fs)) ∧ Hid (Below w.heap.size w wr) ∧ Hid (w2.heap.size < wr.heap.size)) (fun i _ => 12 - (intOf i).toNat)
      case atStart => exact ⟨0, by omega, rfl, HO3.out.ext (fun i _ => by rw [if_neg (by omega)]), HM3.out, HB3.out, hg3⟩
      case round =>
        clear HO3 HM3 HB3
        obtain ⟨k, hk, rfl, HO, HM, HB, HG⟩ := hrel
        have hsz := HB.out.size
        by_cases hlt : k < 12
        · have hc := HO.out.cell hlt
          rw [if_neg (by omega)] at hc
          have hd := HM.out.2 k hlt
          have hf := HO.out.free k
          have hput := HO.out.put hlt (inE es (k : Int) || inE fs (k : Int))
          have HO2 := hide (hput.1.ext (q := fun i => if i < ((k + 1 : Nat) : Int) then (inE es i || inE fs i) else inE es i) (fun i _ => by
            by_cases e : (i : Int) = (k : Int)
            · rw [if_pos e, if_pos (by omega), e]
            · rw [if_neg e]
              by_cases h2 : (i : Int) < (k : Int)
              · rw [if_pos h2, if_pos (by omega)]
              · rw [if_neg h2, if_neg (by omega)]))
          have HM2 := hide (HM.out.kept hput.2 HG.out (fun b e => by injection e with e; omega))
          have HB2 := hide (HB.out.grown hput.2 hsz (fun b e => by injection e with e; omega))
          have HG2 : Hid (w2.heap.size < (wr.setCell ⟨w1.heap.size, k, none⟩ (.bool (inE es (k : Int) || inE fs (k : Int)))).heap.size) := Nat.lt_of_lt_of_le HG.out hput.2.size
          have k0 : (0 : Int) ≤ (k : Int) := by omega
          have k1 : (k : Int) < 12 := by omega
          clear hput
          generalize inE es (k : Int) = x at hc HO2 HM2 HB2 HG2
          generalize inE fs (k : Int) = y at hd HO2 HM2 HB2 HG2
          rcases x with _ | _ <;> rcases y with _ | _
          all_goals
            go_wp2
            go_roundw
            case rel => exact ⟨k + 1, by omega, by go_num, HO2.out, HM2.out, HB2.out, HG2.out⟩
            case measure => simp [intOf]; omega
        · obtain rfl : k = 12 := by omega
          have HRD := hide (HO.out.ext (q := fun i => inE es i || inE fs i) (fun i hi => by rw [if_pos (by omega)])).rdm
          go_wp2_with fail
          refine (specExts w1.heap.size _ (fun i => inE es i || inE fs i) _ HRD.out (Nat.le_refl _)).mono ?_
          rintro e w5 ⟨A2, n2, c2, rfl, ho, hb⟩
          have HO5 := hide (ho.mono hsz)
          have HB5 := hide (HB.out.trans (hb.mono hsz))
          clear ho hb
          go_wp2
          go_ret2
          exact ⟨_, _, _, by rw [HE.out.1]; rfl, by rw [HE.out.2]; exact HO5.out, HB5.out⟩

set_option maxHeartbeats 3200000 in
theorem specLess (A A' : Option Addr) (n c n' c' B B' : Nat) (es fs : Exs) (w : World) (hr : ExI w B A n es) (hB : B ≤ w.heap.size) (hn : n ≤ 1000000000000) (hr' : ExI w B' A' n' fs) (hB' : B' ≤ w.heap.size) (hn' : n' ≤ 1000000000000) :
    Calls Try.prog 25 #[.slice A n c, .slice A' n' c'] w (ExPost w (bothV es fs) (lessE es fs)) := by
  have HR := hide hr
  have HR' := hide hr'
  have HV := hide (specEV A n c B es _ hr hn)
  have HV' := hide fun z => specEV A' n' c' B' fs (w.drewN z) (hr'.drewN z) hn'
  clear hr hr'
  rcases hv : exV es with _ | _
  · have HE := hide (show bothV es fs = false ∧ lessE es fs = [] by unfold bothV lessE; rw [hv]; exact ⟨rfl, rfl⟩)
    rw [hv] at HV
    clear hv HV'
    go_enter Try.func25, Try.ntmps25
    go_wp2_with fail
    refine HV.out.mono ?_
    rintro e w2 ⟨rfl, z, rfl⟩
    go_wp2
    go_ret2
    exact ⟨_, _, _, by rw [HE.out.1]; rfl, by rw [HE.out.2]; exact ExR.lit0 _ _ (Nat.le_refl _), (below_drewN (Below.refl w.heap.size w) z).alloc (Nat.le_refl _) _⟩
  · rcases hv' : exV fs with _ | _
    · have HE := hide (show bothV es fs = false ∧ lessE es fs = [] by unfold bothV lessE; rw [hv, hv']; exact ⟨rfl, rfl⟩)
      rw [hv] at HV
      rw [hv'] at HV'
      clear hv hv'
      go_enter Try.func25, Try.ntmps25
      go_wp2_with fail
      refine HV.out.mono ?_
      rintro e w2 ⟨rfl, z, rfl⟩
      go_wp2_with fail
      refine (HV'.out z).mono ?_
      rintro e w2 ⟨rfl, z', rfl⟩
      go_wp2
      go_ret2
      exact ⟨_, _, _, by rw [HE.out.1]; rfl, by rw [HE.out.2]; exact ExR.lit0 _ _ (Nat.le_refl _), (below_drewN (Below.refl w.heap.size w) (z + z')).alloc (Nat.le_refl _) _⟩
    · have HE := hide (show bothV es fs = true ∧ lessE es fs = R (fun i => inE es i && !inE fs i) by unfold bothV lessE; rw [hv, hv']; exact ⟨rfl, rfl⟩)
      rw [hv] at HV
      rw [hv'] at HV'
      have HVV := hide hv
      have HVV' := hide hv'
      clear hv hv'
      go_enter Try.func25, Try.ntmps25
      go_wp2_with fail
      refine HV.out.mono ?_
      rintro e w2 ⟨rfl, z, rfl⟩
      go_wp2_with fail
      refine (HV'.out z).mono ?_
      rintro e w2 ⟨rfl, z', rfl⟩
      have HR1 := hide ((HR.out.drewN z).drewN z')
      have HR1' := hide ((HR'.out.drewN z).drewN z')
      have HB1 := hide (below_drewN (below_drewN (Below.refl w.heap.size w) z) z')
      generalize (w.drewN z).drewN z' = w1 at HR1 HR1' HB1 ⊢
      have hsz1 := HB1.out.size
      clear HV HV' HR HR'
      go_wp2_with fail
      refine (specMarks A n c B es w1 HR1.out (Nat.le_trans hB hsz1) hn HVV.out).mono ?_
      rintro e w2 ⟨rfl, ho2, hb2⟩
      have hb12 := hb2.size
      have HO2 := hide ho2
      have HB2 := hide (HB1.out.trans (hb2.mono hsz1))
      have HR2' := hide (HR1'.out.below hb2 (Nat.le_trans hB' hsz1))
      have hg2 := ho2.lt.2
      have hsz2 := HB2.out.size
      clear ho2 hb2 HR1 HR1' HB1
      go_wp2_with fail
      refine (specMarks A' n' c' B' fs w2 HR2'.out (Nat.le_trans hB' hsz2) hn' HVV'.out).mono ?_
      rintro e w3 ⟨rfl, ho3, hb3⟩
      have HO3 : Hid (OwnM w3 w1.heap.size w1.heap.size (inE es)) := HO2.out.kept (grown_of_below hb3 none) (by simp)
      have HM3 := hide ho3.rdmAt
      have HB3 := hide (HB2.out.trans (hb3.mono hsz2))
      have hg3 := ho3.lt.2
      clear ho3 hb3 HO2 HB2 HR2'
      go_wp2
      go_loopw [8] (fun i wr => ∃ (k : Nat), k ≤ 12 ∧ i = .int .i64 k ∧ Hid (OwnM wr w1.heap.size w1.heap.size (fun i => if i < (k : Int) then (inE es i && !inE fs i) else inE es i)) ∧ Hid (Rdm wr (w2.heap.size + 1) w2.heap.size (inE fs)) ∧ Hid (Below w.heap.size w wr) ∧ Hid (w2.heap.size < wr.heap.size)) (fun i _ => 12 - (intOf i).toNat)
      case atStart => exact ⟨0, by omega, rfl, HO3.out.ext (fun i _ => by rw [if_neg (by omega)]), HM3.out, HB3.out, hg3⟩
      case round =>
        clear HO3 HM3 HB3
        obtain ⟨k, hk, rfl, HO, HM, HB, HG⟩ := hrel
        have hsz := HB.out.size
        by_cases hlt : k < 12
        · have hc := HO.out.cell hlt
          rw [if_neg (by omega)] at hc
          have hd := HM.out.2 k hlt
          have hf := HO.out.free k
          have hput := HO.out.put hlt (inE es (k : Int) && !inE fs (k : Int))
          have HO2 := hide (hput.1.ext (q := fun i => if i < ((k + 1 : Nat) : Int) then (inE es i && !inE fs i) else inE es i) (fun i _ => by
            by_cases e : (i : Int) = (k : Int)
            · rw [if_pos e, if_pos (by omega), e]
            · rw [if_neg e]
              by_cases h2 : (i : Int) < (k : Int)
              · rw [if_pos h2, if_pos (by omega)]
              · rw [if_neg h2, if_neg (by omega)]))
          have HM2 := hide (HM.out.kept hput.2 HG.out (fun b e => by injection e with e; omega))
          have HB2 := hide (HB.out.grown hput.2 hsz (fun b e => by injection e with e; omega))
          have HG2 : Hid (w2.heap.size < (wr.setCell ⟨w1.heap.size, k, none⟩ (.bool (inE es (k : Int) && !inE fs (k : Int)))).heap.size) := Nat.lt_of_lt_of_le HG.out hput.2.size
          have k0 : (0 : Int) ≤ (k : Int) := by omega
          have k1 : (k : Int) < 12 := by omega
          clear hput
          generalize inE es (k : Int) = x at hc HO2 HM2 HB2 HG2
          generalize inE fs (k : Int) = y at hd HO2 HM2 HB2 HG2
          rcases x with _ | _ <;> rcases y with _ | _
          all_goals
            go_wp2
            go_roundw
            case rel => exact ⟨k + 1, by omega, by go_num, HO2.out, HM2.out, HB2.out, HG2.out⟩
            case measure => simp [intOf]; omega
        · obtain rfl : k = 12 := by omega
          have HRD := hide (HO.out.ext (q := fun i => inE es i && !inE fs i) (fun i hi => by rw [if_pos (by omega)])).rdm
          go_wp2_with fail
          refine (specExts w1.heap.size _ (fun i => inE es i && !inE fs i) _ HRD.out (Nat.le_refl _)).mono ?_
          rintro e w5 ⟨A2, n2, c2, rfl, ho, hb⟩
          have HO5 := hide (ho.mono hsz)
          have HB5 := hide (HB.out.trans (hb.mono hsz))
          clear ho hb
          go_wp2
          go_ret2
          exact ⟨_, _, _, by rw [HE.out.1]; rfl, by rw [HE.out.2]; exact HO5.out, HB5.out⟩
end Go.Proofs.Ythpipgcgnhgphaa
