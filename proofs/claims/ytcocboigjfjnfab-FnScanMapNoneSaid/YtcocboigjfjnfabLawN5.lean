/-
  The walk of FnScanMapNone.
-/
import Derived.Test.YtcocboigjfjnfabDrawN2
import Derived.Test.YtcocboigjfjnfabG5
import Derived.Test.YtcocboigjfjnfabG2
import Derived.Deep.Cut
import Derived.Deep.RegionHeld3
import Derived.Deep.RegionLaw
namespace Go.Proofs.Ytcocboigjfjnfab
open Go.RowKit
set_option linter.unusedVariables false
set_option maxRecDepth 100000

theorem own_ge {g H n c : Nat} (h : H ≤ g) : ∀ b, (Value.slice (some ⟨g, 0, none⟩) n c).ownBlock = some b → H ≤ b := by
  intro b e
  have e2 : some g = some b := e
  injection e2 with e2
  omega
theorem step_callM {w : World} {ops : Array Oper} {o : Oper} {a : Act} {K : Act → World → Prop} {Q : Exit → Act → World → Prop} {E : Prop} (hgd : o.guard = none) (f : FuncId) (x : Operand) (t : TypeId)
    (ho : o.op = .call { callee := .value (.func f), args := #[x], argTypes := #[t] }) (he : ∀ args w, (callFunc f args).run Try.prog w = .ok (.enter f args) w) (v : Value) (hv : a.eval x = v) (R : Ending → World → Prop)
    (hc : Calls Try.prog f #[v] w R) (h : ∀ e w', R e w' → ∃ u, e = .returned u ∧ K (a.put o.dst u) w') : if Region.wanted o (yielded ops a.tmps) = true then Oper.wp Try.prog o a w K Q else E := by
  have hw : Region.wanted o (yielded ops a.tmps) = true := by simp [Region.wanted, hgd]
  rw [if_pos hw]
  have e : (execOp a.eval o).run Try.prog w = .ok (.enter f #[v]) w := by
    unfold execOp
    simp only [ho]
    go_simp
    rw [← hv]
    cases x <;> simp [Act.eval]
  unfold Oper.wp
  rw [e, Oper.upon_enter]
  refine hc.mono ?_
  rintro e w' hr
  obtain ⟨u, rfl, hk⟩ := h e w' hr
  exact hk
theorem RowF.drew_ {w : World} {base n c : Nat} {A : Option Addr} {qs : List Fq} (h : RowF w base A n c qs) : RowF w.drew base A n c qs := ⟨h.1, h.2⟩
theorem belA (w : World) (o : Obj) : Below w.heap.size w (w.alloc o).drew := by
  have h := (Below.refl w.heap.size w).alloc (Nat.le_refl _) o
  exact ⟨h.os, h.tape, h.output, h.size, h.block⟩
theorem belB (w : World) (o o' : Obj) : Below w.heap.size w ((w.alloc o).alloc o').drew := by
  have h := ((Below.refl w.heap.size w).alloc (Nat.le_refl _) o).alloc (by simp) o'
  exact ⟨h.os, h.tape, h.output, h.size, h.block⟩
theorem rowC (w : World) (o : Obj) : RowF ((w.alloc o).alloc (.cells #[] 34)) w.heap.size (some ⟨w.heap.size + 1, 0, none⟩) 0 0 [] := by
  have e : w.heap.size + 1 = (w.alloc o).heap.size := by simp
  rw [e]
  exact RowF.lit0 (w.alloc o) w.heap.size (by simp)
abbrev fndO (q : Fq) : Obj := .cells #[.int .i64 q.zone, .int .i64 q.word, .int .i64 q.kind, .int .i64 q.seq, q.sl] 34
theorem fndB (w : World) (q : Fq) {o : Obj} {w8 : World} (hg : ((w.alloc o).alloc (fndO q)).drew.grownBy w8 (some w.heap.size)) : ∀ j u, q.cells[j]? = some u → w8.cell? ⟨w.heap.size + 1, j, none⟩ = some u := by
  intro j u hu
  have h := fnd_cells (w.alloc o) q j u hu
  rw [add_plain', show (w.alloc o).heap.size = w.heap.size + 1 by simp] at h
  exact hg.cell h (by simp)
theorem fndC (w : World) (q : Fq) {o : Obj} {w8 : World} (hg : ((w.alloc (fndO q)).alloc o).drew.grownBy w8 (some (w.heap.size + 1))) : ∀ j u, q.cells[j]? = some u → w8.cell? ⟨w.heap.size, j, none⟩ = some u := by
  intro j u hu
  have h := fnd_cells w q j u hu
  rw [add_plain'] at h
  exact hg.cell (cell_alloc' h) (by simp)
theorem twice_of {qs : List Fq} {k : Nat} {q : Fq} (h : qs[k]? = some q) (hl : qs.length = k + 1) : smap (fns (qs ++ [q])) = none := by
  rw [fns_append]
  refine smap_twice _ q.fn ?_
  rw [List.getLast?_eq_getElem?, fns_length, hl]
  exact fns_get h
set_option maxHeartbeats 12800000 in
theorem scanMapNone_walk (A : Option Addr) (n c : Nat) (bs : Nat → Int) (w : World) (hb : Bytes w w.heap.size A n bs) (hn : n ≤ c) (hc : c ≤ maxLen) :
    Calls Try.prog 4 #[.slice A n c] w fun e w' => e = .returned (.bool true) ∧ Below w.heap.size w w' := by
  by_cases hbig : 1048576 < n
  · go_enter Try.func4, Try.ntmps4
    go_wp2
    go_ret
    exact ⟨rfl, Below.refl _ _⟩
  go_enter Try.func4, Try.ntmps4
  go_wp2_with fail
  refine (drawSM_any A n c bs _ hb hn hc).mono ?_
  rintro e w1 ⟨A1, m, c1, qs, rfl, hd⟩
  have HD := hide hd
  obtain ⟨hd1, hm, hmc, hcm, hl, hB1⟩ := hd
  have hs1 := hB1.size
  have HV := hide fun q (hq : q ∈ qs) => Nat.le_trans (hl q hq) (show 100 ≤ 1000000000 by omega)
  have HF1 := hide hd1
  have HB1 := hide hB1
  have HP1 := hide (implSM A1 m c1 _ qs w1 hd1 (Nat.le_refl _) (by omega) HV.out)
  have HP2 := hide fun (W : World) (h : Below w1.heap.size w1 W) => specSM A1 m c1 _ qs W (hd1.below h (Nat.le_refl _)) h.size (by omega) HV.out
  clear hb hd1 hl hB1
  obtain ⟨r, hr⟩ : ∃ r, smap (fns qs) = r := ⟨_, rfl⟩
  unfold SmPost at HP1 HP2
  rw [hr] at HP1 HP2
  have HR := hide hr
  clear hr
  have hcm2 : c1 ≤ 9223372036854775807 := by unfold maxLen at hcm; omega
  rcases r with _ | rs
  · simp only [Option.isSome_none, Option.getD_none] at HP1 HP2
    go_wp2_with fail
    refine HP1.out.mono ?_
    rintro e w2 ⟨A2, m2, c2, rfl, ho2, hb2⟩
    obtain rfl : m2 = 0 := ho2.1.symm
    have HO2 := hide ho2
    have HW2 := hide hb2
    clear ho2 hb2 HP1
    go_wp2_with fail
    refine (HP2.out _ HW2.out).mono ?_
    rintro e w3 ⟨A3, m3, c3, rfl, ho3, hb3⟩
    obtain rfl : m3 = 0 := ho3.1.symm
    have HSM := hide fun (W : World) (h : Below w3.heap.size w3 W) => sameMap_yes A2 A3 0 c2 c3 _ _ [] W ((HO2.out.mpi.below hb3 (Nat.le_refl _)).below h hb3.size) (ho3.mpi.below h (Nat.le_refl _)) (by omega)
    have HEND := hide fun (W : World) (h : Below w3.heap.size w3 W) => HB1.out.trans ((HW2.out.trans (hb3.mono HW2.out.size)).trans (h.mono (Nat.le_trans HW2.out.size hb3.size)) |>.mono hs1)
    clear ho3 hb3 HP2
    go_wp2_with fail
    refine (HSM.out w3 (Below.refl _ _)).mono ?_
    rintro e w5 ⟨rfl, q5, rfl⟩
    have HB5 := hide (below_drewN (Below.refl w3.heap.size w3) q5)
    go_wp2_with fail
    refine (HSM.out _ HB5.out).mono ?_
    rintro e w6 ⟨rfl, q6, rfl⟩
    have HE := hide (HEND.out _ (below_drewN HB5.out q6))
    go_wp2
    go_ret
    exact ⟨rfl, by simpa using HE.out⟩
  · simp only [Option.isSome_some, Option.getD_some] at HP1 HP2
    have HRL := hide (smap_len HR.out)
    go_wp2_with fail
    refine HP1.out.mono ?_
    rintro e w2 ⟨A2, m2, c2, rfl, ho2, hb2⟩
    obtain rfl : m2 = 12 := ho2.1.symm.trans HRL.out
    have HO2 := hide ho2
    have HW2 := hide hb2
    clear ho2 hb2 HP1
    go_wp2_with fail
    refine (HP2.out _ HW2.out).mono ?_
    rintro e w3 ⟨A3, m3, c3, rfl, ho3, hb3⟩
    obtain rfl : m3 = 12 := ho3.1.symm.trans HRL.out
    have HX2 := hide (HO2.out.mpi.below hb3 (Nat.le_refl _))
    have HS23 := hide hb3.size
    have HSM := hide fun (W : World) (h : Below w3.heap.size w3 W) => sameMap_yes A2 A3 12 c2 c3 _ _ rs W (HX2.out.below h HS23.out) (ho3.mpi.below h (Nat.le_refl _)) (by omega)
    have HW3 := hide (HW2.out.trans (hb3.mono HW2.out.size))
    have HEND := hide fun (W : World) (h : Below w3.heap.size w3 W) => HB1.out.trans ((HW3.out.trans (h.mono HW3.out.size)).mono hs1)
    have HF3 := hide fun (W : World) (h : Below w3.heap.size w3 W) => (HF1.out.below HW3.out (Nat.le_refl _)).below h HW3.out.size
    have HS13 := hide HW3.out.size
    clear ho3 hb3 HP2
    go_wp2_with fail
    refine (HSM.out w3 (Below.refl _ _)).mono ?_
    rintro e w5 ⟨rfl, q5, rfl⟩
    have HB5 := hide (below_drewN (Below.refl w3.heap.size w3) q5)
    generalize w3.drewN q5 = w5 at *
    have hs5 := HB5.out.size
    have HP0 := hide fun (o : Obj) => implSM (some ⟨w5.heap.size, 0, none⟩) 0 0 _ [] (w5.alloc o) (Fnds.nil_ _ 0 _) (Nat.zero_le _) (by omega) (fun q hq => by simp at hq)
    have h0 : smap (fns []) = some new12 := rfl
    unfold SmPost at HP0
    rw [h0] at HP0
    simp only [Option.isSome_some, Option.getD_some] at HP0
    clear h0
    go_wp2_with fail
    refine (HP0.out _).mono ?_
    rintro e w6 ⟨A6, m6, c6, rfl, ho6, hb6⟩
    obtain rfl : m6 = 12 := ho6.1.symm
    have HB6 := hide ((HB5.out.alloc hs5 (.cells #[] 34)).trans (hb6.mono (by simp; omega)))
    have HMT := hide (implMT A6 12 c6 _ new12 0 w6 ho6.mpi (Nat.le_refl _) (by omega))
    unfold ListPost at HMT
    clear ho6 hb6 HP0
    go_wp2_with fail
    refine HMT.out.mono ?_
    rintro e w7 ⟨A8, m8, c8, rfl, ho8, hb8⟩
    have hm8 : m8 = 12 := ho8.1.symm.trans tier_new
    subst hm8
    have HB7 := hide (HB6.out.trans (hb8.mono HB6.out.size))
    clear ho8 hb8
    by_cases hm0 : m = 0
    · subst hm0
      have HE := hide (HEND.out _ HB7.out)
      go_wp2
      go_ret
      exact ⟨rfl, HE.out⟩
    · have hmz : ((m : Int) == 0) = false := by simp; omega
      obtain ⟨k, hk⟩ : ∃ k, m = k + 1 := ⟨m - 1, by omega⟩
      have kw : IntKind.i64.wrap ((m : Int) - 1) = (k : Int) := IntWalk.i64_in _ (by omega) |>.trans (by omega)
      obtain ⟨q, hq⟩ : ∃ q, qs[k]? = some q := ⟨_, List.getElem?_eq_getElem (by rw [HF1.out.1]; omega)⟩
      have hkm1 : (k : Int) < (m : Int) := by omega
      have hk0 : (0 : Int) ≤ (k : Int) := by omega
      have HTW := hide (twice_of hq (by rw [HF1.out.1]; exact hk))
      have HQ := hide hq
      have hR := HF3.out w7 HB7.out
      obtain ⟨ad, p, rfl, hp, hpb, d0, d1, d2, d3, d4⟩ := hR.at_ HQ.out
      clear hq hk hR
      have hs7 : w1.heap.size ≤ w7.heap.size := Nat.le_trans HS13.out HB7.out.size
      obtain ⟨qz, qa, qk, qs_, qv, qp, qc⟩ := q
      simp only [Fq.sl] at d0 d1 d2 d3 d4
      have hbp : p.block < w7.heap.size := by omega
      have HQL := hide HF1.out.1
      have HSRC : Hid (∀ V : World, Below w7.heap.size w7 V → (0 < m → ∃ ad', some ad = some ad' ∧ ∀ j u, (flatF qs)[j]? = some u → V.cell? (ad'.add j) = some u)) := fun V hV hm => by
        obtain ⟨ad', e, hb, hc⟩ := ((HF3.out w7 HB7.out).below hV hs7).2.1 hm
        exact ⟨ad', e, hc⟩
      have HCALL : Hid (∀ (A4 : Option Addr) (c4 : Nat) (w9 : World), RowF w9 w7.heap.size A4 (m + 1) c4 (qs ++ [⟨qz, qa, qk, qs_, qv, qp, qc⟩]) → Below w7.heap.size w7 w9 → Calls Try.prog 8 #[.slice A4 (m + 1) c4] w9 (SmPost w9 none)) := fun A4 c4 w9 hr hb => by
        have hF := HF3.out w9 (HB7.out.trans (hb.mono HB7.out.size))
        have hbod : Bods w9 w9.heap.size (qs ++ [⟨qz, qa, qk, qs_, qv, qp, qc⟩]) := fun r hr' => by
          have hmem : r ∈ qs := by
            simp only [List.mem_append, List.mem_singleton] at hr'
            rcases hr' with h | rfl
            · exact h
            · exact List.mem_of_getElem? HQ.out
          obtain ⟨h1, h2⟩ := hF.2.2 r hmem
          exact ⟨h1.more (Nat.le_trans hs7 hb.size), h2⟩
        have h := implSM A4 (m + 1) c4 _ (qs ++ [⟨qz, qa, qk, qs_, qv, qp, qc⟩]) w9 (hr.fnds hbod) (Nat.le_refl _) (by omega) (fun r hr' => by
          simp only [List.mem_append, List.mem_singleton] at hr'
          rcases hr' with h | rfl
          · exact HV.out r h
          · exact HV.out _ (List.mem_of_getElem? HQ.out))
        rwa [HTW.out] at h
      unfold SmPost at HCALL
      simp only [Option.isSome_none, Option.getD_none] at HCALL
      have HENT := hide (show ∀ args w, (callFunc 8 args).run Try.prog w = .ok (.enter 8 args) w from enters_of Try.func8 (by kernel_rfl) rfl)
      have hk9 : 0 + m ≤ 100000000000 := by omega
      have hk1 : m + 1 ≤ 100000000000 := by omega
      have hzA : ∀ o : Obj, w7.heap.size ≤ (w7.alloc o).drew.heap.size := fun o => by show _ ≤ (w7.alloc o).heap.size; simp
      have hzB : ∀ o o' : Obj, w7.heap.size ≤ ((w7.alloc o).alloc o').drew.heap.size := fun o o' => by show _ ≤ ((w7.alloc o).alloc o').heap.size; simp; omega
      clear HQ
      go_upto_region 13 with (fail)
      go_region_law (first
        | (refine step_append_rowF ?_ (.tmp 65) (.tmp 66) ?_ w7.heap.size 0 0 m c1 (some ⟨w7.heap.size, 0, none⟩) (some ad) [] qs ?_ ?_ ?_ ?_ ?_ ?_ ?_ ?_; rfl; rfl; rfl; rfl; exact (RowF.lit0 w7 _ (Nat.le_refl _)).drew_; exact HQL.out; exact HSRC.out _ (belA w7 _); exact hk9; exact hzA _; intro A3 c3 w8 ho3 hg3 hat3; simp only [Nat.zero_add, List.nil_append] at ho3 hat3 ⊢; have HRW := hide ho3; have HB8 := hide ((belA w7 _).grown hg3 (hzA _) (own_ge (by omega))); have e0 := (HB8.out.cell (p := p) hbp).trans d0; have e1 := (HB8.out.cell (p := ⟨p.block, p.off + 1, none⟩) hbp).trans d1; have e2 := (HB8.out.cell (p := ⟨p.block, p.off + 2, none⟩) hbp).trans d2; have e3 := (HB8.out.cell (p := ⟨p.block, p.off + 3, none⟩) hbp).trans d3; have e4 := (HB8.out.cell (p := ⟨p.block, p.off + 4, none⟩) hbp).trans d4;  have hz3 : w7.heap.size ≤ w8.heap.size := HB8.out.size; have hz4 : ∀ o : Obj, w7.heap.size ≤ (w8.alloc o).heap.size := fun o => Nat.le_trans hz3 (size_le_alloc _ _); clear hat3 hg3 ho3)
        | (refine step_append_rowF ?_ (.tmp 65) (.tmp 66) ?_ w7.heap.size 0 0 m c1 (some ⟨w7.heap.size, 0, none⟩) (some ad) [] qs ?_ ?_ ?_ ?_ ?_ ?_ ?_ ?_; rfl; rfl; rfl; rfl; exact ((RowF.lit0 w7 _ (Nat.le_refl _)).alloc _).drew_; exact HQL.out; exact HSRC.out _ (belB w7 _ _); exact hk9; exact hzB _ _; intro A3 c3 w8 ho3 hg3 hat3; simp only [Nat.zero_add, List.nil_append] at ho3 hat3 ⊢; have HRW := hide ho3; have HB8 := hide ((belB w7 _ _).grown hg3 (hzB _ _) (own_ge (by omega))); have HBX := hide (fndB w7 ⟨qz, qa, qk, qs_, qv, qp, qc⟩ hg3);  have hz3 : w7.heap.size ≤ w8.heap.size := HB8.out.size; have hz4 : ∀ o : Obj, w7.heap.size ≤ (w8.alloc o).heap.size := fun o => Nat.le_trans hz3 (size_le_alloc _ _); clear hat3 hg3 ho3)
        | (refine step_append_rowF ?_ (.tmp 65) (.tmp 66) ?_ w7.heap.size 0 0 m c1 (some ⟨w7.heap.size + 1, 0, none⟩) (some ad) [] qs ?_ ?_ ?_ ?_ ?_ ?_ ?_ ?_; rfl; rfl; rfl; rfl; exact (rowC w7 _).drew_; exact HQL.out; exact HSRC.out _ (belB w7 _ _); exact hk9; exact hzB _ _; intro A3 c3 w8 ho3 hg3 hat3; simp only [Nat.zero_add, List.nil_append] at ho3 hat3 ⊢; have HRW := hide ho3; have HB8 := hide ((belB w7 _ _).grown hg3 (hzB _ _) (own_ge (by omega))); have HBX := hide (fndC w7 ⟨qz, qa, qk, qs_, qv, qp, qc⟩ hg3);  have hz3 : w7.heap.size ≤ w8.heap.size := HB8.out.size; have hz4 : ∀ o : Obj, w7.heap.size ≤ (w8.alloc o).heap.size := fun o => Nat.le_trans hz3 (size_le_alloc _ _); clear hat3 hg3 ho3)
        | (refine step_append_rowF ?_ (.tmp 67) (.tmp 74) ?_ w7.heap.size m c3 1 1 A3 (some ⟨w7.heap.size + 1, 0, none⟩) qs [⟨qz, qa, qk, qs_, qv, qp, qc⟩] ?_ ?_ ?_ ?_ ?_ ?_ ?_ ?_; rfl; rfl; rfl; rfl; exact HRW.out; rfl; exact fun _ => ⟨_, rfl, fun j u hu => (by rw [add_plain']; exact HBX.out j u (by rcases j with _ | _ | _ | _ | _ | j <;> first | exact hu | (simp [flatF] at hu)))⟩; exact hk1; exact hz3; intro A4 c4 w9 ho4 hg4 hat4; have HRW4 := hide ho4; have HB9 := hide ((HB8.out).grown hg4 (hz3) (fun b e => (HRW.out.block b e).1)); clear hat4 hg4 ho4)
        | (refine step_append_rowF ?_ (.tmp 67) (.tmp 74) ?_ w7.heap.size m c3 1 1 A3 (some ⟨w7.heap.size, 0, none⟩) qs [⟨qz, qa, qk, qs_, qv, qp, qc⟩] ?_ ?_ ?_ ?_ ?_ ?_ ?_ ?_; rfl; rfl; rfl; rfl; exact HRW.out; rfl; exact fun _ => ⟨_, rfl, fun j u hu => (by rw [add_plain']; exact HBX.out j u (by rcases j with _ | _ | _ | _ | _ | j <;> first | exact hu | (simp [flatF] at hu)))⟩; exact hk1; exact hz3; intro A4 c4 w9 ho4 hg4 hat4; have HRW4 := hide ho4; have HB9 := hide ((HB8.out).grown hg4 (hz3) (fun b e => (HRW.out.block b e).1)); clear hat4 hg4 ho4)
        | (refine step_append_rowF ?_ (.tmp 67) (.tmp 74) ?_ w7.heap.size m c3 1 1 A3 (some ⟨w8.heap.size, 0, none⟩) qs [⟨qz, qa, qk, qs_, qv, qp, qc⟩] ?_ ?_ ?_ ?_ ?_ ?_ ?_ ?_; rfl; rfl; rfl; rfl; exact HRW.out.alloc _; rfl; exact fun _ => ⟨_, rfl, fun j u hu => fnd_cells w8 ⟨qz, qa, qk, qs_, qv, qp, qc⟩ j u (by rcases j with _ | _ | _ | _ | _ | j <;> first | exact hu | (simp [flatF] at hu))⟩; exact hk1; exact hz4 _; intro A4 c4 w9 ho4 hg4 hat4; have HRW4 := hide ho4; have HB9 := hide ((HB8.out.alloc hz3 _).grown hg4 (hz4 _) (fun b e => (HRW.out.block b e).1)); clear hat4 hg4 ho4)
        | (refine step_callM ?_ 8 (.tmp 75) 23 ?_ HENT.out (.slice A4 (m + 1) c4) ?_ _ (HCALL.out _ _ _ HRW4.out HB9.out) ?_; rfl; rfl; rfl; rintro e w10 ⟨A5, m5, c5, rfl, ho5, hb10⟩; refine ⟨_, rfl, ?_⟩; have HB10 := hide (HB9.out.trans (hb10.mono HB9.out.size)); clear ho5 hb10))
      all_goals
        have HE := hide (HEND.out _ (HB7.out.trans (HB10.out.mono HB7.out.size)))
        go_wp2
        go_ret
        exact ⟨rfl, HE.out⟩
end Go.Proofs.Ytcocboigjfjnfab
