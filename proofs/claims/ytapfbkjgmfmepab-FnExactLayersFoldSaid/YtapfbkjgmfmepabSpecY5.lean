/-
  The model's LayersFold, LayersDiff.
-/
import Derived.Test.YtapfbkjgmfmepabSpecY4T
import Derived.Deep.RegionHeld3
namespace Go.Proofs.Ytapfbkjgmfmepab
open Go.RowKit
set_option linter.unusedVariables false
set_option maxRecDepth 100000

theorem NewL.two {w : World} {base b2 n c m d : Nat} {A X : Option Addr} {qs q2 : List Lq} (h : OwnL w base A n c qs) (h2 : OwnL w b2 X m d q2) (hb : base ≤ b2) (hlt : ∀ (k : Nat) (r : Lq), qs[k]? = some r → ∀ g, r.sl.ownBlock = some g → g < b2) : NewL w base n A c qs X m q2 where
  own := h
  len := h2.len
  src hm := by
    obtain ⟨ad, e, _, hc⟩ := h2.lyi.2.1 hm
    exact ⟨ad, e, hc⟩
  news k q hk := (h2.own k q hk).mono hb
  sep2 := h2.sep
  sep k j r q hr hq g hg hg2 := by
    have h1 := hlt k r hr g hg
    have h3 := (h2.wblock hq g hg2).1
    omega
theorem wp_append_lysY {w : World} {ops : Array Oper} {o : Oper} {a : Act} {K : Act → World → Prop} {Q : Exit → Act → World → Prop} {E : Prop} (hgd : o.guard = none) (s x : Operand)
    (ho : o.op = .call { callee := .builtin .append, args := #[s, x], argTypes := #[24, 24] })
    (base n c m d : Nat) (A X : Option Addr) (qs q2 : List Lq) (hs : a.eval s = .slice A n c) (hx : a.eval x = .slice X m d) (hnew : NewL w base n A c qs X m q2)
    (hn : n + m ≤ 100000000000) (hbase : base ≤ w.heap.size)
    (h : ∀ A2 c2 w', OwnL w' base A2 (n + m) c2 (qs ++ q2) → w.grownBy w' (Value.slice A n c).ownBlock → K (a.put o.dst (.slice A2 (n + m) c2)) w') :
    if Region.wanted o (yielded ops a.tmps) = true then Oper.wp Try.prog o a w K Q else E :=
  step_append_lys hgd s x ho base n c m d A X qs q2 hs hx hnew hn hbase fun A2 c2 w' h1 h2 _ => h A2 c2 w' h1 h2

set_option maxHeartbeats 6400000 in
theorem specFold (A : Option Addr) (n c B : Nat) (qs : List Lq) (a : Int) (w : World) (hr : LyI w B A n qs) (hB : B ≤ w.heap.size) (hs : ∀ q ∈ qs, q.ps.length ≤ 1000000000) (hn : n ≤ 1000000000) (hnc : n ≤ c) (hcm : c ≤ maxLen) :
    Calls Try.prog 6 #[.slice A n c, .int .i64 a] w (LysPostY w (foV (lys qs) a) (foL (lys qs) a)) := by
  have hl := hr.1
  have HV := hide (specLays A n c B qs w hr hs hn)
  have w2' : IntKind.i64.wrap ((n : Int) - 2) = (n : Int) - 2 := IntWalk.i64_in _ (by omega)
  rcases hv : laysV (lys qs) with _ | _
  · have hsv : foV (lys qs) a = false := by unfold foV; rw [hv]; rfl
    have HN := hide (⟨hsv, by unfold foL; rw [hsv]; rfl⟩ : foV (lys qs) a = false ∧ foL (lys qs) a = [])
    rw [hv] at HV
    clear hr hs hv hsv
    go_enter Try.func6, Try.ntmps6
    go_wp2_with fail
    refine HV.out.mono ?_
    rintro e w2 ⟨rfl, z, rfl⟩
    have HB2 := hide (below_drewN (Below.refl w.heap.size w) z)
    go_wp2
    go_ret2
    exact LysPostY.no HN.out.1 HN.out.2 HB2.out
  · rw [hv] at HV
    rcases ha : inB a 0 ((n : Int) - 2) with _ | _
    · have hsv : foV (lys qs) a = false := by unfold foV; rw [lys_length, hl, ha, Bool.and_false]
      have HN := hide (⟨hsv, by unfold foL; rw [hsv]; rfl⟩ : foV (lys qs) a = false ∧ foL (lys qs) a = [])
      have HA := hide ha
      clear hr hs hv hsv ha
      go_enter Try.func6, Try.ntmps6
      go_wp2_with fail
      refine HV.out.mono ?_
      rintro e w2 ⟨rfl, z, rfl⟩
      go_wp2_with fail
      refine (in_no _ _ _ _ HA.out).mono ?_
      rintro e w' ⟨rfl, rfl⟩
      have HB2 := hide (below_drewN (Below.refl w.heap.size w) z)
      go_wp2
      go_ret2
      exact LysPostY.no HN.out.1 HN.out.2 HB2.out
    · have hsv : foV (lys qs) a = true := by unfold foV; rw [lys_length, hl, ha, hv]; rfl
      have HA := hide ha
      obtain ⟨a0, a1⟩ := inB_iff.1 ha
      obtain ⟨k, rfl⟩ : ∃ k : Nat, a = (k : Int) := ⟨a.toNat, by omega⟩
      have hk1 : k + 1 < n := by omega
      have HN := hide (⟨hsv, by unfold foL; rw [hsv]; rfl⟩ : foV (lys qs) k = true ∧ foL (lys qs) k = (lys qs).take k ++ [overL ((lys qs).getD k []) ((lys qs).getD (k + 1) [])] ++ (lys qs).drop (k + 2))
      have HL := hide hl
      have HR := hide hr
      have HS := hide hs
      obtain ⟨q1, hq1⟩ : ∃ q, qs[k]? = some q := ⟨_, List.getElem?_eq_getElem (by omega)⟩
      obtain ⟨q2, hq2⟩ : ∃ q, qs[k + 1]? = some q := ⟨_, List.getElem?_eq_getElem (by omega)⟩
      have HQ1 := hide (show q1.ps = (lys qs).getD k [] from (lys_getD hq1).symm)
      have HQ2 := hide (show q2.ps = (lys qs).getD (k + 1) [] from (lys_getD hq2).symm)
      have HS1 := hide (hs q1 (List.mem_of_getElem? hq1))
      have HS2 := hide (hs q2 (List.mem_of_getElem? hq2))
      have HL1 := hide (hr.layer hq1).1
      have HL2 := hide (hr.layer hq2).1
      obtain ⟨ad, rfl, hba, hc1⟩ := hr.at_ hq1
      obtain ⟨ad', had, _, hc2⟩ := hr.at_ hq2
      injection had with had
      subst had
      unfold Lq.sl at hc1 hc2
      have hc2' : w.cell? ⟨ad.block, ad.off + (k + 1), none⟩ = some (.slice q2.addr q2.ps.length q2.cap) := by simpa [Addr.add] using hc2
      have hbl : (ad.add k).block < w.heap.size := by rw [block_of_add]; omega
      have hbl2 : ad.block < w.heap.size := by omega
      have k0 : (0 : Int) ≤ (k : Int) := by omega
      have k1 : (k : Int) < (n : Int) := by omega
      have k2 : (k : Int) ≤ (c : Int) := by omega
      have k3 : (k : Int) + 1 < (n : Int) := by omega
      have k4 : (0 : Int) ≤ (k : Int) + 1 := by omega
      have k5 : ((k : Int) + 1).toNat = k + 1 := by omega
      have w1 : IntKind.i64.wrap ((k : Int) + 1) = (k : Int) + 1 := IntWalk.i64_in _ (by omega)
      have w2 : IntKind.i64.wrap ((k : Int) + 2) = (k : Int) + 2 := IntWalk.i64_in _ (by omega)
      have i3 : (0 : Int) ≤ (k : Int) + 2 := by omega
      have i4 : (k : Int) + 2 ≤ (n : Int) := by omega
      have t1 : ((k : Int) + 2).toNat = k + 2 := by omega
      have t2 : ((n : Int) - ((k : Int) + 2)).toNat = n - (k + 2) := by omega
      have t3 : ((c : Int) - ((k : Int) + 2)).toNat = c - (k + 2) := by omega
      have HCA := hide fun (W : World) (h : Below w.heap.size w W) => specCopy (some ad) k c B (qs.take k) W ((hr.firsts (m := k) (by omega)).below h hB) (Nat.le_trans hB h.size) (fun q hq => hs q (List.mem_of_mem_take hq)) (by omega)
      have hcut := hr.cut (k := k + 2) (m := n) (by omega) (Nat.le_refl _) hnc
      rw [List.take_of_length_le (by omega)] at hcut
      have HCB1 := hide fun (W : World) (h : Below w.heap.size w W) (hne : ¬ c = k + 2) => by
        have h1 := specCopy _ (n - (k + 2)) (c - (k + 2)) B (qs.drop (k + 2)) W (hcut.below h hB) (Nat.le_trans hB h.size) (fun q hq => hs q (List.mem_of_mem_drop hq)) (by omega)
        rw [if_neg hne, Option.map_some, show ad.add (k + 2) = ⟨ad.block, ad.off + (k + 1 + 1), none⟩ by simp [Addr.add]] at h1
        exact h1
      have HCB2 := hide fun (W : World) (h : Below w.heap.size w W) (he : c = k + 2) => by
        have h1 := specCopy _ (n - (k + 2)) 0 B (qs.drop (k + 2)) W (hcut.below h hB) (Nat.le_trans hB h.size) (fun q hq => hs q (List.mem_of_mem_drop hq)) (by omega)
        rw [if_pos he] at h1
        exact h1
      clear hr hs hv hsv ha hq1 hq2 hcut hc2
      go_enter Try.func6, Try.ntmps6
      go_wp2_with fail
      refine HV.out.mono ?_
      rintro e w2 ⟨rfl, z, rfl⟩
      go_wp2_with fail
      refine (in_yes _ _ _ _ HA.out).mono ?_
      rintro e w' ⟨rfl, rfl⟩
      have hbz := below_drewN (Below.refl w.heap.size w) z
      go_wp2_with fail
      refine (HCA.out _ hbz).mono ?_
      rintro e w3 ⟨A3, c3, rs, rfl, ho3', he3, hb3'⟩
      have hb3 : Below w.heap.size w w3 := ⟨hb3'.os, hb3'.tape, hb3'.output, hb3'.size, hb3'.block⟩
      have ho3 : OwnL w3 w.heap.size A3 k c3 rs := ho3'
      have HB3 := hide hb3
      have HO3 := hide (ho3.drewN 1)
      have HE3 := hide he3
      have d1 := (hb3.cell hbl).trans hc1
      have d2 := (hb3.cell (p := ⟨ad.block, ad.off + (k + 1), none⟩) hbl2).trans hc2'
      have hs3 := hb3.size
      have HOV := hide (specOver q1.addr q2.addr q1.ps.length q1.cap q2.ps.length q2.cap B q1.ps q2.ps (w3.drewN 1) ((HL1.out.below hb3 hB).drewN 1) ((HL2.out.below hb3 hB).drewN 1) (Nat.le_trans hB hb3.size) HS1.out HS2.out)
      have CC := hide fun (W : World) (h : Below w.heap.size w W) => (⟨(h.cell hbl).trans hc1, (h.cell (p := ⟨ad.block, ad.off + (k + 1), none⟩) hbl2).trans hc2'⟩ : W.cell? (ad.add k) = some (.slice q1.addr q1.ps.length q1.cap) ∧ W.cell? ⟨ad.block, ad.off + (k + 1), none⟩ = some (.slice q2.addr q2.ps.length q2.cap))
      clear hb3 hb3' ho3 ho3' he3 HL1 HL2 hc1 hc2'
      go_wp2_with fail
      go_region_held3 (fun W => W.cell? (ad.add k) = some (.slice q1.addr q1.ps.length q1.cap) ∧ W.cell? ⟨ad.block, ad.off + (k + 1), none⟩ = some (.slice q2.addr q2.ps.length q2.cap))
        (first
          | (exact CC.out _ HB6.out)
          | (exact CC.out _ HB5.out)
          | (exact CC.out _ HB4.out)
          | go_keep)
        ((first
          | (go_at_call 21; refine HOV.out.mono ?_; rintro e w4 ⟨A4, j, c4, rfl, hp4, hb4⟩; obtain rfl := hp4.1; have hb4' : Below w3.heap.size w3 w4 := ⟨hb4.os, hb4.tape, hb4.output, hb4.size, hb4.block⟩; have HB4 := hide (HB3.out.trans (hb4'.mono hs3)); have hp4' : PrR w4 w3.heap.size A4 (overL q1.ps q2.ps).length c4 (overL q1.ps q2.ps) := hp4; have ho4 : OwnL w4 w.heap.size A3 k c3 rs := HO3.out.below hb4; have HNEW := hide (NewL.one ho4 (q := ⟨overL q1.ps q2.ps, A4, c4⟩) (hp4'.mono hs3) (HO3.out.fresh hp4)); have HB5 := hide (HB4.out.alloc HB4.out.size (.cells #[(Lq.mk (overL q1.ps q2.ps) A4 c4).sl] 41)))
          | (refine wp_append_lysY ?_ (.tmp 23) (.tmp 34) ?_ w.heap.size k c3 1 1 A3 (some ⟨w4.heap.size, 0, none⟩) rs [⟨overL q1.ps q2.ps, A4, c4⟩] ?_ ?_ ?_ ?_ ?_ ?_; rfl; rfl; rfl; rfl; exact HNEW.out; omega; exact HB5.out.size; intro A6 c6 w6 ho6 hg6; have HB6 := hide (HB5.out.grown hg6 HB5.out.size fun g hg => (HO3.out.block g hg).1))))
      have HO6 := hide ho6
      have HLT := hide fun (i : Nat) (r : Lq) (hi : (rs ++ [⟨overL q1.ps q2.ps, A4, c4⟩])[i]? = some r) (g : Nat) (hg : r.sl.ownBlock = some g) => (ho6.wblock hi g hg).2
      have HE6 := hide (show lys (rs ++ [⟨overL q1.ps q2.ps, A4, c4⟩]) = (lys qs).take k ++ [overL ((lys qs).getD k []) ((lys qs).getD (k + 1) [])] by
        rw [lys_append, HE3.out, lys_take]
        show _ ++ [overL q1.ps q2.ps] = _
        rw [HQ1.out, HQ2.out])
      have hs6 := HB6.out.size
      clear ho6 hg6 hb4 hp4 hb4' hp4' ho4 HNEW HB5 HB4 HOV HO3 CC d1 d2
      go_wp2_with fail
      all_goals first
        | (have hne : ¬ c = k + 2 := by assumption
           refine (HCB1.out _ HB6.out hne).mono ?_)
        | (refine (HCB2.out _ HB6.out (by assumption)).mono ?_)
      all_goals
        rintro e w7 ⟨A7, c7, r7, rfl, ho7, he7, hb7⟩
        have HB7 := hide (HB6.out.trans (hb7.mono hs6))
        have HO67 := hide (HO6.out.below hb7)
        have HNEW := hide (NewL.two HO67.out ho7 hs6 HLT.out)
        have HE7 := hide he7
        clear ho7 he7 hb7
        go_wp2_with (at_builtin; refine wpList_append_lys rfl (.tmp 36) (.tmp 41) rfl w.heap.size (k + 1) c6 (n - (k + 2)) c7 A6 A7 _ r7 rfl rfl HNEW.out (by omega) HB7.out.size ?_; intro A8 c8 w8 ho8 hg8 hat8; clear hat8)
        have HO8 := hide ho8
        have HB8 := hide (HB7.out.grown hg8 HB7.out.size fun g hg => (HO67.out.block g hg).1)
        have HE8 := hide (show lys ((rs ++ [⟨overL q1.ps q2.ps, A4, c4⟩]) ++ r7) = (lys qs).take k ++ [overL ((lys qs).getD k []) ((lys qs).getD (k + 1) [])] ++ (lys qs).drop (k + 2) by
          rw [lys_append, HE6.out, HE7.out, lys_drop])
        clear ho8 hg8
        go_wp2
        go_ret2
        exact ⟨A8, _, c8, _, by rw [HN.out.1]; rfl, HO8.out, by rw [HN.out.2, HE8.out], HB8.out⟩
end Go.Proofs.Ytapfbkjgmfmepab
