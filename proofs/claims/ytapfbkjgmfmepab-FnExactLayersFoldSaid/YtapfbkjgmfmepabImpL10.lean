/-
  slices.Delete over trees; the program's LayersFold.
-/
import Derived.Test.YtapfbkjgmfmepabImpLT
import Derived.Test.YtapfbkjgmfmepabLayT
import Derived.Shelf.SlicesE.Delete
import Derived.Lib.OwnBridge
import Derived.Deep.RegionHeld3
namespace Go.Proofs.Ytapfbkjgmfmepab
open Go.RowKit Go.Sort Go.Shelf
set_option linter.unusedVariables false
set_option maxRecDepth 100000

instance : Inhabited Tr := ⟨.nil⟩
def encT (t : Tr) : Value := .pointer t.pt
theorem set_cut {ls : List Ly} {a : Nat} (p : Ly) (h : a < ls.length) : (ls.set a p).take (a + 1) ++ (ls.set a p).drop (a + 2) = ls.take a ++ [p] ++ ls.drop (a + 2) := by
  have h1 : (ls.set a p).take (a + 1) = ls.take a ++ [p] := by
    rw [List.take_add_one, List.getElem?_set_self h, List.take_set_of_le (Nat.le_refl _)]
    rfl
  rw [h1, List.drop_set_of_lt (by omega)]

theorem flatMap_sub {xs ys : List Tr} (h : xs.Sublist ys) : (xs.flatMap Tr.ids).Sublist (ys.flatMap Tr.ids) := by
  induction h with
  | slnil => exact List.Sublist.refl _
  | cons a _ ih => rw [List.flatMap_cons]; exact ih.trans (List.sublist_append_right ..)
  | cons_cons a _ ih => rw [List.flatMap_cons, List.flatMap_cons]; exact (List.Sublist.refl _).append ih
theorem delT_any (base n c g k : Nat) (ts : List Tr) (w : World) (h : Trs w base (some ⟨g, 0, none⟩) n c ts) (hk : k + 1 ≤ n) (hn : n ≤ 1000000000) :
    Calls Try.prog 26 #[.slice (some ⟨g, 0, none⟩) n c, .int .i64 (k : Int), .int .i64 ((k + 1 : Nat) : Int)] w fun e w' =>
      e = .returned (.slice (some ⟨g, 0, none⟩) (n - 1) c) ∧ Trs w' base (some ⟨g, 0, none⟩) (n - 1) c (ts.take k ++ ts.drop (k + 1)) ∧ Below base w w' := by
  obtain ⟨i0, hi, hz0, hz1, hz2⟩ := info_parts pairPT.info
  have hrow : w.ownsRow base 47 1 (.slice (some ⟨g, 0, none⟩) n c) n (ts.map encT) := h.row
  obtain ⟨g', cap, he, hbg, hgl, hmc, hcm, hlen, hH⟩ := Lib.holds_of_ownsRow hrow (by intro e; injection e with e; cases e)
  injection he with e1 _ e3
  injection e1 with e1
  injection e1 with e1
  subst e1 e3
  have hz : ts.toArray.size = n := by simpa using hlen
  have hc := AnyE.slices_Delete delT encT (fun _ => rfl) .nil (fun w => Try.zeroValue47 w) i0 hi hz1 g 0 c k (k + 1) ts.toArray w hH (by omega) (by unfold maxLen at hcm; omega) (by omega) (by omega)
  rw [hz] at hc
  refine hc.mono ?_
  rintro e w' ⟨rfl, q, rfl⟩
  rw [show n - (k + 1 - k) = n - 1 by omega]
  have hp := Lib.ownsRow_putRow (enc := encT) (q := q) (k := n - 1) (ys := ts.take k ++ ts.drop (k + 1) ++ List.replicate (k + 1 - k) .nil) hrow (by simp; omega) (by omega)
  rw [List.take_left' (by simp; omega)] at hp
  have hkey : ∀ (D : Array Tr) (i : Nat), i ≠ g → (putRow encT (Sort.ahead w q) g 0 D).heap[i]? = w.heap[i]? := fun D i hi => by
    simp [putRow, mapBlock, Sort.ahead, Array.getElem?_modify, hi.symm]
  have hsub : (ts.take k ++ ts.drop (k + 1)).Sublist ts := by
    have h1 : (ts.take k ++ ts.drop (k + 1)).Sublist (ts.take k ++ ts.drop k) := (List.Sublist.refl _).append (by
      rw [show ts.drop (k + 1) = (ts.drop k).drop 1 by rw [List.drop_drop]]
      exact List.drop_sublist _ _)
    rwa [List.take_append_drop] at h1
  refine ⟨rfl, ⟨by simp; omega, hp, fun t ht => ?_, fun t ht => h.ge t (hsub.subset ht), ?_⟩, Lib.below_putRow (Below.refl _ _) hbg⟩
  · have ht' := hsub.subset ht
    exact (h.tri t ht').keep fun i hi => hkey _ i fun e => h.off g rfl t ht' (e ▸ hi)
  · exact h.nd.sublist (flatMap_sub hsub)

set_option maxHeartbeats 6400000 in
theorem implFold (A : Option Addr) (n c B : Nat) (qs : List Lq) (a : Int) (w : World) (hr : LyI w B A n qs) (hB : B ≤ w.heap.size) (hs : ∀ q ∈ qs, q.ps.length ≤ 1000000000) (hn : n ≤ 1000000000) :
    Calls Try.prog 8 #[.slice A n c, .int .i64 a] w (LysPost w (foV (lys qs) a) (foL (lys qs) a)) := by
  have hl := hr.1
  by_cases hv : laysV (lys qs) = true
  · have HT := hide (treesOf_yes A n c B qs w hr hB hv)
    have HV := hide hv
    have h15 := (laysV_iff.1 hv).2
    rw [lys_length, hl] at h15
    by_cases ha : 0 ≤ a ∧ a ≤ (n : Int) - 2
    · have hwv : foV (lys qs) a = true := by unfold foV; rw [hv, lys_length, hl, inB_iff.2 ha]; rfl
      obtain ⟨k, rfl⟩ : ∃ k : Nat, a = (k : Int) := ⟨a.toNat, by omega⟩
      have HN := hide (⟨hwv, by unfold foL; rw [hwv]; rfl⟩ : foV (lys qs) k = true ∧ foL (lys qs) k = (lys qs).take k ++ [overL ((lys qs).getD k []) ((lys qs).getD (k + 1) [])] ++ (lys qs).drop (k + 2))
      have HR := hide hr
      have HL := hide hl
      have hk1 : k + 1 < n := by omega
      obtain ⟨q, hq⟩ : ∃ q, qs[k + 1]? = some q := ⟨_, List.getElem?_eq_getElem (by omega)⟩
      have hqv : layV q.ps = true := (laysV_iff.1 hv).1 _ (List.mem_map_of_mem (List.mem_of_getElem? hq))
      have HQV := hide hqv
      have HQ := hide hq
      have HQD := hide (show (lys qs).getD (k + 1) [] = q.ps from lys_getD hq)
      have w1 : IntKind.i64.wrap ((n : Int) - 1) = (n : Int) - 1 := IntWalk.i64_in _ (by omega)
      have w2 : IntKind.i64.wrap ((k : Int) + 1) = (k : Int) + 1 := IntWalk.i64_in _ (by omega)
      have w3 : IntKind.i64.wrap ((k : Int) + 2) = (k : Int) + 2 := IntWalk.i64_in _ (by omega)
      have k0 : (0 : Int) ≤ (k : Int) := by omega
      have k1 : (k : Int) < (n : Int) - 1 := by omega
      have k2 : (k : Int) < (n : Int) := by omega
      have k3 : (k : Int) + 1 < (n : Int) := by omega
      have k4 : (0 : Int) ≤ (k : Int) + 1 := by omega
      have k5 : ((k : Int) + 1).toNat = k + 1 := by omega
      obtain ⟨ad, rfl, hba, hca⟩ := hr.at_ hq
      have hab : (ad.add (k + 1)).block < w.heap.size := by rw [block_of_add]; omega
      unfold Lq.sl at hca
      have hlq := hr.layer hq
      have HLQ := hide hlq
      have h12 := hide (layV_len hqv)
      clear hr hs hv hwv hq hqv hlq ha
      obtain ⟨qp, qa, qc⟩ := q
      simp only at hca HLQ HQV HQD h12
      generalize hqm : qp.length = qm at hca HLQ h12
      go_enter Try.func8, Try.ntmps8
      go_wp2_with fail
      refine HT.out.mono ?_
      rintro e w4 ⟨A2, c2, ts, rfl, ht2, he2, hb2⟩
      obtain ⟨g, rfl, hg1, hg2⟩ := ht2.shape (by omega)
      obtain ⟨t, ht⟩ : ∃ t, ts[k]? = some t := ⟨_, List.getElem?_eq_getElem (by rw [ht2.len]; omega)⟩
      have hc0 := ht2.cell ht
      have hcb : w4.cell? ⟨ad.block, ad.off + (k + 1), none⟩ = some (.slice qa qm qc) := by have h := (hb2.cell hab).trans hca; simpa [Addr.add] using h
      have htv : layV t.vals = true := (trees_valid ht2 he2 HV.out t (List.mem_of_getElem? ht)).2
      have HPA := hide (putAll_any t (w4.drewN 1) B qm qc qa qp ((ht2.tri t (List.mem_of_getElem? ht)).drewN 1) htv (flat_each ht2.nd (List.mem_of_getElem? ht)) ((HLQ.out.1.below hb2 hB).drewN 1) HQV.out (Nat.le_trans hB hb2.size) (fun i hi => Nat.le_trans hB (ht2.ge t (List.mem_of_getElem? ht) i hi)))
      have HTV := hide htv
      have HT3 := hide (ht2.drewN 1)
      have HTK := hide ht
      have HB2 := hide hb2
      have HE2 := hide he2
      have HDD := hide (show ∀ (w5 : World) (t' : Tr), TrI w5 t' → (∀ i ∈ t'.ids, i ∈ t.ids ∨ (w4.drewN 1).heap.size ≤ i) → t'.ids.Nodup → But t.ids (w4.drewN 1) w5 → _ from fun w5 t' i1 i3 i4 i5 => HT3.out.turn HTK.out i5 i1 i3 i4 HB2.out.size)
      clear hb2 ht2 htv ht he2 HT
      go_wp2_with fail
      go_region_with ((first
        | (go_at_call 24; refine HPA.out.mono ?_; rintro e w5 ⟨t', rfl, i1, i2, i3, i4, i5⟩; obtain ⟨z1, z2, z3⟩ := HDD.out w5 t' i1 i3 i4 i5)))
      all_goals
        have HT4 := hide z3
        have HB4 := hide (HB2.out.trans ((show Below w.heap.size w4 w5 from ⟨i5.os, i5.tape, i5.output, i5.size, fun i hi => i5.block i (Nat.lt_of_lt_of_le hi HB2.out.size) fun hm => by have := HT3.out.ge t (List.mem_of_getElem? HTK.out) i hm; omega⟩)))
        have HB5 := hide (HB4.out.setCell (p := ⟨g, k, none⟩) hg1 (.pointer t'.pt))
        have HTE := hide (tvs_set ts k t')
        have HV2 := hide i2
        clear z1 z2 z3 i1 i2 i3 i4 i5 HPA HDD HT3
        generalize hts : ts.set k t' = ts' at HT4 HTE
        have HTS := hide hts
        clear hts
        have HDL := hide (delT_any w.heap.size n c2 g (k + 1) ts' _ HT4.out (by omega) hn)
        rw [show ((k + 1 : Nat) : Int) = (k : Int) + 1 by omega, show ((k + 1 + 1 : Nat) : Int) = (k : Int) + 2 by omega] at HDL
        have HE4 := hide (show tvs (ts'.take (k + 1) ++ ts'.drop (k + 2)) = (lys qs).take k ++ [overL ((lys qs).getD k []) ((lys qs).getD (k + 1) [])] ++ (lys qs).drop (k + 2) from by
          rw [tvs_append, show tvs (ts'.drop (k + 2)) = (tvs ts').drop (k + 2) by unfold tvs; rw [List.map_drop], tvs_take, HTE.out, HV2.out, HE2.out, set_cut _ (by rw [lys_length, HL.out]; omega), putsL_over HTV.out HQV.out, HQD.out]
          rw [← HE2.out, tvs_getD HTK.out])
        have HV4 := hide (show ∀ p ∈ tvs (ts'.take (k + 1) ++ ts'.drop (k + 2)), layV p = true from fun p hp => by
          rw [HE4.out] at hp
          rcases List.mem_append.1 hp with hp | hp
          · rcases List.mem_append.1 hp with hp | hp
            · exact (laysV_iff.1 HV.out).1 p (List.mem_of_mem_take hp)
            · rw [List.mem_singleton] at hp
              rw [hp]
              exact overL_valid (laysV_getD HV.out _) (laysV_getD HV.out _)
          · exact (laysV_iff.1 HV.out).1 p (List.mem_of_mem_drop hp))
        go_wp2_with fail
        refine HDL.out.mono ?_
        rintro e w6 ⟨rfl, ht6, hb6⟩
        have HB6 := hide (HB5.out.trans hb6)
        have HLO := hide (layersOf_any _ (n - 1) c2 w.heap.size _ w6 ht6 (tvs_len12 HV4.out) (by omega))
        clear ht6 hb6 HDL
        go_wp2_with fail
        refine HLO.out.mono ?_
        rintro e w7 ⟨A7, c7, q7, rfl, ho7, he7, hb7⟩
        have HO7 := hide (ho7.mono HB6.out.size)
        have HB7 := hide (HB6.out.trans (hb7.mono HB6.out.size))
        have HE7 := hide (he7.trans HE4.out)
        clear ho7 he7 hb7 HLO
        go_wp2
        go_ret2
        exact ⟨A7, n - 1, c7, q7, by rw [HN.out.1]; rfl, HO7.out, by rw [HN.out.2, HE7.out], HB7.out⟩
    · have hwv : foV (lys qs) a = false := by
        rcases h : foV (lys qs) a with _ | _
        · rfl
        · unfold foV at h
          rw [hv, Bool.true_and, inB_iff, lys_length, hl] at h
          exact absurd h ha
      have HN := hide (⟨hwv, by unfold foL; rw [hwv]; rfl⟩ : foV (lys qs) a = false ∧ foL (lys qs) a = [])
      have w1 : IntKind.i64.wrap ((n : Int) - 1) = (n : Int) - 1 := IntWalk.i64_in _ (by omega)
      clear hr hs hv hwv
      by_cases a0 : a < 0
      · go_enter Try.func8, Try.ntmps8
        go_wp2_with fail
        refine HT.out.mono ?_
        rintro e w2 ⟨A2, c2, ts, rfl, ht2, he2, hb2⟩
        have HB2 := hide hb2
        clear ht2 hb2 he2
        go_wp2
        go_ret2
        exact LysPost.no HN.out.1 HN.out.2 HB2.out
      · have a1 : (n : Int) - 1 ≤ a := by omega
        clear ha
        go_enter Try.func8, Try.ntmps8
        go_wp2_with fail
        refine HT.out.mono ?_
        rintro e w2 ⟨A2, c2, ts, rfl, ht2, he2, hb2⟩
        have HB2 := hide hb2
        clear ht2 hb2 he2
        go_wp2
        go_ret2
        exact LysPost.no HN.out.1 HN.out.2 HB2.out
  · have hv' : laysV (lys qs) = false := by simpa using hv
    have HT := hide (treesOf_no A n c B qs w hr hB hs hn hv')
    have hsv : foV (lys qs) a = false := by unfold foV; rw [hv']; rfl
    have HN := hide (⟨hsv, by unfold foL; rw [hsv]; rfl⟩ : foV (lys qs) a = false ∧ foL (lys qs) a = [])
    clear hr hs hv hv' hsv
    go_enter Try.func8, Try.ntmps8
    go_wp2_with fail
    refine HT.out.mono ?_
    rintro e w2 ⟨rfl, hb2⟩
    have HB2 := hide hb2
    clear hb2
    go_wp2
    go_ret2
    exact LysPost.no HN.out.1 HN.out.2 HB2.out
end Go.Proofs.Ytapfbkjgmfmepab
