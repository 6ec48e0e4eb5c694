/-
  The program's LayersRead, LayersSnap, LayersWrite.
-/
import Derived.Test.YtapfbkjgmfmepaaImpLT
namespace Go.Proofs.Ytapfbkjgmfmepaa
open Go.RowKit Go.Shelf
set_option linter.unusedVariables false
set_option maxRecDepth 100000

set_option maxHeartbeats 3200000 in
theorem implRead (A : Option Addr) (n c B : Nat) (qs : List Lq) (b : Int) (w : World) (hr : LyI w B A n qs) (hB : B ≤ w.heap.size) (hs : ∀ q ∈ qs, q.ps.length ≤ 1000000000) (hn : n ≤ 1000000000) :
    Calls Try.prog 16 #[.slice A n c, .int .i64 b] w fun e w' => e = .returned (.int .i64 (rdL (lys qs) b)) ∧ Below w.heap.size w w' := by
  have hl := hr.1
  by_cases hv : laysV (lys qs) = true
  · have HT := hide (treesOf_yes A n c B qs w hr hB hv)
    have HV := hide hv
    have h5 := (laysV_iff.1 hv).2.2
    rw [lys_length, hl] at h5
    by_cases hb : 0 ≤ b ∧ b ≤ 11
    · have HE := hide (show rdL (lys qs) b = readN (lys qs) b n by unfold rdL; rw [hv, lys_length, hl, inB_iff.2 hb]; rfl)
      obtain ⟨b0, b1⟩ := hb
      have b2 : b < 12 := by omega
      clear hr hs hv
      go_enter Try.func16, Try.ntmps16
      go_wp2_with fail
      refine HT.out.mono ?_
      rintro e w2 ⟨A2, c2, ts, rfl, ht2, he2, hb2⟩
      have HVA := hide (value_any A2 n c2 ts b w2 ht2.pti (trees_valid ht2 he2 HV.out) hn)
      rw [he2] at HVA
      have HB2 := hide hb2
      clear ht2 hb2 he2
      go_wp2_with fail
      refine HVA.out.mono ?_
      rintro e w3 ⟨rfl, hb3⟩
      have HB3 := hide (HB2.out.trans (hb3.mono HB2.out.size))
      clear hb3
      go_wp2
      go_ret
      exact ⟨ret_int HE.out.symm, HB3.out⟩
    · have HE := hide (show rdL (lys qs) b = -1 by unfold rdL; rw [hv, show inB b 0 11 = false from by rcases h : inB b 0 11 with _ | _; rfl; exact absurd (inB_iff.1 h) hb]; rfl)
      clear hr hs hv
      by_cases b0 : b < 0
      · go_enter Try.func16, Try.ntmps16
        go_wp2_with fail
        refine HT.out.mono ?_
        rintro e w2 ⟨A2, c2, ts, rfl, ht2, he2, hb2⟩
        have HB2 := hide hb2
        clear ht2 hb2 he2
        go_wp2
        go_ret
        exact ⟨ret_int HE.out.symm, HB2.out⟩
      · have b1 : 12 ≤ b := by omega
        clear hb
        go_enter Try.func16, Try.ntmps16
        go_wp2_with fail
        refine HT.out.mono ?_
        rintro e w2 ⟨A2, c2, ts, rfl, ht2, he2, hb2⟩
        have HB2 := hide hb2
        clear ht2 hb2 he2
        go_wp2
        go_ret
        exact ⟨ret_int HE.out.symm, HB2.out⟩
  · have hv' : laysV (lys qs) = false := by simpa using hv
    have HT := hide (treesOf_no A n c B qs w hr hB hs hn hv')
    have HE := hide (show rdL (lys qs) b = -1 by unfold rdL; rw [hv']; rfl)
    clear hr hs hv hv'
    go_enter Try.func16, Try.ntmps16
    go_wp2_with fail
    refine HT.out.mono ?_
    rintro e w2 ⟨rfl, hb2⟩
    have HB2 := hide hb2
    clear hb2
    go_wp2
    go_ret
    exact ⟨ret_int HE.out.symm, HB2.out⟩

set_option maxHeartbeats 3200000 in
theorem implSnap (A : Option Addr) (n c B : Nat) (qs : List Lq) (w : World) (hr : LyI w B A n qs) (hB : B ≤ w.heap.size) (hs : ∀ q ∈ qs, q.ps.length ≤ 1000000000) (hn : n ≤ 1000000000) :
    Calls Try.prog 24 #[.slice A n c] w (LysPost w (snV (lys qs)) (snL (lys qs))) := by
  have hl := hr.1
  by_cases hv : laysV (lys qs) = true
  · have HT := hide (treesOf_yes A n c B qs w hr hB hv)
    have HV := hide hv
    have h5 := (laysV_iff.1 hv).2.2
    rw [lys_length, hl] at h5
    by_cases hb : n = 5
    · subst hb
      have hsv : snV (lys qs) = false := by unfold snV; rw [lys_length, hl]; simp
      have HN := hide (⟨hsv, by unfold snL; rw [hsv]; rfl⟩ : snV (lys qs) = false ∧ snL (lys qs) = [])
      clear hr hs hv hsv
      go_enter Try.func24, Try.ntmps24
      go_wp2_with fail
      refine HT.out.mono ?_
      rintro e w2 ⟨A2, c2, ts, rfl, ht2, he2, hb2⟩
      have HB2 := hide hb2
      clear ht2 hb2 he2
      go_wp2
      go_ret2
      exact LysPost.no HN.out.1 HN.out.2 HB2.out
    · have hsv : snV (lys qs) = true := by unfold snV; rw [lys_length, hl, hv]; simp [hb]
      have HN := hide (⟨hsv, by unfold snL; rw [hsv]; rfl⟩ : snV (lys qs) = true ∧ snL (lys qs) = lys qs ++ [[]])
      have h5' : ((n : Int) == 5) = false := by simp; omega
      clear hr hs hv hsv hb
      go_enter Try.func24, Try.ntmps24
      go_wp2_with fail
      refine HT.out.mono ?_
      rintro e w2 ⟨A2, c2, ts, rfl, ht2, he2, hb2⟩
      have HB2 := hide (hb2.alloc hb2.size (.cells #[.pointer none] 69))
      have HNEW := hide (show NewTr (w2.alloc (.cells #[.pointer none] 69)) w.heap.size n A2 c2 ts w2.heap.size .nil from
        ⟨ht2.alloc _, Blk.new w2 _ _, trivial, by simp [Tr.ids], by simp [Tr.ids], by simp [Tr.ids]⟩)
      have HV2 := hide (show ∀ p ∈ tvs (ts ++ [.nil]), layV p = true from fun p hp => by
        rw [tvs_append, he2] at hp
        rcases List.mem_append.1 hp with hp | hp
        · exact (laysV_iff.1 HV.out).1 p hp
        · rw [show p = [] from by simpa [tvs, Tr.vals] using hp]; rfl)
      have HE2 := hide (show tvs (ts ++ [.nil]) = lys qs ++ [[]] by rw [tvs_append, he2]; rfl)
      have HBK := hide fun g hg => (ht2.block g hg).1
      clear ht2 hb2 he2
      go_wp2_with (at_builtin; refine wpList_append_tr rfl (.tmp 18) (.tmp 19) rfl w.heap.size n c2 w2.heap.size A2 ts .nil rfl rfl HNEW.out (by omega) HB2.out.size ?_; intro A5 c5 w5 ht5 hg5; have HB5 := hide (HB2.out.grown hg5 HB2.out.size HBK.out); have HLO := hide (layersOf_any A5 (n + 1) c5 w.heap.size _ w5 ht5 (tvs_len12 HV2.out) (by omega)); clear ht5 hg5)
      refine HLO.out.mono ?_
      rintro e w6 ⟨A6, c6, q6, rfl, ho6, he6, hb6⟩
      have HO6 := hide (ho6.mono HB5.out.size)
      have HB6 := hide (HB5.out.trans (hb6.mono HB5.out.size))
      have HE6 := hide (he6.trans HE2.out)
      clear ho6 he6 hb6 HLO
      go_wp2
      go_ret2
      exact ⟨A6, n + 1, c6, q6, by rw [HN.out.1]; rfl, HO6.out, by rw [HN.out.2, HE6.out], HB6.out⟩
  · have hv' : laysV (lys qs) = false := by simpa using hv
    have HT := hide (treesOf_no A n c B qs w hr hB hs hn hv')
    have hsv : snV (lys qs) = false := by unfold snV; rw [hv']; rfl
    have HN := hide (⟨hsv, by unfold snL; rw [hsv]; rfl⟩ : snV (lys qs) = false ∧ snL (lys qs) = [])
    clear hr hs hv hv' hsv
    go_enter Try.func24, Try.ntmps24
    go_wp2_with fail
    refine HT.out.mono ?_
    rintro e w2 ⟨rfl, hb2⟩
    have HB2 := hide hb2
    clear hb2
    go_wp2
    go_ret2
    exact LysPost.no HN.out.1 HN.out.2 HB2.out

set_option maxHeartbeats 3200000 in
theorem implWrite (A X : Option Addr) (n c m d B : Nat) (qs : List Lq) (ps : Ly) (w : World) (hr : LyI w B A n qs) (hp : PrI w B X m ps) (hB : B ≤ w.heap.size) (hs : ∀ q ∈ qs, q.ps.length ≤ 1000000000) (hn : n ≤ 1000000000) (hm : m ≤ 1000000000) :
    Calls Try.prog 19 #[.slice A n c, .slice X m d] w (LysPost w (wrV (lys qs) ps) (wrL (lys qs) ps)) := by
  have hl := hr.1
  by_cases hv : laysV (lys qs) = true
  · have HT := hide (treesOf_yes A n c B qs w hr hB hv)
    have HV := hide hv
    have h15 := (laysV_iff.1 hv).2
    rw [lys_length, hl] at h15
    obtain ⟨k, rfl⟩ : ∃ k, n = k + 1 := ⟨n - 1, by omega⟩
    have HP := hide hp
    rcases hpv : layV ps with _ | _
    · have hwv : wrV (lys qs) ps = false := by unfold wrV; rw [hpv, Bool.and_false]
      have HN := hide (⟨hwv, by unfold wrL; rw [hwv]; rfl⟩ : wrV (lys qs) ps = false ∧ wrL (lys qs) ps = [])
      have HLV := hide fun (W : World) (h : Below w.heap.size w W) => implLayer X m d B ps W (hp.below h hB) (Nat.le_trans hB h.size) hm
      rw [hpv] at HLV
      clear hr hp hs hv hwv hpv
      go_enter Try.func19, Try.ntmps19
      go_wp2_with fail
      refine HT.out.mono ?_
      rintro e w2 ⟨A2, c2, ts, rfl, ht2, he2, hb2⟩
      have HB2 := hide hb2
      clear ht2 hb2 he2
      go_wp2_with fail
      refine (HLV.out _ HB2.out).mono ?_
      rintro e w3 ⟨rfl, hb3⟩
      have HB3 := hide (HB2.out.trans (hb3.mono HB2.out.size))
      clear hb3
      go_wp2
      go_ret2
      exact LysPost.no HN.out.1 HN.out.2 HB3.out
    · have hwv : wrV (lys qs) ps = true := by unfold wrV; rw [hv, hpv]; rfl
      have HN := hide (⟨hwv, by unfold wrL; rw [hwv, lys_length, hl]; rfl⟩ : wrV (lys qs) ps = true ∧ wrL (lys qs) ps = (lys qs).take k ++ [overL ((lys qs).getD k []) ps])
      have HPV := hide hpv
      have HLV := hide fun (W : World) (h : Below w.heap.size w W) => implLayer X m d B ps W (hp.below h hB) (Nat.le_trans hB h.size) hm
      rw [hpv] at HLV
      have HL := hide hl
      have w1 : IntKind.i64.wrap (((k + 1 : Nat) : Int) - 1) = (k : Int) := by rw [show ((k + 1 : Nat) : Int) - 1 = (k : Int) by omega]; exact IntWalk.i64_in _ (by omega)
      have k0 : (0 : Int) ≤ (k : Int) := by omega
      have k1 : (k : Int) < ((k + 1 : Nat) : Int) := by omega
      clear hr hp hs hv hwv hpv hl
      go_enter Try.func19, Try.ntmps19
      go_wp2_with fail
      refine HT.out.mono ?_
      rintro e w2 ⟨A2, c2, ts, rfl, ht2, he2, hb2⟩
      have HB2 := hide hb2
      have HT2 := hide ht2
      have HE2 := hide he2
      clear ht2 hb2 he2 HT
      go_wp2_with fail
      refine (HLV.out _ HB2.out).mono ?_
      rintro e w3 ⟨rfl, hb3⟩
      have HB3 := hide (HB2.out.trans (hb3.mono HB2.out.size))
      have ht3 := HT2.out.below hb3
      obtain ⟨g, rfl, hg1, hg2⟩ := ht3.shape (by omega)
      obtain ⟨t, ht⟩ : ∃ t, ts[k]? = some t := ⟨_, List.getElem?_eq_getElem (by rw [ht3.len]; omega)⟩
      have hc0 := ht3.cell ht
      have htv : layV t.vals = true := (trees_valid ht3 HE2.out HV.out t (List.mem_of_getElem? ht)).2
      have HPA := hide (putAll_any t w3 B m d X ps (ht3.tri t (List.mem_of_getElem? ht)) htv (flat_each ht3.nd (List.mem_of_getElem? ht)) (HP.out.below HB3.out hB) HPV.out (Nat.le_trans hB HB3.out.size) (fun i hi => Nat.le_trans hB (ht3.ge t (List.mem_of_getElem? ht) i hi)))
      have HTV := hide htv
      have HT3 := hide ht3
      have HTK := hide ht
      clear hb3 ht3 htv ht HT2 HLV
      go_wp2_with fail
      refine HPA.out.mono ?_
      rintro e w4 ⟨t', rfl, i1, i2, i3, i4, i5⟩
      obtain ⟨z1, z2, z3⟩ := HT3.out.turn HTK.out i5 i1 i3 i4 HB3.out.size
      have HT4 := hide z3
      have HB4 := hide (HB3.out.trans (i5.below HB3.out.size fun i hi => HT3.out.ge t (List.mem_of_getElem? HTK.out) i hi))
      have HB5 := hide (HB4.out.setCell (p := ⟨g, k, none⟩) hg1 (.pointer t'.pt))
      have HE4 := hide (show tvs (ts.set k t') = (lys qs).take k ++ [overL ((lys qs).getD k []) ps] from by
        rw [tvs_set, HE2.out, i2, putsL_over HTV.out HPV.out, set_last (by rw [lys_length, HL.out])]
        rw [← HE2.out, tvs_getD HTK.out])
      have HV4 := hide (show ∀ p ∈ tvs (ts.set k t'), layV p = true from fun p hp => by
        rw [tvs_set, i2, putsL_over HTV.out HPV.out] at hp
        rcases List.mem_or_eq_of_mem_set hp with hp | rfl
        · exact (laysV_iff.1 HV.out).1 p (by rw [← HE2.out]; exact hp)
        · exact overL_valid HTV.out HPV.out)
      clear i1 i2 i3 i4 i5 z3 HPA HT3 HP
      go_wp2_with fail
      refine (layersOf_any _ (k + 1) c2 w.heap.size _ _ HT4.out (tvs_len12 HV4.out) (by omega)).mono ?_
      rintro e w6 ⟨A6, c6, q6, rfl, ho6, he6, hb6⟩
      have HO6 := hide (ho6.mono HB5.out.size)
      have HB6 := hide (HB5.out.trans (hb6.mono HB5.out.size))
      have HE6 := hide (he6.trans HE4.out)
      clear ho6 he6 hb6
      go_wp2
      go_ret2
      exact ⟨A6, k + 1, c6, q6, by rw [HN.out.1]; rfl, HO6.out, by rw [HN.out.2, HE6.out], HB6.out⟩
  · have hv' : laysV (lys qs) = false := by simpa using hv
    have HT := hide (treesOf_no A n c B qs w hr hB hs hn hv')
    have hsv : wrV (lys qs) ps = false := by unfold wrV; rw [hv']; rfl
    have HN := hide (⟨hsv, by unfold wrL; rw [hsv]; rfl⟩ : wrV (lys qs) ps = false ∧ wrL (lys qs) ps = [])
    clear hr hp hs hv hv' hsv
    go_enter Try.func19, Try.ntmps19
    go_wp2_with fail
    refine HT.out.mono ?_
    rintro e w2 ⟨rfl, hb2⟩
    have HB2 := hide hb2
    clear hb2
    go_wp2
    go_ret2
    exact LysPost.no HN.out.1 HN.out.2 HB2.out
end Go.Proofs.Ytapfbkjgmfmepaa
