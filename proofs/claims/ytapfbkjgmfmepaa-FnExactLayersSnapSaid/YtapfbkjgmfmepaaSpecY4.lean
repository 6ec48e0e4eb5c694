/-
  The model's LayersWrite, LayersSnap.
-/
import Derived.Test.YtapfbkjgmfmepaaSpecY4T
namespace Go.Proofs.Ytapfbkjgmfmepaa
open Go.RowKit
set_option linter.unusedVariables false
set_option maxRecDepth 100000

set_option maxHeartbeats 3200000 in
theorem specWrite (A X : Option Addr) (n c m d B : Nat) (qs : List Lq) (ps : Ly) (w : World) (hr : LyI w B A n qs) (hp : PrI w B X m ps) (hB : B ≤ w.heap.size) (hs : ∀ q ∈ qs, q.ps.length ≤ 1000000000) (hn : n ≤ 1000000000) (hm : m ≤ 1000000000) :
    Calls Try.prog 20 #[.slice A n c, .slice X m d] w (LysPostY w (wrV (lys qs) ps) (wrL (lys qs) ps)) := by
  have hl := hr.1
  have HV := hide (specLays A n c B qs w hr hs hn)
  have HLV := hide fun (z : Nat) => specLay X m d B ps (w.drewN z) (hp.drewN z) hm
  rcases hv : laysV (lys qs) with _ | _
  · have hsv : wrV (lys qs) ps = false := by unfold wrV; rw [hv]; rfl
    have HN := hide (⟨hsv, by unfold wrL; rw [hsv]; rfl⟩ : wrV (lys qs) ps = false ∧ wrL (lys qs) ps = [])
    rw [hv] at HV
    clear hr hp hs hv hsv
    go_enter Try.func20, Try.ntmps20
    go_wp2_with fail
    refine HV.out.mono ?_
    rintro e w2 ⟨rfl, z, rfl⟩
    have HB2 := hide (below_drewN (Below.refl w.heap.size w) z)
    go_wp2
    go_ret2
    exact LysPostY.no HN.out.1 HN.out.2 HB2.out
  · rw [hv] at HV
    rcases hpv : layV ps with _ | _
    · have hsv : wrV (lys qs) ps = false := by unfold wrV; rw [hpv, Bool.and_false]
      have HN := hide (⟨hsv, by unfold wrL; rw [hsv]; rfl⟩ : wrV (lys qs) ps = false ∧ wrL (lys qs) ps = [])
      rw [hpv] at HLV
      clear hr hp hs hv hsv hpv
      go_enter Try.func20, Try.ntmps20
      go_wp2_with fail
      refine HV.out.mono ?_
      rintro e w2 ⟨rfl, z, rfl⟩
      go_wp2_with fail
      refine (HLV.out z).mono ?_
      rintro e w2 ⟨rfl, y, rfl⟩
      have HB2 := hide (below_drewN (Below.refl w.heap.size w) (z + y))
      go_wp2
      go_ret2
      exact LysPostY.no HN.out.1 HN.out.2 HB2.out
    · have hsv : wrV (lys qs) ps = true := by unfold wrV; rw [hv, hpv]; rfl
      have h15 := (laysV_iff.1 hv).2
      rw [lys_length, hl] at h15
      obtain ⟨k, rfl⟩ : ∃ k, n = k + 1 := ⟨n - 1, by omega⟩
      have HN := hide (⟨hsv, by unfold wrL; rw [hsv, lys_length, hl]; rfl⟩ : wrV (lys qs) ps = true ∧ wrL (lys qs) ps = (lys qs).take k ++ [overL ((lys qs).getD k []) ps])
      rw [hpv] at HLV
      have HR := hide hr
      have HP := hide hp
      have HS := hide hs
      have HL := hide hl
      have hlay := (laysV_iff.1 hv).1
      have H12 := hide fun (q : Lq) (h : lys [q] = [(lys qs).getD k []]) => (show q.ps.length ≤ 1000000000 from by
        have e : q.ps = (lys qs).getD k [] := by injection h
        rw [e]
        exact Nat.le_trans (layV_len (laysV_getD hv k)) (by decide))
      have w1 : IntKind.i64.wrap (((k + 1 : Nat) : Int) - 1) = (k : Int) := by rw [show ((k + 1 : Nat) : Int) - 1 = (k : Int) by omega]; exact IntWalk.i64_in _ (by omega)
      have k0 : (0 : Int) ≤ (k : Int) := by omega
      have k1 : (k : Int) < ((k + 1 : Nat) : Int) := by omega
      clear hr hp hs hv hsv hpv hlay
      go_enter Try.func20, Try.ntmps20
      go_wp2_with fail
      refine HV.out.mono ?_
      rintro e w2 ⟨rfl, z, rfl⟩
      go_wp2_with fail
      refine (HLV.out z).mono ?_
      rintro e w2 ⟨rfl, y, rfl⟩
      have hB2 := below_drewN (Below.refl w.heap.size w) (z + y)
      have HB2 := hide hB2
      have HCP := hide (specCopy A (k + 1) c B qs _ (HR.out.below hB2 hB) (Nat.le_trans hB hB2.size) HS.out hn)
      have HPI2 := hide (HP.out.below hB2 hB)
      clear hB2
      try rw [World.drewN_drewN]
      generalize w.drewN (z + y) = w2 at HB2 HCP HPI2 ⊢
      have hs2 := HB2.out.size
      go_wp2_with fail
      refine HCP.out.mono ?_
      rintro e w3 ⟨A3, c3, rs, rfl, ho3, he3, hb3⟩
      obtain ⟨g, rfl, hg1, hg2⟩ := ho3.shape (by omega)
      obtain ⟨q, hq⟩ : ∃ q, rs[k]? = some q := ⟨_, List.getElem?_eq_getElem (by rw [ho3.len]; omega)⟩
      have hc0 := ho3.cell hq
      have hqp : q.ps = (lys qs).getD k [] := by rw [← he3, lys_getD hq]
      have HOV := hide (specOver q.addr X q.ps.length q.cap m d w3.heap.size q.ps ps w3 (ho3.own k q hq).pri ((HPI2.out.below hb3 (by omega)).more (by have := hb3.size; omega)) (Nat.le_refl _) (H12.out q (by show [q.ps] = _; rw [hqp])) hm)
      have HO3 := hide ho3
      have hs3 := hb3.size
      have HB3 := hide (HB2.out.trans (hb3.mono hs2))
      have HQ := hide hq
      have HE3 := hide he3
      have HQP := hide hqp
      unfold Lq.sl at hc0
      clear ho3 he3 hb3 hq hqp HCP
      go_wp2_with fail
      refine HOV.out.mono ?_
      rintro e w4 ⟨A4, j, c4, rfl, hp4, hb4⟩
      have ho4 := HO3.out.below hb4
      have hg4 := ho4.free (j := k)
      have hd4 := ho4.cell HQ.out
      obtain rfl := hp4.1
      obtain ⟨hput, hgr⟩ := ho4.put (k := k) (q := q) ⟨overL q.ps ps, A4, c4⟩ (hp4.mono hs3) (fun i r hi hne g' hg' => by
        intro hr'
        have h1 := (HO3.out.wblock hi g' hr').2
        have h2 := (hp4.block g' hg').1
        omega)
      have HPUT := hide (hput.mono hs2)
      have HB4 := hide (HB3.out.trans (hb4.mono HB3.out.size))
      have HB5 := hide (HB4.out.grown hgr HB4.out.size fun i hi => by injection hi with hi; omega)
      have HE5 := hide (show lys (rs.set k ⟨overL q.ps ps, A4, c4⟩) = (lys qs).take k ++ [overL ((lys qs).getD k []) ps] by
        rw [lys_set, HE3.out, set_lastY (by rw [lys_length, HL.out])]
        show _ ++ [overL q.ps ps] = _
        rw [HQP.out])
      have hd5 : w4.cell? ⟨g, k, none⟩ = some (.slice q.addr q.ps.length q.cap) := hd4
      clear hput hgr ho4 hp4 hb4 hd4 HOV HO3
      go_wp2
      go_ret2
      exact ⟨_, k + 1, c3, _, by rw [HN.out.1]; rfl, HPUT.out, by rw [HN.out.2, HE5.out], HB5.out⟩

set_option maxHeartbeats 3200000 in
theorem specSnap (A : Option Addr) (n c B : Nat) (qs : List Lq) (w : World) (hr : LyI w B A n qs) (hB : B ≤ w.heap.size) (hs : ∀ q ∈ qs, q.ps.length ≤ 1000000000) (hn : n ≤ 1000000000) :
    Calls Try.prog 25 #[.slice A n c] w (LysPostY w (snV (lys qs)) (snL (lys qs))) := by
  have hl := hr.1
  have HV := hide (specLays A n c B qs w hr hs hn)
  rcases hv : laysV (lys qs) with _ | _
  · have hsv : snV (lys qs) = false := by unfold snV; rw [hv]; rfl
    have HN := hide (⟨hsv, by unfold snL; rw [hsv]; rfl⟩ : snV (lys qs) = false ∧ snL (lys qs) = [])
    rw [hv] at HV
    clear hr hs hv hsv
    go_enter Try.func25, Try.ntmps25
    go_wp2_with fail
    refine HV.out.mono ?_
    rintro e w2 ⟨rfl, z, rfl⟩
    have HB2 := hide (below_drewN (Below.refl w.heap.size w) z)
    go_wp2
    go_ret2
    exact LysPostY.no HN.out.1 HN.out.2 HB2.out
  · rw [hv] at HV
    by_cases hb : n = 5
    · subst hb
      have hsv : snV (lys qs) = false := by unfold snV; rw [lys_length, hl]; simp
      have HN := hide (⟨hsv, by unfold snL; rw [hsv]; rfl⟩ : snV (lys qs) = false ∧ snL (lys qs) = [])
      clear hr hs hv hsv
      go_enter Try.func25, Try.ntmps25
      go_wp2_with fail
      refine HV.out.mono ?_
      rintro e w2 ⟨rfl, z, rfl⟩
      have HB2 := hide (below_drewN (Below.refl w.heap.size w) z)
      go_wp2
      go_ret2
      exact LysPostY.no HN.out.1 HN.out.2 HB2.out
    · have hsv : snV (lys qs) = true := by unfold snV; rw [lys_length, hl, hv]; simp [hb]
      have HN := hide (⟨hsv, by unfold snL; rw [hsv]; rfl⟩ : snV (lys qs) = true ∧ snL (lys qs) = lys qs ++ [[]])
      have h5' : ((n : Int) == 5) = false := by simp; omega
      have HCP := hide fun (z : Nat) => specCopy A n c B qs (w.drewN z) (hr.drewN z) hB hs hn
      clear hr hs hv hsv hb
      go_enter Try.func25, Try.ntmps25
      go_wp2_with fail
      refine HV.out.mono ?_
      rintro e w2 ⟨rfl, z, rfl⟩
      go_wp2_with fail
      refine (HCP.out z).mono ?_
      rintro e w3 ⟨A3, c3, rs, rfl, ho3, he3, hb3⟩
      have hb3' : Below w.heap.size w w3 := ⟨hb3.os, hb3.tape, hb3.output, hb3.size, hb3.block⟩
      have HB3 := hide hb3'
      have HE3 := hide he3
      have HNEW := hide (NewL.one ((show OwnL w3 w.heap.size A3 n c3 rs from ho3).alloc (.cells #[] 29)) (q := ⟨[], some ⟨w3.heap.size, 0, none⟩, 0⟩) ((PrR.fresh0 w3).mono hb3'.size) (OwnL.fresh0 (show OwnL w3 w.heap.size A3 n c3 rs from ho3)))
      have HO3 := hide (show OwnL w3 w.heap.size A3 n c3 rs from ho3)
      have HB5 := hide ((hb3'.alloc hb3'.size (.cells #[] 29)).alloc (by simp; have := hb3'.size; omega) (.cells #[(Lq.mk [] (some ⟨w3.heap.size, 0, none⟩) 0).sl] 27))
      clear ho3 he3 hb3 hb3' HCP
      go_wp2_with (at_builtin; refine wpList_append_lys rfl (.tmp 14) (.tmp 16) rfl w.heap.size n c3 1 1 A3 (some ⟨(w3.alloc (.cells #[] 29)).heap.size, 0, none⟩) rs [⟨[], some ⟨w3.heap.size, 0, none⟩, 0⟩] rfl (by simp [Act.eval]) HNEW.out (by omega) HB5.out.size ?_; intro A6 c6 w6 ho6 hg6 hat6; clear hat6)
      have HO6 := hide ho6
      have HB6 := hide (HB5.out.grown hg6 HB5.out.size fun i hi => (HO3.out.block i hi).1)
      have HE6 := hide (show lys (rs ++ [⟨[], some ⟨w3.heap.size, 0, none⟩, 0⟩]) = lys qs ++ [[]] by rw [lys_append, HE3.out]; rfl)
      clear ho6 hg6
      go_wp2
      go_ret2
      exact ⟨A6, n + 1, c6, _, by rw [HN.out.1]; rfl, HO6.out, by rw [HN.out.2, HE6.out], HB6.out⟩
end Go.Proofs.Ytapfbkjgmfmepaa
