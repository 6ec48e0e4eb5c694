/-
  The walk of FnLayersPart.
-/
import Derived.Test.YtapfbkjgmfmepaaLawY0
import Derived.Test.YtapfbkjgmfmepaaRoL
import Derived.Deep.RegionHeld3
namespace Go.Proofs.Ytapfbkjgmfmepaa
open Go.RowKit
set_option linter.unusedVariables false
set_option maxRecDepth 100000

theorem OwnsKept {w w' : World} {base n c : Nat} {A : Option Addr} {qs : List Lq} {R : Nat} (h : RowL w base A n c qs) (hg : w.grownBy w' (some R)) (hne : ∀ g, (Value.slice A n c).ownBlock = some g → g ≠ R) : RowL w' base A n c qs :=
  ⟨h.1, h.2.kept hg (by
    rcases hv : (Value.slice A n c).ownBlock with _ | g
    · exact .inl rfl
    · right; intro e; injection e with e; exact hne g hv e)⟩

theorem RowL.mono {w : World} {base b' n c : Nat} {A : Option Addr} {qs : List Lq} (h : RowL w base A n c qs) (hb : b' ≤ base) : RowL w b' A n c qs := by
  refine ⟨h.1, h.2.1, ?_⟩
  rcases h.2.2 with h0 | ⟨g, cap, cur, hv, hb', r⟩
  · exact .inl h0
  · exact .inr ⟨g, cap, cur, hv, by omega, r⟩
/-- the copied row with a bad layer in it, beside the row without that layer -/
theorem y_step {w1 w5 w6 : World} {X m k c5 c6 : Nat} {A5 A6 : Option Addr} {qs xs : List Lq} (hx : RowL w5 w1.heap.size A5 X c5 xs) (hb : Below w1.heap.size w1 w5) (hbd : BodL w1 w1.heap.size qs) (hbx : BodL w1 w1.heap.size xs) (hk : k < m)
    (hy : RowL w6 w5.heap.size A6 m c6 qs) (hg : (w5.alloc (.cells #[] 27)).grownBy w6 (some w5.heap.size)) :
    ∃ g, A6 = some ⟨g, 0, none⟩ ∧ ∃ q : Lq, (w6.alloc (.cells #[.int .i64 0, .int .i64 100] 29)).cell? ⟨g, k, none⟩ = some (.slice q.addr q.ps.length q.cap) ∧ (w6.alloc (.cells #[.int .i64 0, .int .i64 100] 29)).frozen? ⟨g, k, none⟩ = false ∧
      LyI ((w6.alloc (.cells #[.int .i64 0, .int .i64 100] 29)).setCell ⟨g, k, none⟩ (.slice (some ⟨w6.heap.size, 0, none⟩) 1 1)) (w6.heap.size + 1) A5 X xs ∧
      LyI ((w6.alloc (.cells #[.int .i64 0, .int .i64 100] 29)).setCell ⟨g, k, none⟩ (.slice (some ⟨w6.heap.size, 0, none⟩) 1 1)) (w6.heap.size + 1) (some ⟨g, 0, none⟩) m (qs.set k ⟨[(0, 100)], some ⟨w6.heap.size, 0, none⟩, 1⟩) ∧
      Below w1.heap.size w1 ((w6.alloc (.cells #[.int .i64 0, .int .i64 100] 29)).setCell ⟨g, k, none⟩ (.slice (some ⟨w6.heap.size, 0, none⟩) 1 1)) ∧
      ((w6.alloc (.cells #[.int .i64 0, .int .i64 100] 29)).setCell ⟨g, k, none⟩ (.slice (some ⟨w6.heap.size, 0, none⟩) 1 1)).heap.size = w6.heap.size + 1 := by
  have hb6 : Below w5.heap.size w5 w6 := (below_new w5 _).grown hg (by simp) (fun g hg => by injection hg with hg; omega)
  obtain ⟨g, rfl, hg1, hg2⟩ := hy.shape (by omega)
  obtain ⟨q, hq⟩ : ∃ q, qs[k]? = some q := ⟨_, List.getElem?_eq_getElem (by rw [hy.1]; exact hk)⟩
  have hA := hy.alloc (.cells #[.int .i64 0, .int .i64 100] 29)
  have hXA := (hx.below hb6).alloc (.cells #[.int .i64 0, .int .i64 100] 29)
  obtain ⟨hput, hgp⟩ : RowL ((w6.alloc (.cells #[.int .i64 0, .int .i64 100] 29)).setCell ⟨g, k, none⟩ (.slice (some ⟨w6.heap.size, 0, none⟩) 1 1)) w5.heap.size (some ⟨g, 0, none⟩) m c6 (qs.set k ⟨[(0, 100)], some ⟨w6.heap.size, 0, none⟩, 1⟩) ∧
      (w6.alloc (.cells #[.int .i64 0, .int .i64 100] 29)).grownBy ((w6.alloc (.cells #[.int .i64 0, .int .i64 100] 29)).setCell ⟨g, k, none⟩ (.slice (some ⟨w6.heap.size, 0, none⟩) 1 1)) (some g) := hA.put (k := k) ⟨[(0, 100)], some ⟨w6.heap.size, 0, none⟩, 1⟩
  have hs1 := hb.size
  have hs5 := hb6.size
  have hbw : Below w1.heap.size w1 ((w6.alloc (.cells #[.int .i64 0, .int .i64 100] 29)).setCell ⟨g, k, none⟩ (.slice (some ⟨w6.heap.size, 0, none⟩) 1 1)) :=
    ((hb.trans (hb6.mono hs1)).alloc (by omega) _).grown hgp (by simp; omega) (fun b hb => by injection hb with hb; omega)
  have hws : ((w6.alloc (.cells #[.int .i64 0, .int .i64 100] 29)).setCell ⟨g, k, none⟩ (.slice (some ⟨w6.heap.size, 0, none⟩) 1 1)).heap.size = w6.heap.size + 1 := by simp
  have hbp : Blk ((w6.alloc (.cells #[.int .i64 0, .int .i64 100] 29)).setCell ⟨g, k, none⟩ (.slice (some ⟨w6.heap.size, 0, none⟩) 1 1)) w6.heap.size 29 #[.int .i64 0, .int .i64 100] :=
    (Blk.new w6 29 #[.int .i64 0, .int .i64 100]).far (by show w6.heap.size ≠ g; omega) _
  have hpi : PrI ((w6.alloc (.cells #[.int .i64 0, .int .i64 100] 29)).setCell ⟨g, k, none⟩ (.slice (some ⟨w6.heap.size, 0, none⟩) 1 1)) (w6.heap.size + 1) (some ⟨w6.heap.size, 0, none⟩) 1 [(0, 100)] := by
    refine ⟨rfl, rfl, fun _ => ⟨_, rfl, by show w6.heap.size < _; omega, fun j hj => ?_⟩⟩
    rw [add_plain', hbp.cell j]
    rcases j with _ | _ | j
    · rfl
    · rfl
    · omega
  have hbq : BodL ((w6.alloc (.cells #[.int .i64 0, .int .i64 100] 29)).setCell ⟨g, k, none⟩ (.slice (some ⟨w6.heap.size, 0, none⟩) 1 1)) (w6.heap.size + 1) (qs.set k ⟨[(0, 100)], some ⟨w6.heap.size, 0, none⟩, 1⟩) := by
    intro r hr
    rcases List.mem_or_eq_of_mem_set hr with hr | rfl
    · exact ((hbd.below hbw (Nat.le_refl _)).more (by omega)) r hr
    · exact ⟨hpi, Nat.le_refl _, by show 1 ≤ maxLen; unfold maxLen; decide, fun e => by cases e⟩
  have hxf := OwnsKept hXA hgp (fun b hb e => by
    have h1 := (hx.block b hb).2
    omega)
  have hlx := hxf.lyi (by rw [hws]; exact (hbx.below hbw (Nat.le_refl _)).more (by omega))
  have hly := hput.lyi (by
    show BodL ((w6.alloc (.cells #[.int .i64 0, .int .i64 100] 29)).setCell ⟨g, k, none⟩ (.slice (some ⟨w6.heap.size, 0, none⟩) 1 1)) ((w6.alloc (.cells #[.int .i64 0, .int .i64 100] 29)).setCell ⟨g, k, none⟩ (.slice (some ⟨w6.heap.size, 0, none⟩) 1 1)).heap.size _
    rw [hws]; exact hbq)
  refine ⟨g, rfl, q, hA.cell hq, hA.free, ?_, ?_, hbw, hws⟩
  · have h := hlx
    rwa [hws] at h
  · have h := hly
    change LyI ((w6.alloc (.cells #[.int .i64 0, .int .i64 100] 29)).setCell ⟨g, k, none⟩ (.slice (some ⟨w6.heap.size, 0, none⟩) 1 1)) ((w6.alloc (.cells #[.int .i64 0, .int .i64 100] 29)).setCell ⟨g, k, none⟩ (.slice (some ⟨w6.heap.size, 0, none⟩) 1 1)).heap.size _ _ _ at h
    rwa [hws] at h

set_option maxHeartbeats 6400000 in
theorem layersPart_walk (A : Option Addr) (n c : Nat) (bs : Nat → Int) (A' : Option Addr) (n' c' : Nat) (bs' : Nat → Int) (w : World) (hb : Bytes w w.heap.size A n bs) (hn : n ≤ c) (hc : c ≤ maxLen)
    (hb' : Bytes w w.heap.size A' n' bs') (hn1 : n' ≤ c') (hc1 : c' ≤ maxLen) :
    Calls Try.prog 10 #[.slice A n c, .slice A' n' c'] w fun e w' => e = .returned (.bool true) ∧ Below w.heap.size w w' := by
  have hn' : n' ≤ 9223372036854775807 := by unfold maxLen at hc1; omega
  clear hc1 hb'
  by_cases hbig : 1048576 < n
  · go_enter Try.func10, Try.ntmps10
    go_wp2
    go_ret
    exact ⟨rfl, Below.refl _ _⟩
  by_cases hbig' : 1048576 < n'
  · go_enter Try.func10, Try.ntmps10
    go_wp2
    go_ret
    exact ⟨rfl, Below.refl _ _⟩
  · go_enter Try.func10, Try.ntmps10
    go_wp2_with fail
    refine (drawLyV_any A n c bs _ hb hn hc).mono ?_
    rintro e w0 ⟨A1, m, c1, qs, rfl, hd⟩
    have HD := hide hd
    have hm := hd.num
    have hl := hd.lyi.1
    have hnc := hd.nc
    have hs0 := hd.below.size
    have HP1 := hide (implLayers A1 m c1 _ qs w0 hd.lyi (Nat.le_refl _) (big_qs hd.len) (by omega))
    have HP2 := hide fun (W : World) (h : Below w0.heap.size w0 W) => specLays A1 m c1 _ qs W (hd.lyi.below h (Nat.le_refl _)) (big_qs hd.len) (by omega)
    clear hb hd
    obtain ⟨V, hV⟩ : ∃ V : Bool, laysV (lys qs) = V := ⟨_, rfl⟩
    rw [hV] at HP1 HP2
    have HV := hide hV
    clear hV
    go_wp2_with fail
    refine HP1.out.mono ?_
    rintro e w2 ⟨rfl, hB2⟩
    have HW2 := hide hB2
    clear hB2 HP1
    go_wp2_with fail
    refine (HP2.out _ HW2.out).mono ?_
    rintro e w3 ⟨rfl, z, rfl⟩
    have HW3 := hide (below_drewN HW2.out z)
    clear HP2 HW2
    generalize w2.drewN z = w1 at HW3 ⊢
    have HI := hide ((HD.out.lyi.below HW3.out (Nat.le_refl _)).more HW3.out.size)
    have HEND := hide fun (W : World) (h : Below w1.heap.size w1 W) => HD.out.below.trans ((HW3.out.trans (h.mono HW3.out.size)).mono hs0)
    have HLEN := hide HD.out.len
    clear HW3
    rcases V with _ | _
    · go_wp2
      go_ret
      exact ⟨rfl, HEND.out _ (Below.refl _ _)⟩
    · have h15 := (laysV_iff.1 HV.out).2
      rw [lys_length, hl] at h15
      obtain ⟨k, hk⟩ : ∃ k, n' % m = k := ⟨_, rfl⟩
      have hkm : k < m := by rw [← hk]; exact Nat.mod_lt _ (by omega)
      have e1 : (n' : Int) % (m : Int) = (k : Int) := by rw [← hk]; rfl
      have e3 : ((n' : Int)).tmod (m : Int) = (k : Int) := by rw [← hk]; rfl
      have hmz : ((m : Int) == 0) = false := by simp; omega
      have wk : IntKind.i64.wrap ((k : Int) + 1) = (k : Int) + 1 := IntWalk.i64_in _ (by omega)
      have k0 : (0 : Int) ≤ (k : Int) := by omega
      have k1 : (k : Int) ≤ (c1 : Int) := by omega
      have k2 : (0 : Int) ≤ (k : Int) + 1 := by omega
      have k3 : (k : Int) + 1 ≤ (m : Int) := by omega
      have k4 : (k : Int) < (m : Int) := by omega
      have t1 : ((k : Int) + 1).toNat = k + 1 := by omega
      have t2 : ((m : Int) - ((k : Int) + 1)).toNat = m - (k + 1) := by omega
      have t3 : ((c1 : Int) - ((k : Int) + 1)).toNat = c1 - (k + 1) := by omega
      obtain ⟨ad, rfl, hba, _⟩ := HI.out.2.1 (by omega)
      have hcut := HI.out.cut (k := k + 1) (m := m) (by omega) (Nat.le_refl _) hnc
      rw [List.take_of_length_le (by omega)] at hcut
      obtain ⟨D, hD⟩ : ∃ D, (if c1 = k + 1 then some ad else some (⟨ad.block, ad.off + (k + 1), none⟩ : Addr)) = D := ⟨_, rfl⟩
      rw [show (if c1 = k + 1 then some ad else (some ad).map (fun x => x.add (k + 1))) = D by rw [← hD]; simp [Addr.add]] at hcut
      have HCUT := hide hcut
      have HFST := hide (HI.out.firsts (m := k) (by omega))
      have hdl : (qs.drop (k + 1)).length = m - (k + 1) := by rw [List.length_drop, hl]
      have htl : (qs.take k).length = k := by rw [List.length_take, hl]; omega
      have HBD := hide HI.out.bods
      have HS1 := hide fun (W : World) (h : Below w1.heap.size w1 W) (hm : 0 < k) => (show ∃ ad2, some ad = some ad2 ∧ ∀ j u, (slL (qs.take k))[j]? = some u → W.cell? (ad2.add j) = some u from by
        obtain ⟨ad2, e, _, hc⟩ := (HFST.out.below h (Nat.le_refl _)).2.1 hm
        exact ⟨ad2, e, hc⟩)
      have HS2 := hide fun (W : World) (h : Below w1.heap.size w1 W) (hm : 0 < m - (k + 1)) => (show ∃ ad2, D = some ad2 ∧ ∀ j u, (slL (qs.drop (k + 1)))[j]? = some u → W.cell? (ad2.add j) = some u from by
        obtain ⟨ad2, e, _, hc⟩ := (HCUT.out.below h (Nat.le_refl _)).2.1 hm
        exact ⟨ad2, e, hc⟩)
      have HBA := hide (below_drewN (below_new w1 (.cells #[] 27)) 1)
      have HR0 := hide (show RowL ((w1.alloc (.cells #[] 27)).drewN 1) w1.heap.size (some ⟨w1.heap.size, 0, none⟩) 0 0 [] from RowL.lit0 w1 w1.heap.size (Nat.le_refl _))
      have hn1' : 0 + k ≤ 100000000000 := by omega
      have hn2' : 0 + k + (m - (k + 1)) ≤ 100000000000 := by omega
      clear hk hcut
      go_wp2_with fail
      go_region_held3 (fun _ => True) (trivial)
        ((first
          | (refine step_append_rowL ?_ (.tmp 40) (.tmp 43) ?_ w1.heap.size 0 0 k c1 (some ⟨w1.heap.size, 0, none⟩) (some ad) [] (qs.take k) ?_ ?_ ?_ ?_ ?_ ?_ ?_ ?_; rfl; rfl; rfl; rfl; exact HR0.out; exact htl; exact HS1.out _ HBA.out; exact hn1'; exact HBA.out.size; intro A4 c4 w4 hr4 hg4; have HR4 := hide hr4; have HB4 := hide (HBA.out.grown hg4 HBA.out.size (fun b hb => by injection hb with hb; exact Nat.le_of_eq hb)); clear hr4 hg4)
          | (refine step_append_rowL ?_ (.tmp 44) (.tmp 48) ?_ w1.heap.size (0 + k) c4 (m - (k + 1)) (c1 - (k + 1)) A4 D ([] ++ qs.take k) (qs.drop (k + 1)) ?_ ?_ ?_ ?_ ?_ ?_ ?_ ?_; (first | rfl | simp); (first | rfl | simp); (first | rfl | simp); (first | rfl | simp); exact HR4.out; exact hdl; exact HS2.out _ HB4.out; exact hn2'; exact HB4.out.size; intro A5 c5 w5 hxr hg5; have hbx := HB4.out.grown hg5 HB4.out.size (fun b hb => (HR4.out.block b hb).1); clear hg5)))
      rw [Nat.zero_add, List.nil_append] at hxr
      obtain ⟨X, hX⟩ : ∃ X, k + (m - (k + 1)) = X := ⟨_, rfl⟩
      rw [hX] at hxr
      have HXR := hide hxr
      have HBX := hide hbx
      have hsx := hbx.size
      have hx5 : X ≤ 5 := by omega
      have HYS := hide fun (A6 : Option Addr) (c6 : Nat) (w6 : World) (hy6 : RowL w6 w5.heap.size A6 m c6 qs) (hg6 : (w5.alloc (.cells #[] 27)).grownBy w6 (some w5.heap.size)) => y_step hxr hbx HBD.out (HBD.out.sub (fun q hq => by rcases List.mem_append.1 hq with hq | hq; exact List.mem_of_mem_take hq; exact List.mem_of_mem_drop hq)) hkm hy6 hg6
      have HR5 := hide (show RowL (w5.alloc (.cells #[] 27)) w5.heap.size (some ⟨w5.heap.size, 0, none⟩) 0 0 [] from RowL.lit0 w5 _ (Nat.le_refl _))
      have HS5 := hide fun (hm : 0 < m) => (show ∃ ad2, some ad = some ad2 ∧ ∀ j u, (slL qs)[j]? = some u → (w5.alloc (.cells #[] 27)).cell? (ad2.add j) = some u from by
        obtain ⟨ad2, e, _, hc⟩ := ((HI.out.below HBX.out (Nat.le_refl _)).alloc hsx (.cells #[] 27)).2.1 hm
        exact ⟨ad2, e, hc⟩)
      have HL := hide hl
      have hm0 : 0 + m ≤ 100000000000 := by omega
      have HW1 := hide (show laysV (lys (qs.take k ++ qs.drop (k + 1))) = decide (1 < m) from by
        rw [lys_append, lys_take, lys_drop, part_without HV.out (by rw [lys_length, hl]; exact hkm), lys_length, hl])
      have HW2 := hide (show laysV (lys (qs.set k ⟨[(0, 100)], some ⟨0, 0, none⟩, 1⟩)) = false from by
        rw [lys_set]
        exact part_bad (by rw [lys_length, hl]; exact hkm) (by decide))
      have HLX := hide (show ∀ q ∈ qs.take k ++ qs.drop (k + 1), q.ps.length ≤ 12 from fun q hq => by
        rcases List.mem_append.1 hq with hq | hq
        · exact HLEN.out q (List.mem_of_mem_take hq)
        · exact HLEN.out q (List.mem_of_mem_drop hq))
      rw [hX]
      clear hxr hbx HR4 HB4 hX
      go_wp2_with (at_builtin; refine wpList_append_rowL rfl (.tmp 50) (.tmp 51) rfl w5.heap.size 0 0 m c1 (some ⟨w5.heap.size, 0, none⟩) (some ad) [] qs rfl rfl HR5.out HL.out HS5.out hm0 (by simp) ?_; intro A6 c6 w6 hy6 hg6; rw [Nat.zero_add] at hy6 ⊢; rw [List.nil_append] at hy6; obtain ⟨g, hA6, q, z1, z2, z3, z4, z5, z6⟩ := HYS.out A6 c6 w6 hy6 hg6; subst hA6; have HX7 := hide z3; have HY7 := hide z4; have HB7 := hide z5; have HZ7 := hide z6; clear hy6 hg6 z3 z4 z5 z6)
      have HV1 := hide fun (W : World) (h : Below (w6.heap.size + 1) ((w6.alloc (.cells #[.int .i64 0, .int .i64 100] 29)).setCell ⟨g, k, none⟩ (.slice (some ⟨w6.heap.size, 0, none⟩) 1 1)) W) => implLayers A5 X c5 (w6.heap.size + 1) _ W (HX7.out.below h (Nat.le_refl _)) (by have := h.size; rw [HZ7.out] at this; exact this) (big_qs HLX.out) (by omega)
      have HV2 := hide fun (W : World) (h : Below (w6.heap.size + 1) ((w6.alloc (.cells #[.int .i64 0, .int .i64 100] 29)).setCell ⟨g, k, none⟩ (.slice (some ⟨w6.heap.size, 0, none⟩) 1 1)) W) => implLayers (some ⟨g, 0, none⟩) m c6 (w6.heap.size + 1) _ W (HY7.out.below h (Nat.le_refl _)) (by have := h.size; rw [HZ7.out] at this; exact this) (fun q hq => by
        rcases List.mem_or_eq_of_mem_set hq with hq | rfl
        · exact big_qs HLEN.out q hq
        · show 1 ≤ _; decide) (by omega)
      rw [HW1.out] at HV1
      rw [show lys (qs.set k ⟨[(0, 100)], some ⟨w6.heap.size, 0, none⟩, 1⟩) = lys (qs.set k ⟨[(0, 100)], some ⟨0, 0, none⟩, 1⟩) by rw [lys_set, lys_set], HW2.out] at HV2
      have hs7 : w1.heap.size ≤ w6.heap.size + 1 := by have := HB7.out.size; rw [HZ7.out] at this; exact this
      by_cases hm1 : 1 < m
      · rw [decide_eq_true hm1] at HV1
        have hm1' : decide ((1 : Int) < (m : Int)) = true := by simp; omega
        have hm2 : (1 : Int) < (m : Int) := by omega
        go_wp2_with fail
        refine (HV1.out _ (Below.refl _ _)).mono ?_
        rintro e w8 ⟨rfl, hb8⟩
        have HB8 := hide (hb8.mono (Nat.le_of_eq HZ7.out.symm))
        clear hb8
        go_wp2_with fail
        refine (HV2.out _ HB8.out).mono ?_
        rintro e w9 ⟨rfl, hb9⟩
        have HB9 := hide (HEND.out _ ((HB7.out.trans (HB8.out.mono hs7)).trans (hb9.mono (Nat.le_trans HB7.out.size (by have := HB8.out.size; exact this)))))
        clear hb9
        go_wp2
        go_ret
        exact ⟨rfl, HB9.out⟩
      · rw [decide_eq_false hm1] at HV1
        have hm1' : decide ((1 : Int) < (m : Int)) = false := by simp; omega
        have hm2 : (m : Int) ≤ 1 := by omega
        go_wp2_with fail
        refine (HV1.out _ (Below.refl _ _)).mono ?_
        rintro e w8 ⟨rfl, hb8⟩
        have HB8 := hide (hb8.mono (Nat.le_of_eq HZ7.out.symm))
        clear hb8
        go_wp2_with fail
        refine (HV2.out _ HB8.out).mono ?_
        rintro e w9 ⟨rfl, hb9⟩
        have HB9 := hide (HEND.out _ ((HB7.out.trans (HB8.out.mono hs7)).trans (hb9.mono (Nat.le_trans HB7.out.size (by have := HB8.out.size; exact this)))))
        clear hb9
        go_wp2
        go_ret
        exact ⟨rfl, HB9.out⟩
end Go.Proofs.Ytapfbkjgmfmepaa
