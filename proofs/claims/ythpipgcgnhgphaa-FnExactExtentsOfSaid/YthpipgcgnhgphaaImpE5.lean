/-
  The program's ExtentsValid and ExtentsBlocks.
-/
import Derived.Test.YthpipgcgnhgphaaSpecE1
import Derived.Test.YthpipgcgnhgphaaChnM
namespace Go.Proofs.Ythpipgcgnhgphaa
open Go.RowKit
set_option linter.unusedVariables false
set_option maxRecDepth 100000

set_option maxHeartbeats 3200000 in
theorem implEV (A : Option Addr) (n c B : Nat) (es : Exs) (w : World) (hr : ExI w B A n es) (hB : B ≤ w.heap.size) (hn : n ≤ 1000000000) (hg : Rg es) :
    Calls Try.prog 11 #[.slice A n c] w fun e w' => e = .returned (.bool (exV es)) ∧ Below w.heap.size w w' := by
  have HR := hide hr
  have HB := hide hB
  have HG := hide hg
  clear hr hg
  go_enter Try.func11, Try.ntmps11
  go_wp2_with fail
  go_loopw [3, 8] (fun l i wr => ∃ (k : Nat) (nx : Int), k ≤ n ∧ i = .int .i64 k ∧ l = .int .i64 nx ∧ 0 ≤ nx ∧ nx ≤ 13 ∧ Hid (exV es = vE nx (es.drop k)) ∧ Hid (Below w.heap.size w wr)) (fun _ i _ => n - (intOf i).toNat)
  case atStart => exact ⟨0, 0, Nat.zero_le _, rfl, rfl, by omega, by omega, rfl, Below.refl _ _⟩
  case round =>
    obtain ⟨k, nx, hk, rfl, rfl, hx0, hx1, HA, HW⟩ := hrel
    by_cases hlt : k < n
    · obtain ⟨e, he⟩ : ∃ e, es[k]? = some e := ⟨_, List.getElem?_eq_getElem (by rw [HR.out.1]; exact hlt)⟩
      have HX := hide (HA.out.trans (vE_step he nx))
      have HF := hide (HG.out.at he)
      obtain ⟨ad, p, rfl, hp, hb, hc0, hc1⟩ := (HR.out.below HW.out HB.out).at_ he
      clear HA he
      obtain ⟨f, m⟩ := e
      simp only at hc0 hc1 HX
      have k0 : (0 : Int) ≤ (k : Int) := by omega
      have k1 : (k : Int) < (n : Int) := by omega
      have hsz := HW.out.size
      have HBA := hide (HW.out.alloc hsz (.cells #[.int .i64 f, .int .i64 m] 42))
      by_cases t0 : f < nx
      · have hbad := hide (show exV es = false by rw [HX.out, show inB f nx 11 = false by simp [inB]; omega]; rfl)
        go_wp2
        go_ret
        exact ⟨ret_bool hbad.out.symm, HBA.out⟩
      by_cases t1 : m < 1
      · have hbad := hide (show exV es = false by rw [HX.out, show inB m 1 (12 - f) = false by simp [inB]; omega, Bool.and_false]; rfl)
        go_wp2
        go_ret
        exact ⟨ret_bool hbad.out.symm, HBA.out⟩
      have y0 : IntKind.i64.wrap (12 - f) = 12 - f := IntWalk.i64_in _ (by have := HF.out; simp only at this; omega)
      by_cases t2 : 12 - f < m
      · have hbad := hide (show exV es = false by rw [HX.out, show inB m 1 (12 - f) = false by simp [inB]; omega, Bool.and_false]; rfl)
        go_wp2
        go_ret
        exact ⟨ret_bool hbad.out.symm, HBA.out⟩
      have y1 : IntKind.i64.wrap (f + m) = f + m := IntWalk.i64_in _ (by omega)
      have y2 : IntKind.i64.wrap (f + m + 1) = f + m + 1 := IntWalk.i64_in _ (by omega)
      have hgood := hide (show exV es = vE (f + m + 1) (es.drop (k + 1)) by rw [HX.out, show inB f nx 11 = true by simp [inB]; omega, show inB m 1 (12 - f) = true by simp [inB]; omega]; rfl)
      have hN0 : 0 ≤ f + m + 1 := by omega
      have hN1 : f + m + 1 ≤ 13 := by omega
      clear HX HF
      go_wp2
      go_roundw
      case rel => exact ⟨k + 1, f + m + 1, by omega, by go_num, by go_num, hN0, hN1, hgood.out, HBA.out⟩
      case measure => simp [intOf]; omega
    · obtain rfl : k = n := by omega
      have HD := hide (show exV es = true by rw [HA.out, List.drop_of_length_le (by rw [HR.out.1]; exact Nat.le_refl _)]; rfl)
      go_wp2
      go_ret
      exact ⟨ret_bool HD.out.symm, HW.out⟩

theorem blk_ne_E {w : World} {g g' : Nat} {t t' : TypeId} {cs cs' : Array Value} (h : Blk w g t cs) (h' : Blk w g' t' cs') (hne : t ≠ t') : g ≠ g' := by
  intro e
  subst e
  unfold Blk at h h'
  rw [h] at h'
  injection h' with h'
  injection h' with _ h2
  exact hne h2
theorem own_blk_E {w : World} {g base n c : Nat} {t : TypeId} {cs : Array Value} {A : Option Addr} {xs : List Int} (h : Own w base A n c xs) (hg : Blk w g t cs) (hne : 3 ≠ t) : (Value.slice A n c).ownBlock ≠ some g := by
  rcases h.2.2 with ⟨hv, _⟩ | ⟨g', cap, cur, hv, _, hh, _⟩
  · rw [hv]; simp [Value.ownBlock]
  · rw [hv]
    intro he
    have : g' = g := by simpa [Value.ownBlock] using he
    subst this
    exact blk_ne_E (t := 3) hh hg hne rfl

set_option maxHeartbeats 3200000 in
theorem implBlocks (A : Option Addr) (n c B : Nat) (es : Exs) (w : World) (hr : ExI w B A n es) (hB : B ≤ w.heap.size) (hn : n ≤ 1000000000) (hg : Rg es) :
    Calls Try.prog 21 #[.slice A n c] w fun e w' => ∃ A2 n2 c2, e = .returned (.slice A2 n2 c2) ∧ Own w' w.heap.size A2 n2 c2 (blkE es) ∧ Below w.heap.size w w' := by
  have HR := hide hr
  have HB := hide hB
  have HV := hide (implEV A n c B es w hr hB hn hg)
  clear hr hg
  rcases hv : exV es with _ | _
  · have HE := hide (show blkE es = [] by unfold blkE; rw [hv]; rfl)
    rw [hv] at HV
    clear hv
    go_enter Try.func21, Try.ntmps21
    go_wp2_with fail
    refine HV.out.mono ?_
    rintro e w2 ⟨rfl, hb2⟩
    have HB2 := hide hb2
    clear hb2
    go_wp2
    go_ret
    exact ⟨_, _, _, rfl, by rw [HE.out]; exact Own.nil_ _ _, HB2.out⟩
  · have HE := hide (cat_blk hv)
    have HCL := hide (cat_len hv)
    rw [hv] at HV
    have HVV := hide hv
    clear hv
    go_enter Try.func21, Try.ntmps21
    go_wp2_with fail
    refine HV.out.mono ?_
    rintro e w2 ⟨rfl, hb2⟩
    have HB2 := hide hb2
    clear hb2 HV
    go_wp2_with fail
    go_loopw [3, 12] (fun s i wr => ∃ (k d c2 : Nat) (A2 : Option Addr), k ≤ n ∧ i = .int .i64 k ∧ s = .slice A2 d c2 ∧ Hid (Own wr w.heap.size A2 d c2 (cat (es.take k))) ∧ Hid (Below w.heap.size w wr)) (fun _ i _ => n - (intOf i).toNat)
    case atStart => exact ⟨0, 0, 0, none, Nat.zero_le _, rfl, rfl, Own.nil_ _ _, HB2.out⟩
    case round =>
      clear HB2
      obtain ⟨k, d, c2, A2, hk, rfl, rfl, HO, HW⟩ := hrel
      by_cases hlt : k < n
      · obtain ⟨e, he⟩ : ∃ e, es[k]? = some e := ⟨_, List.getElem?_eq_getElem (by rw [HR.out.1]; exact hlt)⟩
        have HS := hide (cat_take he)
        have hb := vE_far (show vE 0 es = true from HVV.out) e (List.mem_of_getElem? he)
        obtain ⟨ad, p, rfl, hp, hbl, hc0, hc1⟩ := (HR.out.below HW.out HB.out).at_ he
        clear he
        obtain ⟨f, m⟩ := e
        simp only at hc0 hc1 HS hb
        obtain ⟨hb0, hb1, hb2⟩ := hb
        obtain ⟨M, rfl⟩ := Int.eq_ofNat_of_zero_le (show 0 ≤ m by omega)
        rw [Int.toNat_natCast] at HS
        have k0 : (0 : Int) ≤ (k : Int) := by omega
        have k1 : (k : Int) < (n : Int) := by omega
        have hsz := HW.out.size
        have HWA := hide (HW.out.alloc hsz (.cells #[.int .i64 f, .int .i64 M] 42))
        have HOA := hide (HO.out.alloc (.cells #[.int .i64 f, .int .i64 M] 42))
        have HXB := hide (Blk.new wr 42 #[.int .i64 f, .int .i64 M])
        have HLEN := hide (show (cat (es.take k)).length + M ≤ 12 by
          have h1 := HCL.out
          have h2 : (cat (es.take (k + 1))).length ≤ (cat es).length := by
            have h3 : cat es = cat (es.take (k + 1)) ++ cat (es.drop (k + 1)) := by rw [← cat_append, List.take_append_drop]
            rw [h3, List.length_append]; omega
          rw [HS.out, List.length_append, seqI_length] at h2
          omega)
        obtain ⟨g, hgz⟩ : ∃ g, wr.heap.size = g := ⟨_, rfl⟩
        rw [hgz] at HXB
        clear HO HW
        go_wp2_with fail
        generalize hw1 : wr.alloc (.cells #[.int .i64 f, .int .i64 M] 42) = w1 at HWA HOA HXB ⊢
        clear hgz hc0 hc1
        go_loopw [3, 18] (fun s i wz => ∃ (j d2 c3 : Nat) (A3 : Option Addr), j ≤ M ∧ i = .int .i64 j ∧ s = .slice A3 d2 c3 ∧ Hid (Own wz w.heap.size A3 d2 c3 (cat (es.take k) ++ seqI f j)) ∧ Hid (Below w.heap.size w wz) ∧ Hid (Blk wz g 42 #[.int .i64 f, .int .i64 M])) (fun _ i _ => M - (intOf i).toNat)
        case atStart => exact ⟨0, d, c2, A2, Nat.zero_le _, rfl, rfl, by show Own _ _ _ _ _ (cat (es.take k) ++ []); rw [List.append_nil]; exact HOA.out, HWA, HXB⟩
        case round =>
          clear HOA HWA HXB hw1
          obtain ⟨j, d2, c3, A3, hj, rfl, rfl, HO, HW, HXB⟩ := hrel
          have hsz2 := HW.out.size
          by_cases hjm : j < M
          · have hx0 := HXB.out.cell 0
            simp only [List.getElem?_toArray, List.getElem?_cons_zero] at hx0
            have j0 : (0 : Int) ≤ (j : Int) := by omega
            have j1 : (j : Int) < (M : Int) := by omega
            obtain ⟨v, hv⟩ : ∃ v, f + (j : Int) = v := ⟨_, rfl⟩
            have HSN := hide (seqI_snoc j f)
            rw [hv] at HSN
            have yv : IntKind.i64.wrap v = v := IntWalk.i64_in _ (by omega)
            have hd2 : d2 ≤ 12 := by
              have h1 := HO.out.1
              have h2 := HLEN.out
              rw [List.length_append, seqI_length] at h1
              omega
            have HOA := hide (HO.out.alloc (.cells #[.int .i64 v] 3))
            have HXA := hide (HXB.out.alloc (.cells #[.int .i64 v] 3))
            have HNE := hide (own_blk_E HO.out HXB.out (by decide))
            go_wp2_with (at_builtin; refine wpList_append_ints rfl (.tmp 21) (.tmp 26) rfl w.heap.size d2 c3 (wr.heap.size + 1) 1 1 A3 (some ⟨wr.heap.size, 0, none⟩) (cat (es.take k) ++ seqI f j) [v] rfl HOA.out rfl (Ints.one wr v) (by omega) (by simp; omega) ?_; intro A8 c8 w8 ho8 hg8 hat8; have HB8 := hide (below_app HW.out hsz2 HO.out (Nat.le_refl _) hg8); have HX8 := hide (HXA.out.grown hg8 (fun e => HNE.out e.symm)); clear hat8 hg8)
            have HO8 := hide ho8
            rw [List.append_assoc, ← HSN.out] at HO8
            clear ho8
            go_roundw
            case rel => exact ⟨j + 1, d2 + 1, c8, A8, by omega, by go_num, rfl, HO8.out, HB8.out, HX8.out⟩
            case measure => simp [intOf]; omega
          · obtain rfl : j = M := by omega
            have HO2 := hide HO.out
            rw [← HS.out] at HO2
            go_wp2
            go_roundw
            case rel => exact ⟨k + 1, d2, c3, A3, by omega, by go_num, rfl, HO2.out, HW.out⟩
            case measure => simp [intOf]; omega
      · obtain rfl : k = n := by omega
        have HO2 := hide (show Own wr w.heap.size A2 d c2 (blkE es) by have h := HO.out; rwa [List.take_of_length_le (by rw [HR.out.1]; exact Nat.le_refl _), HE.out] at h)
        go_wp2
        go_ret
        exact ⟨_, _, _, rfl, HO2.out, HW.out⟩
end Go.Proofs.Ythpipgcgnhgphaa
