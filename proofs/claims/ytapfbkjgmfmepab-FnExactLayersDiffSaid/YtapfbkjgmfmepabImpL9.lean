/-
  The program's LayersDiff.
-/
import Derived.Test.YtapfbkjgmfmepabImpLT
import Derived.Deep.RegionHeld3
namespace Go.Proofs.Ytapfbkjgmfmepab
open Go.RowKit Go.Shelf
set_option linter.unusedVariables false
set_option maxRecDepth 100000

/-- numbers handed back -/
def IntsPost (w : World) (xs : List Int) (e : Ending) (w' : World) : Prop := ∃ A2 m c2, e = .returned (.slice A2 m c2) ∧ Own w' w.heap.size A2 m c2 xs ∧ Below w.heap.size w w'
theorem min_lo {a b : Int} (h : a < 0 ∨ b < 0) : min a b < 0 := by omega
theorem readN_firsts {ts : List Tr} {b : Int} {n : Nat} (h : n ≤ ts.length) : readN (tvs (ts.take n)) b n = readN (tvs ts) b n := by
  refine readN_congr fun i hi => ?_
  rw [tvs_take]
  unfold List.getD
  rw [List.getElem?_take_of_lt hi]
theorem diffN_step (ls : List Ly) (a b k : Nat) : diffN ls a b (k + 1) = diffN ls a b k ++ (if readN ls k a = readN ls k b then [] else [((k : Nat) : Int)]) := rfl

set_option maxHeartbeats 6400000 in
theorem implDiff (A : Option Addr) (n c B : Nat) (qs : List Lq) (a b : Int) (w : World) (hr : LyI w B A n qs) (hB : B ≤ w.heap.size) (hs : ∀ q ∈ qs, q.ps.length ≤ 1000000000) (hn : n ≤ 1000000000) :
    Calls Try.prog 13 #[.slice A n c, .int .i64 a, .int .i64 b] w (IntsPost w (dfL (lys qs) a b)) := by
  have hl := hr.1
  by_cases hv : laysV (lys qs) = true
  · have HT := hide (treesOf_yes A n c B qs w hr hB hv)
    have HV := hide hv
    have h5 := (laysV_iff.1 hv).2.2
    rw [lys_length, hl] at h5
    by_cases hab : (0 ≤ a ∧ a ≤ n) ∧ (0 ≤ b ∧ b ≤ n)
    · obtain ⟨⟨a0, a1⟩, ⟨b0, b1⟩⟩ := hab
      obtain ⟨x, rfl⟩ : ∃ x : Nat, a = (x : Int) := ⟨a.toNat, by omega⟩
      obtain ⟨y, rfl⟩ : ∃ y : Nat, b = (y : Int) := ⟨b.toNat, by omega⟩
      have HE := hide (show dfL (lys qs) x y = diffN (lys qs) x y 12 by
        unfold dfL dfV
        rw [hv, lys_length, hl, inB_iff.2 ⟨a0, a1⟩, inB_iff.2 ⟨b0, b1⟩]; rfl)
      have m1 : ¬ (min (x : Int) (y : Int) < 0) := by omega
      have m2 : ¬ ((n : Int) < max (x : Int) (y : Int)) := by omega
      have HLQ := hide hl
      clear hr hs hv hl
      go_enter Try.func13, Try.ntmps13
      go_wp2_with fail
      refine HT.out.mono ?_
      rintro e w2 ⟨A2, c2, ts, rfl, ht2, he2, hb2⟩
      have HB2 := hide hb2
      have HT2 := hide ht2
      have HE2 := hide he2
      have hnc := ht2.cap
      clear ht2 hb2 he2 HT
      go_wp2_with fail
      all_goals
        have HVX := hide fun (W : World) (h : Below w2.heap.size w2 W) (k : Nat) => by
          have ht := HT2.out.below h
          have := value_any A2 x c2 (ts.take x) (k : Int) W (ht.pti.firsts (m := x) (by omega)) (fun t ht' => trees_valid ht HE2.out HV.out t (List.mem_of_mem_take ht')) (by omega)
          rw [readN_firsts (by rw [ht.len]; omega), HE2.out] at this
          exact this
        have HVY := hide fun (W : World) (h : Below w2.heap.size w2 W) (k : Nat) => by
          have ht := HT2.out.below h
          have := value_any A2 y c2 (ts.take y) (k : Int) W (ht.pti.firsts (m := y) (by omega)) (fun t ht' => trees_valid ht HE2.out HV.out t (List.mem_of_mem_take ht')) (by omega)
          rw [readN_firsts (by rw [ht.len]; omega), HE2.out] at this
          exact this
        clear HT2 HE2
        go_loopw [9, 10, 32] (fun o _ i wr => ∃ (k m c3 : Nat) (A3 : Option Addr), k ≤ 12 ∧ i = .int .i64 k ∧ o = .slice A3 m c3 ∧ m ≤ k ∧ Hid (Own wr w2.heap.size A3 m c3 (diffN (lys qs) x y k)) ∧ Hid (Below w2.heap.size w2 wr)) (fun _ _ i _ => 12 - (intOf i).toNat)
        case atStart => exact ⟨0, 0, 0, none, Nat.zero_le _, rfl, rfl, Nat.le_refl _, Own.nil_ _ _, Below.refl _ _⟩
        case round =>
          obtain ⟨k, m, c3, A3, hk, rfl, rfl, hmk, HO, HB⟩ := hrel
          have hsz := HB.out.size
          by_cases hlt : k < 12
          · have k0 : (0 : Int) ≤ (k : Int) := by omega
            have k1 : (k : Int) < 12 := by omega
            have x0 : (x : Int) ≤ (c2 : Int) := by omega
            have y0 : (y : Int) ≤ (c2 : Int) := by omega
            have HST := hide (diffN_step (lys qs) x y k)
            have HX := hide fun (W : World) (h : Below wr.heap.size wr W) => HVX.out W (HB.out.trans (h.mono hsz)) k
            have HY := hide fun (W : World) (h : Below wr.heap.size wr W) => HVY.out W (HB.out.trans (h.mono hsz)) k
            generalize readN (lys qs) k x = v1 at HX HST
            generalize readN (lys qs) k y = v2 at HY HST
            have hbd := below_drewN (Below.refl wr.heap.size wr) 1
            by_cases heq : v1 = v2
            · subst heq
              rw [if_pos rfl, List.append_nil] at HST
              go_wp2_with fail
              go_region_with ((first
                | (go_at_call 31; refine (HX.out _ HBY).mono ?_; rintro e u1 ⟨rfl, hu1⟩; have HBX := HBY.trans (hu1.mono HBY.size); have HBF := HBX; clear hu1)
                | (go_at_call 31; refine (HY.out _ HBX).mono ?_; rintro e u2 ⟨rfl, hu2⟩; have HBY := HBX.trans (hu2.mono HBX.size); have HBF := HBY; clear hu2)
                | (go_at_call 31; refine (HX.out _ hbd).mono ?_; rintro e u1 ⟨rfl, hu1⟩; have HBX := hbd.trans (hu1.mono hbd.size); clear hu1)
                | (go_at_call 31; refine (HY.out _ hbd).mono ?_; rintro e u2 ⟨rfl, hu2⟩; have HBY := hbd.trans (hu2.mono hbd.size); clear hu2)))
              all_goals
                have HO2 := hide (HO.out.below HBF)
                have HB3 := hide (HB.out.trans (HBF.mono hsz))
                clear HBX HBY HBF
                go_wp2
                go_roundw
                case rel => exact ⟨k + 1, m, c3, A3, by omega, by go_num, rfl, by omega, by rw [HST.out]; exact HO2.out, HB3.out⟩
                case measure => simp [intOf]; omega
            · rw [if_neg heq] at HST
              have hne : (v1 != v2) = true := by simpa using heq
              go_wp2_with fail
              go_region_with ((first
                | (go_at_call 31; refine (HX.out _ HBY).mono ?_; rintro e u1 ⟨rfl, hu1⟩; have HBX := HBY.trans (hu1.mono HBY.size); have HBF := HBX; clear hu1)
                | (go_at_call 31; refine (HY.out _ HBX).mono ?_; rintro e u2 ⟨rfl, hu2⟩; have HBY := HBX.trans (hu2.mono HBX.size); have HBF := HBY; clear hu2)
                | (go_at_call 31; refine (HX.out _ hbd).mono ?_; rintro e u1 ⟨rfl, hu1⟩; have HBX := hbd.trans (hu1.mono hbd.size); clear hu1)
                | (go_at_call 31; refine (HY.out _ hbd).mono ?_; rintro e u2 ⟨rfl, hu2⟩; have HBY := hbd.trans (hu2.mono hbd.size); clear hu2)))
              all_goals
                have HO2 := hide ((HO.out.below HBF).alloc (.cells #[.int .i64 (k : Int)] 3))
                have HB3 := hide (HB.out.trans (HBF.mono hsz))
                have hs3 := HB3.out.size
                clear HBX HBY
                go_wp2_with (at_builtin; refine wpList_append_ints rfl (.tmp 46) (.tmp 48) rfl w2.heap.size m c3 _ 1 _ A3 _ (diffN (lys qs) x y k) [(k : Int)] rfl HO2.out rfl (Ints.one _ _) (by omega) (by simp; omega) ?_; intro A8 c8 w8 ho8 hg8 hat8; clear hat8)
                have HO8 := hide ho8
                have HB8 := hide ((HB3.out.alloc hs3 _).grown hg8 (by simp; omega) fun g hg => (HO.out.block g hg).1)
                clear ho8 hg8
                go_wp2
                go_roundw
                case rel => exact ⟨k + 1, m + 1, c8, A8, by omega, by go_num, rfl, by omega, by rw [HST.out]; exact HO8.out, HB8.out⟩
                case measure => simp [intOf]; omega
          · obtain rfl : k = 12 := by omega
            go_wp2
            go_ret
            exact ⟨A3, m, c3, rfl, by rw [HE.out]; exact HO.out.mono HB2.out.size, HB2.out.trans (HB.out.mono HB2.out.size)⟩
    · have hfl : dfL (lys qs) a b = [] := by
        unfold dfL
        have : dfV (lys qs) a b = false := by
          rcases h : dfV (lys qs) a b with _ | _
          · rfl
          · unfold dfV at h
            rw [hv, Bool.true_and, Bool.and_eq_true, inB_iff, inB_iff, lys_length, hl] at h
            exact absurd h hab
        rw [this]; rfl
      have HE := hide hfl
      have HEND := hide fun (w' : World) (h : Below w.heap.size w w') => (⟨none, 0, 0, rfl, by rw [hfl]; exact Own.nil_ _ _, h⟩ : IntsPost w (dfL (lys qs) a b) (.returned (.slice none 0 0)) w')
      clear hr hs hv hl hfl
      go_enter Try.func13, Try.ntmps13
      go_wp2_with fail
      refine HT.out.mono ?_
      rintro e w2 ⟨A2, c2, ts, rfl, ht2, he2, hb2⟩
      have HB2 := hide hb2
      clear ht2 hb2 he2 HT
      go_wp2_with fail
      all_goals first
        | (exfalso; omega)
        | (go_wp2; go_ret; exact HEND.out _ HB2.out)
  · have hv' : laysV (lys qs) = false := by simpa using hv
    have HT := hide (treesOf_no A n c B qs w hr hB hs hn hv')
    have HE := hide (show dfL (lys qs) a b = [] by unfold dfL dfV; rw [hv']; rfl)
    clear hr hs hv hv'
    go_enter Try.func13, Try.ntmps13
    go_wp2_with fail
    refine HT.out.mono ?_
    rintro e w2 ⟨rfl, hb2⟩
    have HB2 := hide hb2
    clear hb2
    go_wp2
    go_ret
    exact ⟨none, 0, 0, rfl, by rw [HE.out]; exact Own.nil_ _ _, HB2.out⟩
end Go.Proofs.Ytapfbkjgmfmepab
