/-
  The program's wordsValid, zoneValid, DeviceValid.
-/
import Derived.Test.YtfianpjoifcphaaSpecZ1
import Derived.Test.YtfianpjoifcphaaFrameV
namespace Go.Proofs.Ytfianpjoifcphaa
open Go.RowKit
set_option linter.unusedVariables false
set_option maxRecDepth 100000

set_option maxHeartbeats 800000 in
theorem implWords (A : Option Addr) (n c B : Nat) (xs : List Int) (w : World) (hr : Ints w B A n xs) (hn : n ≤ maxLen) :
    Calls Try.prog 41 #[.slice A n c] w fun e w' => e = .returned (.bool (allW xs)) ∧ w = w' := by
  have HS := hide (implSum A n c B xs w hr hn)
  have HG := hide (sum_ge xs)
  have hlt := sumFrom_lt xs
  clear hr
  generalize sumFrom 7 xs = s at HS HG hlt
  go_enter Try.func41, Try.ntmps41
  go_wp2_with fail
  refine HS.out.mono ?_
  rintro e w1 ⟨rfl, rfl⟩
  go_wp2
  go_ret
  exact ⟨ret_bool HG.out, rfl⟩

set_option maxHeartbeats 1600000 in
theorem implZoneV (B m : Nat) (sy : Int) (fu : Bool) (A : Option Addr) (c : Nat) (ws : List Int) (w : World) (hi : Ints w B A m ws) (hB : B ≤ w.heap.size) (hm : m ≤ maxLen) :
    Calls Try.prog 40 #[.agg #[.slice A m c, .int .i64 sy, .bool fu]] w fun e w' => e = .returned (.bool (zoneOk (ws, sy, fu))) ∧ Below w.heap.size w w' := by
  have HW := hide fun (o : Obj) => implWords A m c B ws (w.alloc o) (hi.alloc hB o) hm
  have hm' : m ≤ 9223372036854775807 := by unfold maxLen at hm; omega
  have HX : Hid (zoneOk (ws, sy, fu) = (allW ws && decide (m ≤ 64) && inB sy 0 m)) := by show _ = _; unfold zoneOk; simp only [hi.1]
  clear hi hm
  generalize allW ws = v at HW HX
  by_cases h1 : m ≤ 64
  · have h1' : decide (64 < (m : Int)) = false := decide_eq_false (by omega)
    by_cases h2 : sy < 0
    · have hr : zoneOk (ws, sy, fu) = false := by rw [HX.out]; simp [inB]; omega
      have HR := hide hr
      clear hr HX
      go_enter Try.func40, Try.ntmps40
      go_wp2
      go_ret
      exact ⟨ret_bool HR.out.symm, below_box _ _⟩
    · by_cases h3 : (m : Int) < sy
      · have hr : zoneOk (ws, sy, fu) = false := by rw [HX.out]; simp [inB]; omega
        have HR := hide hr
        clear hr HX
        go_enter Try.func40, Try.ntmps40
        go_wp2
        go_ret
        exact ⟨ret_bool HR.out.symm, below_box _ _⟩
      · have hr : zoneOk (ws, sy, fu) = v := by
          rw [HX.out, inB_true (by omega) (by omega)]; simp [h1]
        have HR := hide hr
        clear hr HX
        go_enter Try.func40, Try.ntmps40
        go_wp2_with fail
        refine (HW.out _).mono ?_
        rintro e w1 ⟨rfl, rfl⟩
        go_wp2
        go_ret
        exact ⟨ret_bool HR.out.symm, below_box _ _⟩
  · have h1' : decide (64 < (m : Int)) = true := decide_eq_true (by omega)
    have hr : zoneOk (ws, sy, fu) = false := by rw [HX.out]; simp [h1]
    have HR := hide hr
    clear hr HX
    go_enter Try.func40, Try.ntmps40
    go_wp2
    go_ret
    exact ⟨ret_bool HR.out.symm, below_box _ _⟩

set_option maxHeartbeats 3200000 in
theorem implDV (A : Option Addr) (n c B : Nat) (qs : List Zq) (w : World) (hr : Zns w B A n qs) (hB : B ≤ w.heap.size) (hn : n ≤ 1000000000000) :
    Calls Try.prog 36 #[.slice A n c] w fun e w' => e = .returned (.bool (devV (zns qs))) ∧ Below w.heap.size w w' := by
  have HR := hide hr
  have HBB := hide hB
  have hl : (zns qs).length = n := by unfold zns; rw [List.length_map]; exact hr.1
  have HL := hide hl
  clear hr hl
  by_cases h4 : n = 4
  · subst h4
    have HV : Hid (devV (zns qs) = (zns qs).all zoneOk) := by show _ = _; unfold devV; rw [HL.out]; simp
    go_enter Try.func36, Try.ntmps36
    go_wp2
    go_loopw [10] (fun i wr => ∃ (k : Nat), k ≤ 4 ∧ i = .int .i64 k ∧ Hid (Below w.heap.size w wr) ∧ Hid ((zns qs).all zoneOk = (zns (qs.drop k)).all zoneOk)) (fun i _ => 4 - (intOf i).toNat)
    case atStart => exact ⟨0, Nat.zero_le _, rfl, Below.refl _ _, rfl⟩
    case round =>
      obtain ⟨k, hk, rfl, HB, HA⟩ := hrel
      have hs := HB.out.size
      by_cases hlt : k < 4
      · obtain ⟨q, hq⟩ : ∃ q, qs[k]? = some q := ⟨_, List.getElem?_eq_getElem (by rw [HR.out.1]; exact hlt)⟩
        have HX := hide (HA.out.trans (zns_all_next hq))
        have hR := HR.out.below HB.out HBB.out
        obtain ⟨ad, p, rfl, hp, hb, hc0, hc1, hc2⟩ := hR.at_ hq
        obtain ⟨hi, hle, hcm⟩ := hR.words hq
        clear HA hq hR
        obtain ⟨ws, sy, fu, qa, qc⟩ := q
        simp only [Zq.sl] at hc0 hc1 hc2 hi hle hcm
        obtain ⟨m, hm⟩ : ∃ m, ws.length = m := ⟨_, rfl⟩
        rw [hm] at hc0 hi hle
        have HZ := hide fun (o : Obj) => implZoneV B m sy fu qa qc ws (wr.alloc o) (hi.alloc (by omega) o) (by simp; omega) (by omega)
        have k0 : (0 : Int) ≤ (k : Int) := by omega
        have k1 : (k : Int) < ((4 : Nat) : Int) := by omega
        clear hm hi hle hcm
        obtain ⟨v, hv⟩ : ∃ v, zoneOk (ws, sy, fu) = v := ⟨_, rfl⟩
        rw [hv] at HZ
        have hz : zoneOk (Zq.zn ⟨ws, sy, fu, qa, qc⟩) = v := hv
        rw [hz] at HX
        clear hz hv
        rcases v with _ | _
        · go_wp2_with fail
          refine (HZ.out _).mono ?_
          rintro e w1 ⟨rfl, hb1⟩
          have HB1 := hide ((HB.out.alloc hs _).trans (hb1.mono (by simp; omega)))
          clear hb1
          go_wp2
          go_ret
          exact ⟨ret_bool (by rw [HV.out, HX.out]; rfl), HB1.out⟩
        · go_wp2_with fail
          refine (HZ.out _).mono ?_
          rintro e w1 ⟨rfl, hb1⟩
          have HB1 := hide ((HB.out.alloc hs _).trans (hb1.mono (by simp; omega)))
          clear hb1
          go_wp2
          go_roundw
          case rel => exact ⟨k + 1, by omega, by go_num, HB1.out, by show _ = _; rw [HX.out]; simp⟩
          case measure => simp [intOf]; omega
      · obtain rfl : k = 4 := by omega
        go_wp2
        go_ret
        exact ⟨ret_bool (by rw [HV.out, HA.out, List.drop_of_length_le (by rw [HR.out.1]; exact Nat.le_refl _)]; rfl), HB.out⟩
  · have HV : Hid (devV (zns qs) = false) := by show _ = _; unfold devV; rw [HL.out]; simp [h4]
    have h4' : ((n : Int) == 4) = false := by simpa using (by omega : ¬ (n : Int) = 4)
    have h4'' : ((n : Int) != 4) = true := by simpa using (by omega : ¬ (n : Int) = 4)
    go_enter Try.func36, Try.ntmps36
    go_wp2
    go_ret
    exact ⟨ret_bool HV.out.symm, Below.refl _ _⟩
end Go.Proofs.Ytfianpjoifcphaa
