/-
  The model's DeviceValid, l3Zone, l3Room: they only read.
-/
import Derived.Test.YtfianpjoifcphaaGreatG1
import Derived.Deep.QuietTactic
import Derived.BigQuiet
namespace Go.Proofs.YtfianpjoifcphaaGreat
open Go.RowKit
set_option linter.unusedVariables false
set_option maxRecDepth 100000

/-- a zone is valid -/
def zoneOk (z : List Int × Int × Bool) : Bool := allW z.1 && decide (z.1.length ≤ 64) && inB z.2.1 0 z.1.length
/-- a device is valid -/
def devV (ds : Dev) : Bool := ds.all zoneOk && decide (ds.length = 4)

theorem quiet_on {P : Program} {f : FuncId} {args : Array Value} {W : World} {i j : Nat} {r : Value} (c : Calls P f args (W.drewN (i + j)) fun e U => e = .returned r ∧ U = W.drewN (i + j)) :
    Calls P f args (W.drewN (i + j)) fun e U => e = .returned r ∧ ∃ z, U = W.drewN (i + z) := c.mono fun _ _ ⟨he, hz⟩ => ⟨he, j, hz⟩

theorem zns_all_next {qs : List Zq} {k : Nat} {q : Zq} (h : qs[k]? = some q) : (zns (qs.drop k)).all zoneOk = (zoneOk q.zn && (zns (qs.drop (k + 1))).all zoneOk) := by
  have hl : k < qs.length := (List.getElem?_eq_some_iff.1 h).1
  have e : qs[k] = q := (List.getElem?_eq_some_iff.1 h).2
  rw [List.drop_eq_getElem_cons hl, e]
  simp [zns]

set_option maxHeartbeats 3200000 in
theorem specDV (A : Option Addr) (n c B : Nat) (qs : List Zq) (w : World) (hr : Zns w B A n qs) (hn : n ≤ 1000000000000) :
    Calls Tryz.prog 39 #[.slice A n c] w fun e w' => e = .returned (.bool (devV (zns qs))) ∧ ∃ z, w' = w.drewN z := by
  have HR := hide hr
  clear hr
  go_enter Tryz.func39, Tryz.ntmps39
  go_wp2
  go_loopw [3] (fun i wr => ∃ (k z : Nat), k ≤ n ∧ i = .int .i64 k ∧ wr = w.drewN z ∧ Hid ((zns qs).all zoneOk = (zns (qs.drop k)).all zoneOk)) (fun i _ => n - (intOf i).toNat)
  case atStart => exact ⟨0, 0, Nat.zero_le _, rfl, rfl, rfl⟩
  case round =>
    obtain ⟨k, z, hk, rfl, rfl, HA⟩ := hrel
    by_cases hlt : k < n
    · obtain ⟨q, hq⟩ : ∃ q, qs[k]? = some q := ⟨_, List.getElem?_eq_getElem (by rw [HR.out.1]; exact hlt)⟩
      have HX := hide (HA.out.trans (zns_all_next hq))
      obtain ⟨ad, p, rfl, hp, hb, hc0, hc1, hc2⟩ := HR.out.at_ hq
      obtain ⟨hi, hle, hcm⟩ := HR.out.words hq
      clear HA hq hc2
      obtain ⟨ws, sy, fu, qa, qc⟩ := q
      simp only [Zq.sl] at hc0 hc1 hi hle hcm
      obtain ⟨m, hm⟩ : ∃ m, ws.length = m := ⟨_, rfl⟩
      rw [hm] at hc0 hi hle
      have hmx : m ≤ 9223372036854775807 := by unfold maxLen at hcm; omega
      have HM := hide hm
      have HW : Hid (∀ j, Calls Tryz.prog 97 #[.slice qa m qc] (w.drewN j) fun e U => e = .returned (.bool (allW ws)) ∧ U = w.drewN j) :=
        fun j => (words_any qa m qc B ws (w.drewN j) (hi.drewN j) (by unfold maxLen; omega)).mono fun _ _ ⟨a, b⟩ => ⟨a, b.symm⟩
      have HI : Hid (∀ j, Calls Tryz.prog 60 #[.int .i64 sy, .int .i64 0, .int .i64 m] (w.drewN j) fun e U => e = .returned (.bool (inB sy 0 m)) ∧ U = w.drewN j) :=
        fun j => (in_any sy 0 m (w.drewN j)).mono fun _ _ ⟨a, b⟩ => ⟨a, b.symm⟩
      have k0 : (0 : Int) ≤ (k : Int) := by omega
      have k1 : (k : Int) < (n : Int) := by omega
      clear hm hi hle hcm
      obtain ⟨v1, e1⟩ : ∃ v, allW ws = v := ⟨_, rfl⟩
      obtain ⟨v3, e3⟩ : ∃ v, inB sy 0 m = v := ⟨_, rfl⟩
      rw [e1] at HW
      rw [e3] at HI
      have HE := hide (And.intro e1 e3)
      clear e1 e3
      have hz : zoneOk (Zq.zn ⟨ws, sy, fu, qa, qc⟩) = (v1 && decide (m ≤ 64) && v3) := by
        unfold zoneOk Zq.zn
        simp only [HM.out, HE.out.1, HE.out.2]
      rw [hz] at HX
      clear hz HE HM
      rcases v1 with _ | _
      · go_wp2_with fail
        go_quiet ((first | (go_at_call 97; exact quiet_on (HW.out _)) | (go_at_call 60; exact quiet_on (HI.out _))))
        go_wp2
        go_ret
        exact ⟨ret_bool (by unfold devV; rw [HX.out]; rfl), _, World.drewN_drewN _ _ _⟩
      · by_cases h2 : m ≤ 64
        · have h2' : decide (64 < (m : Int)) = false := decide_eq_false (by omega)
          rcases v3 with _ | _
          · go_wp2_with fail
            go_quiet ((first | (go_at_call 97; exact quiet_on (HW.out _)) | (go_at_call 60; exact quiet_on (HI.out _))))
            go_wp2
            go_ret
            exact ⟨ret_bool (by unfold devV; rw [HX.out]; simp), _, World.drewN_drewN _ _ _⟩
          · go_wp2_with fail
            go_quiet ((first | (go_at_call 97; exact quiet_on (HW.out _)) | (go_at_call 60; exact quiet_on (HI.out _))))
            go_wp2
            go_roundw
            case rel => exact ⟨k + 1, _, by omega, by go_num, rfl, by show _ = _; rw [HX.out]; simp [h2]⟩
            case measure => simp [intOf]; omega
        · have h2' : decide (64 < (m : Int)) = true := decide_eq_true (by omega)
          go_wp2_with fail
          go_quiet ((first | (go_at_call 97; exact quiet_on (HW.out _)) | (go_at_call 60; exact quiet_on (HI.out _))))
          go_wp2
          go_ret
          exact ⟨ret_bool (by unfold devV; rw [HX.out]; simp [h2]), _, World.drewN_drewN _ _ _⟩
    · obtain rfl : k = n := by omega
      have hd : (zns qs).all zoneOk = true := by rw [HA.out, List.drop_of_length_le (by rw [HR.out.1]; exact Nat.le_refl _)]; rfl
      have hl : (zns qs).length = k := by unfold zns; rw [List.length_map]; exact HR.out.1
      have HD := hide (And.intro hd hl)
      clear hd hl
      go_wp2
      go_ret
      refine ⟨ret_bool ?_, z, rfl⟩
      unfold devV
      rw [HD.out.1, HD.out.2, Bool.true_and]
      exact Bool.eq_iff_iff.2 (by simp; omega)

set_option maxHeartbeats 1600000 in
/-- whether there is a zone of a valid device -/
theorem specZone (A : Option Addr) (n c B : Nat) (z : Int) (qs : List Zq) (w : World) (hr : Zns w B A n qs) (hn : n ≤ 1000000000000) :
    Calls Tryz.prog 156 #[.slice A n c, .int .i64 z] w fun e w' => e = .returned (.bool (devV (zns qs) && inB z 0 3)) ∧ ∃ q, w' = w.drewN q := by
  have HV := hide (specDV A n c B qs w hr hn)
  have HI := hide fun W => in_any z 0 3 W
  clear hr
  generalize devV (zns qs) = v at HV ⊢
  generalize inB z 0 3 = u at HI ⊢
  go_enter Tryz.func156, Tryz.ntmps156
  rcases v with _ | _
  · go_wp2_with fail
    refine HV.out.mono ?_
    rintro e w1 ⟨rfl, q, rfl⟩
    go_wp2
    go_ret
    exact ⟨rfl, q, rfl⟩
  · go_wp2_with fail
    refine HV.out.mono ?_
    rintro e w1 ⟨rfl, q, rfl⟩
    go_wp2_with fail
    refine (HI.out _).mono ?_
    rintro e w1 ⟨rfl, rfl⟩
    go_wp2
    go_ret
    exact ⟨ret_bool (by simp), q, rfl⟩
set_option maxHeartbeats 1600000 in
/-- whether a zone has room for so many words -/
theorem specRoom (A : Option Addr) (n c B k m : Nat) (q : Zq) (qs : List Zq) (w : World) (hr : Zns w B A n qs) (hq : qs[k]? = some q) (hn : n ≤ 1000000000000) (hm : m ≤ 1000000000000) (hl : q.words.length ≤ 1000000000000) :
    Calls Tryz.prog 157 #[.slice A n c, .int .i64 k, .int .i64 m] w fun e w' => e = .returned (.bool (!q.full && decide (q.words.length + m ≤ 64))) ∧ ∃ z, w' = w.drewN z := by
  have hkn : k < n := by rw [← hr.1]; exact (List.getElem?_eq_some_iff.1 hq).1
  obtain ⟨ad, p, rfl, hp, hb, hc0, hc1, hc2⟩ := hr.at_ hq
  clear hr hq hc1
  obtain ⟨ws, sy, fu, qa, qc⟩ := q
  simp only [Zq.sl] at hc0 hc2 hl ⊢
  generalize ws.length = l at hc0 hl ⊢
  have k0 : (0 : Int) ≤ (k : Int) := by omega
  have k1 : (k : Int) < (n : Int) := by omega
  go_enter Tryz.func157, Tryz.ntmps157
  rcases fu with _ | _
  · go_wp2_with fail
    try (go_quiet (fail))
    try go_wp2
    go_ret
    exact ⟨ret_bool (by first | rfl | (simp; omega)), by first | exact ⟨_, rfl⟩ | exact ⟨0, rfl⟩⟩
  · go_wp2_with fail
    try (go_quiet (fail))
    try go_wp2
    go_ret
    exact ⟨rfl, by first | exact ⟨_, rfl⟩ | exact ⟨0, rfl⟩⟩
end Go.Proofs.YtfianpjoifcphaaGreat
