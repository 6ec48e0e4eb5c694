/-
  The model's LayersValid, l14Find, l14Read.
-/
import Derived.Test.YtapfbkjgmfmepaaSpecY1
import Derived.Test.YtapfbkjgmfmepaaSum
namespace Go.Proofs.Ytapfbkjgmfmepaa
open Go.RowKit
set_option linter.unusedVariables false
set_option maxRecDepth 100000

theorem laysV_take_noY {ls : List Ly} {k : Nat} {p : Ly} (hk : ls[k]? = some p) (h : layV p = false) : laysV ls = false := by
  rcases hv : laysV ls with _ | _
  · rfl
  · have := (laysV_iff.1 hv).1 p (List.mem_of_getElem? hk)
    rw [h] at this; cases this
theorem all_takeY {ls : List Ly} {k : Nat} {p : Ly} (hk : ls[k]? = some p) (h : (ls.take k).all layV = true) (hp : layV p = true) : (ls.take (k + 1)).all layV = true := by
  rw [List.take_add_one, hk, List.all_append, h]
  simp [hp]

set_option maxHeartbeats 3200000 in
theorem specLays (A : Option Addr) (n c B : Nat) (qs : List Lq) (w : World) (hr : LyI w B A n qs) (hs : ∀ q ∈ qs, q.ps.length ≤ 1000000000) (hn : n ≤ 1000000000) :
    Calls Try.prog 34 #[.slice A n c] w fun e w' => e = .returned (.bool (laysV (lys qs))) ∧ ∃ z, w' = w.drewN z := by
  have hl := hr.1
  have HR := hide hr
  have HS := hide hs
  clear hr hs
  go_enter Try.func34, Try.ntmps34
  go_wp2
  go_loopw [3] (fun i wr => ∃ (k z : Nat), k ≤ n ∧ i = .int .i64 k ∧ wr = w.drewN z ∧ Hid (((lys qs).take k).all layV = true)) (fun i _ => n - (intOf i).toNat)
  case atStart => exact ⟨0, 0, Nat.zero_le _, rfl, rfl, rfl⟩
  case round =>
    obtain ⟨k, z, hk, rfl, rfl, HV⟩ := hrel
    by_cases hlt : k < n
    · obtain ⟨q, hq⟩ : ∃ q, qs[k]? = some q := ⟨_, List.getElem?_eq_getElem (by omega)⟩
      have hi := HR.out.drewN z
      obtain ⟨ad, rfl, hb, hc0⟩ := hi.at_ hq
      have HL := hide (specLay q.addr q.ps.length q.cap B q.ps (w.drewN z) (hi.layer hq).1 (HS.out q (List.mem_of_getElem? hq)))
      have HNO := hide fun h => laysV_take_noY (lys_get hq) h
      have HYES := hide fun h => all_takeY (lys_get hq) HV.out h
      clear hi hq
      unfold Lq.sl at hc0
      generalize layV q.ps = v at HL HNO HYES
      generalize hw : w.drewN z = wz at hc0 HL ⊢
      go_wp2_with fail
      refine HL.out.mono ?_
      rintro e w2 ⟨rfl, y, rfl⟩
      have HZ := hide (show wz.drewN y = w.drewN (z + y) by rw [← hw, World.drewN_drewN])
      rcases v with _ | _
      · have HV2 := hide (HNO.out rfl)
        go_wp2
        go_ret
        exact ⟨ret_bool HV2.out.symm, _, HZ.out⟩
      · have HV2 := hide (HYES.out rfl)
        go_wp2
        go_roundw
        case rel => exact ⟨k + 1, z + y, by omega, by go_num, HZ.out, HV2.out⟩
        case measure => simp [intOf]; omega
    · obtain rfl : k = n := by omega
      have HE := hide (show laysV (lys qs) = inB k 1 5 by
        have h := HV.out
        unfold laysV
        rw [List.take_of_length_le (by rw [lys_length]; omega)] at h
        rw [h, lys_length, hl]; rfl)
      go_wp2_with fail
      refine (in_any _ _ _ _).mono ?_
      rintro e w' ⟨rfl, rfl⟩
      go_wp2
      go_ret
      exact ⟨ret_bool HE.out.symm, z, rfl⟩

theorem findL_part {ps : Ly} {k : Nat} {e : Int × Int} (he : ps[k]? = some e) (x : Int) : findL (ps.drop k) x = if e.1 = x then e.2 else findL (ps.drop (k + 1)) x := by
  have hl : k < ps.length := (List.getElem?_eq_some_iff.1 he).1
  have e2 : ps[k] = e := (List.getElem?_eq_some_iff.1 he).2
  rw [List.drop_eq_getElem_cons hl, e2]
  rfl

set_option maxHeartbeats 1600000 in
theorem specFind (A : Option Addr) (n c B : Nat) (ps : Ly) (b : Int) (w : World) (hr : PrI w B A n ps) (hn : n ≤ 1000000000) :
    Calls Try.prog 66 #[.slice A n c, .int .i64 b] w fun e w' => e = .returned (.int .i64 (findL ps b)) ∧ w' = w := by
  have hl := hr.1
  have HR := hide hr
  clear hr
  go_enter Try.func66, Try.ntmps66
  go_wp2
  go_loop [5] (fun i => ∃ (k : Nat), k ≤ n ∧ i = .int .i64 k ∧ Hid (findL ps b = findL (ps.drop k) b)) (fun i => n - (intOf i).toNat)
  case atStart => exact ⟨0, Nat.zero_le _, rfl, rfl⟩
  case round =>
    obtain ⟨k, hk, rfl, HA⟩ := hrel
    by_cases hlt : k < n
    · obtain ⟨e, he⟩ : ∃ e, ps[k]? = some e := ⟨_, List.getElem?_eq_getElem (by omega)⟩
      have HX := hide (HA.out.trans (findL_part he b))
      obtain ⟨ad, p, rfl, hp, hb, hc0, hc1⟩ := HR.out.at_ he
      obtain ⟨f, m⟩ := e
      simp only at hc0 hc1 HX
      clear HA he
      by_cases hf : f = b
      · subst hf
        rw [if_pos rfl] at HX
        go_wp2
        go_ret
        exact ⟨ret_int HX.out.symm, rfl⟩
      · rw [if_neg hf] at HX
        have hf' : (f == b) = false := by simpa using hf
        go_wp2
        go_round
        case rel => exact ⟨k + 1, by omega, by go_num, HX.out⟩
        case measure => simp [intOf]; omega
    · obtain rfl : k = n := by omega
      have HE := hide (show findL ps b = -1 by rw [HA.out, List.drop_of_length_le (by omega)]; rfl)
      go_wp2
      go_ret
      exact ⟨ret_int HE.out.symm, rfl⟩

theorem readN_step (ls : List Ly) (b : Int) (n : Nat) : readN ls b (n + 1) = if 0 ≤ findL (ls.getD n []) b then findL (ls.getD n []) b else readN ls b n := rfl

set_option maxHeartbeats 3200000 in
theorem specRd (A : Option Addr) (n c B m : Nat) (qs : List Lq) (b : Int) (w : World) (hr : LyI w B A n qs) (hs : ∀ q ∈ qs, q.ps.length ≤ 1000000000) (hn : n ≤ 1000000000) (hm : m ≤ n) :
    Calls Try.prog 50 #[.slice A n c, .int .i64 (m : Int), .int .i64 b] w fun e w' => e = .returned (.int .i64 (readN (lys qs) b m)) ∧ w' = w := by
  have hl := hr.1
  have HR := hide hr
  have HS := hide hs
  have wm : IntKind.i64.wrap ((m : Int) - 1) = (m : Int) - 1 := IntWalk.i64_in _ (by omega)
  clear hr hs
  go_enter Try.func50, Try.ntmps50
  go_wp2
  go_loop [7, 8] (fun i _ => ∃ (k : Nat), k ≤ n ∧ i = .int .i64 ((k : Int) - 1) ∧ Hid (readN (lys qs) b m = readN (lys qs) b k)) (fun i _ => (intOf i + 1).toNat)
  case atStart => exact ⟨m, hm, rfl, rfl⟩
  case round =>
    obtain ⟨k, hk, rfl, HA⟩ := hrel
    rcases k with _ | k
    · have HE := hide (show readN (lys qs) b m = 0 from HA.out)
      go_wp2
      go_ret
      exact ⟨ret_int HE.out.symm, rfl⟩
    · obtain ⟨q, hq⟩ : ∃ q, qs[k]? = some q := ⟨_, List.getElem?_eq_getElem (by omega)⟩
      obtain ⟨ad, rfl, hb, hc0⟩ := HR.out.at_ hq
      have HL := hide (specFind q.addr q.ps.length q.cap B q.ps b w (HR.out.layer hq).1 (HS.out q (List.mem_of_getElem? hq)))
      have HX := hide (HA.out.trans (readN_step (lys qs) b k))
      rw [lys_getD hq] at HX
      unfold Lq.sl at hc0
      clear HA hq
      generalize findL q.ps b = v at HL HX
      have k0 : (0 : Int) ≤ (k : Int) := by omega
      have k1 : (k : Int) < (n : Int) := by omega
      have k3 : IntKind.i64.wrap ((k : Int) - 1) = (k : Int) - 1 := IntWalk.i64_in _ (by omega)
      rw [show ((k + 1 : Nat) : Int) - 1 = (k : Int) by omega]
      by_cases hv : 0 ≤ v
      · rw [if_pos hv] at HX
        go_wp2_with fail
        refine HL.out.mono ?_
        rintro e w2 ⟨rfl, rfl⟩
        go_wp2
        go_ret
        exact ⟨ret_int HX.out.symm, rfl⟩
      · rw [if_neg hv] at HX
        go_wp2_with fail
        refine HL.out.mono ?_
        rintro e w2 ⟨rfl, rfl⟩
        go_wp2
        go_round
        case rel => exact ⟨k, by omega, rfl, HX.out⟩
        case measure => simp [intOf]
end Go.Proofs.Ytapfbkjgmfmepaa
