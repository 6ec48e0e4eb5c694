/-
  The model's l12Device and ScanDevice: the frames of all zones, ordered by their numbers.
-/
import Derived.Test.YtcocboigjfjnfacSpecN2
namespace Go.Proofs.Ytcocboigjfjnfac
open Go.RowKit
set_option linter.unusedVariables false
set_option maxRecDepth 100000

/-- the frames of the first zones, zone by zone -/
noncomputable def scansZ (d : Dev) (k : Nat) : List (List Fn) := (List.range k).map fun (i : Nat) => (scanW (i : Int) (d.getD i ([], 0, false)).1 0).1
noncomputable def devF (d : Dev) : List Fn := orderF (scansZ d d.length)
theorem scansZ_succ {qs : List Zq} {k : Nat} {q : Zq} (h : qs[k]? = some q) : scansZ (zns qs) (k + 1) = scansZ (zns qs) k ++ [(scanW (k : Int) q.words 0).1] := by
  unfold scansZ
  rw [List.range_succ, List.map_append]
  simp [zns, List.getD, h, Zq.zn]

set_option maxHeartbeats 6400000 in
theorem specDeviceF (A : Option Addr) (n c B : Nat) (qs : List Zq) (w : World) (hr : Zns w B A n qs) (hB : B ≤ w.heap.size) (hn : n ≤ 100) (hl : ∀ q ∈ qs, q.words.length ≤ 1000000) :
    Calls Try.prog 29 #[.slice A n c] w fun e w' => ∃ A2 c2 m rs, e = .returned (.slice A2 m c2) ∧ OwnF w' w.heap.size A2 m c2 rs ∧ fns rs = devF (zns qs) ∧ Below w.heap.size w w' := by
  have HR := hide hr
  have HL := hide hl
  have HBB := hide hB
  clear hr hl
  go_enter Try.func29, Try.ntmps29
  go_wp2
  go_loopw [3, 4] (fun o z wr => ∃ (k m c2 : Nat) (A2 : Option Addr) (rs : List Fq), k ≤ n ∧ m ≤ k * 200000 ∧ z = .int .i64 k ∧ o = .slice A2 m c2 ∧ Hid (OwnF wr w.heap.size A2 m c2 rs) ∧ Hid (fns rs = orderF (scansZ (zns qs) k)) ∧ Hid (Below w.heap.size w wr)) (fun _ z _ => n - (intOf z).toNat)
  case atStart => exact ⟨0, 0, 0, _, [], Nat.zero_le _, Nat.zero_le _, rfl, rfl, OwnF.lit0 w _ (Nat.le_refl _), rfl, below_new w _⟩
  case round =>
    obtain ⟨k, m, c2, A2, rs, hk, hm, rfl, rfl, HO, HF, HB⟩ := hrel
    have hs := HB.out.size
    by_cases hlt : k < n
    · obtain ⟨q, hq⟩ : ∃ q, qs[k]? = some q := ⟨_, List.getElem?_eq_getElem (by rw [HR.out.1]; omega)⟩
      have HZ := hide (scansZ_succ hq)
      have HC := hide (specScanL A n c B k q qs wr (HR.out.below HB.out HBB.out) (by omega) (by omega) hq (HL.out q (List.mem_of_getElem? hq)))
      have hct := scan_count (k : Int) q.words 0
      have hql := HL.out q (List.mem_of_getElem? hq)
      have k1 : (k : Int) < (n : Int) := by omega
      clear hq
      go_wp2_with fail
      refine HC.out.mono ?_
      rintro e w1 ⟨A5, c5, l, ls, rfl, ho5, hf5, hb5⟩
      rw [← hf5] at HZ hct
      have hll : l ≤ 200000 := by rw [fns_length, ho5.len] at hct; omega
      have HO5 := hide (ho5.mono hs)
      have HO1 := hide (HO.out.below hb5)
      have HB1 := hide (HB.out.trans (hb5.mono hs))
      have HFAR : Hid (∀ r ∈ rs, ∀ (j : Nat) (q : Fq), 0 ≤ j → ls[j]? = some q → ∀ g, r.sl.ownBlock = some g → q.sl.ownBlock ≠ some g) := fun r hr j q _ hj g hg e => by
        obtain ⟨i, hi⟩ := List.getElem?_of_mem hr
        have h1 := (HO.out.wblock hi g hg).2
        have h2 := (ho5.wblock hj g e).1
        omega
      clear ho5 hf5 hb5 hct hql HC
      go_wp2
      go_loopw [3, 7] (fun o i wi => ∃ (j c3 : Nat) (A3 : Option Addr) (ts : List Fq), j ≤ l ∧ i = .int .i64 j ∧ o = .slice A3 (m + j) c3 ∧ Hid (OwnF wi w.heap.size A3 (m + j) c3 ts) ∧ Hid (OwnF wi w.heap.size A5 l c5 ls) ∧
        Hid (fns ts = insAll (orderF (scansZ (zns qs) k)) ((fns ls).take j)) ∧ Hid (∀ r ∈ ts, ∀ (j' : Nat) (q : Fq), j ≤ j' → ls[j']? = some q → ∀ g, r.sl.ownBlock = some g → q.sl.ownBlock ≠ some g) ∧ Hid (Below w.heap.size w wi)) (fun _ i _ => l - (intOf i).toNat)
      case atStart => exact ⟨0, _, _, rs, Nat.zero_le _, rfl, rfl, HO1.out, HO5.out, HF.out, HFAR.out, HB1.out⟩
      case round =>
        clear HO HF HB HO1 HO5 HB1 HFAR
        obtain ⟨j, c3, A3, ts, hj, rfl, rfl, HO, HLS, HF, HFAR, HB⟩ := hrel
        have hsi := HB.out.size
        by_cases hjl : j < l
        · obtain ⟨x, hx⟩ : ∃ x, ls[j]? = some x := ⟨_, List.getElem?_eq_getElem (by rw [HLS.out.len]; omega)⟩
          obtain ⟨ad, p, rfl, hp, hpb, d0, d1, d2, d3, d4⟩ := HLS.out.fnds.at_ hx
          have HC := hide (specPutF w.heap.size A3 x.addr (m + j) c3 x.vals.length x.cap x.zone x.word x.kind x.seq x.vals ts wr HO.out hsi (by omega) rfl (HLS.out.own j x hx) (fun i r hi g hg => HFAR.out r (List.mem_of_getElem? hi) j x (Nat.le_refl _) hx g hg))
          have HX := hide hx
          have k2 : (j : Int) < (l : Int) := by omega
          have k3 : (0 : Int) ≤ (j : Int) := by omega
          clear hx
          obtain ⟨xz, xw, xk, xs, xv, xa, xc⟩ := x
          simp only [Fq.sl] at d4
          simp only at d0 d1 d2 d3 HC
          go_wp2_with fail
          refine HC.out.mono ?_
          rintro e w2 ⟨A4, c4, us, rfl, ho4, hf4, hm4, hb4⟩
          have HO4 := hide ho4
          have HF4 := hide hf4
          have HM4 := hide hm4
          have HB4 := hide hb4
          clear ho4 hf4 hm4 hb4 HC
          go_wp2
          go_roundw
          case rel => exact ⟨j + 1, c4, A4, us, by omega, by go_num, rfl, HO4.out, HLS.out.below HB4.out, by show _ = _; rw [List.take_add_one, fns_get HX.out, insAll_append, ← HF.out]; exact HF4.out,
            fun r hr j' q hj' hq g hg => by
              rcases HM4.out r hr with rfl | h
              · exact HLS.out.sep j j' _ q HX.out hq (by omega) g hg
              · exact HFAR.out r h j' q (by omega) hq g hg, HB.out.trans (HB4.out.mono hsi)⟩
          case measure => simp [intOf]; omega
        · obtain rfl : j = l := by omega
          go_wp2
          go_roundw
          case rel => exact ⟨k + 1, m + j, c3, A3, ts, by omega, by omega, by go_num, rfl, HO.out, by show _ = _; rw [HZ.out, orderF_step, HF.out, List.take_of_length_le (by rw [fns_length, HLS.out.len]; exact Nat.le_refl _)], HB.out⟩
          case measure => simp [intOf]; omega
    · obtain rfl : k = n := by omega
      have hz : (zns qs).length = k := by rw [zns, List.length_map]; exact HR.out.1
      go_wp2
      go_ret
      exact ⟨A2, c2, m, rs, rfl, HO.out, by rw [HF.out, devF, hz], HB.out⟩

/-- what ScanDevice answers -/
noncomputable def scanD (d : Dev) : List Fn := if devV d then devF d else []
set_option maxHeartbeats 6400000 in
theorem specScanD (A : Option Addr) (n c B : Nat) (qs : List Zq) (w : World) (hr : Zns w B A n qs) (hB : B ≤ w.heap.size) (hn : n ≤ 1000000000000) :
    Calls Try.prog 8 #[.slice A n c] w fun e w' => ∃ A2 c2 m rs, e = .returned (.slice A2 m c2) ∧ OwnF w' w.heap.size A2 m c2 rs ∧ fns rs = scanD (zns qs) ∧ Below w.heap.size w w' := by
  have HV := hide (specDV A n c B qs w hr (by omega))
  have HD : Hid (devV (zns qs) = true → ∀ d, Calls Try.prog 29 #[.slice A n c] (w.drewN d) fun e w' => ∃ A2 c2 m rs, e = .returned (.slice A2 m c2) ∧ OwnF w' w.heap.size A2 m c2 rs ∧ fns rs = devF (zns qs) ∧ Below w.heap.size (w.drewN d) w') := fun hv d => by
    refine specDeviceF A n c B qs (w.drewN d) (hr.drewN d) hB (by have := devV_is4 hv hr.1; omega) (fun q hq => ?_)
    obtain ⟨k, hk⟩ := List.getElem?_of_mem hq
    exact Nat.le_trans (devV_words hv hk) (by omega)
  unfold scanD
  clear hr
  generalize devV (zns qs) = v at HV HD ⊢
  generalize devF (zns qs) = f at HD ⊢
  go_enter Try.func8, Try.ntmps8
  rcases v with _ | _
  · go_wp2_with fail
    refine HV.out.mono ?_
    rintro e w1 ⟨rfl, d, rfl⟩
    go_wp2
    go_ret
    exact ⟨_, _, _, rfl, [], OwnF.lit0 _ _ (Nat.le_refl _), rfl, below_undrewF (i := d) ((Below.refl w.heap.size (w.drewN d)).alloc (Nat.le_refl _) _)⟩
  · go_wp2_with fail
    refine HV.out.mono ?_
    rintro e w1 ⟨rfl, d, rfl⟩
    go_wp2_with fail
    refine (HD.out (by first | rfl | trivial) d).mono ?_
    rintro e w1 ⟨A2, c2, m, rs, rfl, ho, hf, hb⟩
    go_wp2
    go_ret
    exact ⟨A2, c2, m, rfl, rs, ho, hf, below_undrewF (i := d) hb⟩
end Go.Proofs.Ytcocboigjfjnfac
