/-
  The model's l15Columns, l15Checks, l15Check, ColumnsCheck, ColumnsGood, l15With.
-/
import Derived.Test.YtldbcenipahkfaaImpC5
namespace Go.Proofs.Ytldbcenipahkfaa
open Go.RowKit
set_option linter.unusedVariables false
set_option maxRecDepth 100000

set_option maxHeartbeats 1600000 in
theorem specKV (A : Option Addr) (n c B : Nat) (xs : List Int) (w : World) (hr : Ints w B A n xs) (hn : n ≤ 1000000000000) :
    Calls Try.prog 39 #[.slice A n c] w fun e w' => e = .returned (.bool (colV xs)) ∧ w = w' := by
  have HR := hide hr
  clear hr
  go_enter Try.func39, Try.ntmps39
  go_wp2
  go_loop [3] (fun i => ∃ k : Nat, k ≤ n ∧ i = .int .i64 k ∧ Hid ((xs.take k).all (fun x => inB x 0 99) = true)) (fun i => n - (intOf i).toNat)
  case atStart => exact ⟨0, Nat.zero_le _, rfl, rfl⟩
  case round =>
    obtain ⟨k, hk, rfl, HA⟩ := hrel
    by_cases hlt : k < n
    · have HT := hide (col_take (xs := xs) (k := k) (by rw [HR.out.1]; exact hlt))
      have HN := hide fun hx => col_no (xs := xs) (k := k) (by rw [HR.out.1]; exact hlt) hx
      obtain ⟨ad, rfl, hb, hc⟩ := HR.out.at_ hlt
      generalize xs.getD k 0 = x at hc HT HN
      rcases h1 : inB x 0 99 with _ | _
      · have H1 := hide h1
        clear h1
        go_wp2_with (go_at_call 53; refine (in_no _ _ _ _ H1.out).mono ?_; rintro e w' ⟨rfl, rfl⟩)
        go_ret
        exact ⟨ret_bool (HN.out H1.out).symm, rfl⟩
      · have H1 := hide h1
        clear h1
        go_wp2_with (go_at_call 53; refine (in_yes _ _ _ _ H1.out).mono ?_; rintro e w' ⟨rfl, rfl⟩)
        go_round
        case rel => exact ⟨k + 1, by omega, by go_num, by show _ = _; rw [HT.out, HA.out, H1.out]; rfl⟩
        case measure => simp [intOf]; omega
    · obtain rfl : k = n := by omega
      have HD := hide (show xs.all (fun x => inB x 0 99) = true by have := HA.out; rwa [List.take_of_length_le (by rw [HR.out.1]; exact Nat.le_refl _)] at this)
      go_wp2_with fail
      refine (in_any _ _ _ _).mono ?_
      rintro e w' ⟨rfl, rfl⟩
      go_wp2
      go_ret
      exact ⟨ret_bool (by unfold colV; rw [HD.out, HR.out.1, Bool.true_and]), rfl⟩

set_option maxHeartbeats 800000 in
theorem specCKV (c1 c2 : Int) (w : World) : Calls Try.prog 48 #[.agg #[.int .i64 c1, .int .i64 c2]] w fun e w' => e = .returned (.bool (ckV (c1, c2))) ∧ Below w.heap.size w w' := by
  have HB := hide ((Below.refl w.heap.size w).alloc (Nat.le_refl _) (.cells #[.int .i64 c1, .int .i64 c2] 26))
  have e : ckV (c1, c2) = (inB c1 0 100 && inB c2 0 100) := rfl
  rw [e]
  rcases h1 : inB c1 0 100 with _ | _
  · have H1 := hide h1
    clear h1
    rw [Bool.false_and]
    go_enter Try.func48, Try.ntmps48
    go_wp2_with (go_at_call 53; refine (in_no _ _ _ _ H1.out).mono ?_; rintro e w' ⟨rfl, rfl⟩)
    go_ret
    exact ⟨rfl, HB.out⟩
  · have H1 := hide h1
    clear h1
    rw [Bool.true_and]
    have HI := hide fun (W : World) => in_any c2 0 100 W
    generalize inB c2 0 100 = v at *
    go_enter Try.func48, Try.ntmps48
    go_wp2_with fail
    refine (in_yes _ _ _ _ H1.out).mono ?_
    rintro e w' ⟨rfl, rfl⟩
    go_wp2_with fail
    refine (HI.out _).mono ?_
    rintro e w' ⟨rfl, rfl⟩
    go_wp2
    go_ret
    exact ⟨rfl, HB.out⟩

set_option maxHeartbeats 6400000 in
theorem specKC (A : Option Addr) (n c B : Nat) (xs : List Int) (w : World) (hr : Ints w B A n xs) (hB : B ≤ w.heap.size) (hx : colV xs = true) :
    Calls Try.prog 40 #[.slice A n c] w fun e w' => e = .returned (.agg #[.int .i64 (chk xs).1, .int .i64 (chk xs).2]) ∧ Below w.heap.size w w' := by
  obtain ⟨X1, hX1⟩ : ∃ X, (chk xs).1 = X := ⟨_, rfl⟩
  obtain ⟨X2, hX2⟩ : ∃ X, (chk xs).2 = X := ⟨_, rfl⟩
  rw [hX1, hX2]
  have HX1 := hide hX1
  have HX2 := hide hX2
  have HR := hide hr
  have HV := hide hx
  have hn6 : n ≤ 6 := by rw [← hr.1]; exact (colV_iff.1 hx).2.2
  clear hX1 hX2 hr hx
  have HK0 := hide (((Kp.refl w).push 26 #[.int .i64 0, .int .i64 0]).pushN (w.heap.size + 1) (by simp) 26 #[.int .i64 0, .int .i64 0])
  go_enter Try.func40, Try.ntmps40
  go_wp2
  go_loopw [4] (fun i wr => ∃ k : Nat, k ≤ n ∧ i = .int .i64 k ∧ Hid (Kp w wr [(w.heap.size + 1, 26, #[.int .i64 (chk (xs.take k)).1, .int .i64 (chk (xs.take k)).2]), (w.heap.size, 26, #[.int .i64 0, .int .i64 0])])) (fun i _ => n - (intOf i).toNat)
  case atStart => exact ⟨0, by omega, rfl, HK0.out⟩
  case round =>
    clear HK0
    obtain ⟨k, hk, rfl, HK⟩ := hrel
    by_cases hlt : k < n
    · have k1 : (k : Int) < (n : Int) := by omega
      have k0 : (0 : Int) ≤ (k : Int) := by omega
      have hkl : k < xs.length := by rw [HR.out.1]; exact hlt
      have hxr := colV_at HV.out hkl
      have HS := hide (chk_step hkl)
      have hck := chk_rng (xs.take k)
      unfold ckV at hck
      rw [Bool.and_eq_true, inB_iff, inB_iff] at hck
      obtain ⟨ad, rfl, hab, hc⟩ := (HR.out.below HK.out.below hB).at_ hlt
      generalize xs.getD k 0 = x at hc HS hxr
      generalize (chk (xs.take k)).1 = s at HK HS hck ⊢
      generalize (chk (xs.take k)).2 = t at HK HS hck ⊢
      generalize hC : chk (xs.take (k + 1)) = C at HS
      have HC := hide hC
      clear hC
      obtain ⟨s0, s1⟩ := hck.1
      obtain ⟨t0, t1⟩ := hck.2
      obtain ⟨x0, x1⟩ := hxr
      have hy := mul_rng (a := (k : Int) + 1) (b := x) (by omega) (by omega) x0 (by omega)
      have w1 : IntKind.i64.wrap (s + x) = s + x := IntWalk.i64_in _ (by omega)
      have w2 : IntKind.i64.wrap ((k : Int) + 1) = (k : Int) + 1 := IntWalk.i64_in _ (by omega)
      have w3 : IntKind.i64.wrap (((k : Int) + 1) * x) = ((k : Int) + 1) * x := IntWalk.i64_in _ (by omega)
      have w4 : IntKind.i64.wrap (t + ((k : Int) + 1) * x) = t + ((k : Int) + 1) * x := IntWalk.i64_in _ (by omega)
      have w5 : (s + x).tmod 101 = (s + x) % 101 := Int.tmod_eq_emod_of_nonneg (by omega)
      have w6 : (t + ((k : Int) + 1) * x).tmod 101 = (t + ((k : Int) + 1) * x) % 101 := Int.tmod_eq_emod_of_nonneg (by omega)
      obtain ⟨s', hs'⟩ : ∃ s', (s + x) % 101 = s' := ⟨_, rfl⟩
      obtain ⟨t', ht'⟩ : ∃ t', (t + ((k : Int) + 1) * x) % 101 = t' := ⟨_, rfl⟩
      rw [hs'] at w5
      rw [ht'] at w6
      have HE : Hid (C = (s', t')) := by
        show _ = _
        rw [HS.out, hs', ht']
      clear hs' ht' HS
      have q0 := HK.out.hd.cell 0
      have q1 := HK.out.hd.cell 1
      have f0 := HK.out.free 0
      have f1 := HK.out.free 1
      simp at q0 q1
      have hb1 : (⟨w.heap.size + 1, 0, none⟩ : Addr) ≠ ad.add k := fun e => by have := congrArg Addr.block e; rw [block_of_add] at this; simp at this; omega
      have hb2 : (⟨w.heap.size + 1, 1, none⟩ : Addr) ≠ ad.add k := fun e => by have := congrArg Addr.block e; rw [block_of_add] at this; simp at this; omega
      have HK7 : Hid (Kp w ((wr.setCell ⟨w.heap.size + 1, 0, none⟩ (.int .i64 s')).setCell ⟨w.heap.size + 1, 1, none⟩ (.int .i64 t')) [(w.heap.size + 1, 26, #[.int .i64 C.1, .int .i64 C.2]), (w.heap.size, 26, #[.int .i64 0, .int .i64 0])]) := by
        rw [HE.out]
        have hne : ∀ p ∈ [(w.heap.size, 26, #[Value.int .i64 0, .int .i64 0])], p.1 ≠ w.heap.size + 1 := by intro p hp; simp at hp; rcases hp with rfl; simp
        exact (Kp.put (Kp.put HK.out hne 0 (.int .i64 s')) hne 1 (.int .i64 t'))
      clear HK
      go_wp2_with fail
      go_region
      all_goals
        go_wp2
        go_region
      all_goals
        clear hb1 hb2 q0 q1 f0 f1 hc w1 w3 w4 w5 w6
        go_wp2
        go_roundw
        case rel => exact ⟨k + 1, by omega, by go_num, by rw [HC.out]; exact HK7.out.drewN 2⟩
        case measure => simp [intOf]; omega
    · obtain rfl : k = n := by omega
      have HD := hide (show xs.take k = xs from List.take_of_length_le (by rw [HR.out.1]; exact Nat.le_refl _))
      rw [HD.out, HX1.out, HX2.out] at HK
      have h0 := HK.out.hd.cell 0
      have h1 := HK.out.hd.cell 1
      have h2 := HK.out.tl.hd.cell 0
      have h3 := HK.out.tl.hd.cell 1
      have f2 := HK.out.tl.free 0
      have f3 := HK.out.tl.free 1
      have HK2 := hide ((HK.out.tl.put (by intro p hp; cases hp) 0 (.int .i64 X1)).put (by intro p hp; cases hp) 1 (.int .i64 X2))
      have q0 := HK2.out.hd.cell 0
      have q1 := HK2.out.hd.cell 1
      simp at h0 h1 h2 h3 q0 q1
      go_wp2
      exact bodyPost_ret (v := .agg #[.int .i64 X1, .int .i64 X2]) (by simp [results, Try.results40, go_sem, q0, q1]) rfl ⟨rfl, HK2.out.below⟩

set_option maxHeartbeats 3200000 in
theorem specCC (A : Option Addr) (n c B : Nat) (xs : List Int) (w : World) (hr : Ints w B A n xs) (hB : B ≤ w.heap.size) (hn : n ≤ 1000000000000) :
    Calls Try.prog 18 #[.slice A n c] w (CkPost w (colV xs) (ckR xs).1 (ckR xs).2) := by
  have HK0 := hide ((Kp.refl w).push 26 #[.int .i64 0, .int .i64 0])
  have HB0 := hide ((Below.refl w.heap.size w).alloc (Nat.le_refl _) (.cells #[.int .i64 0, .int .i64 0] 26))
  have HC := hide fun (W : World) (hb : Below w.heap.size w W) => specKV A n c B xs W (hr.below hb hB) hn
  rcases hx : colV xs with _ | _
  · have e : ckR xs = (0, 0) := by unfold ckR; rw [hx]; rfl
    rw [e]
    rw [hx] at HC
    clear hr hx e
    simp only
    go_enter Try.func18, Try.ntmps18
    go_wp2_with fail
    refine (HC.out _ HB0.out).mono ?_
    rintro e w' ⟨rfl, rfl⟩
    go_wp2
    exact bodyPost_ret (v := .tuple #[.agg #[.int .i64 0, .int .i64 0], .bool false]) (by simp [results, Try.results18, go_sem]) rfl ⟨rfl, HK0.out.below⟩
  · have e : ckR xs = chk xs := by unfold ckR; rw [hx]; rfl
    rw [e]
    have HT := hide fun (W : World) (hb : Below w.heap.size w W) => specKC A n c B xs W (hr.below hb hB) (Nat.le_trans hB hb.size) hx
    rw [hx] at HC
    clear hr hx e
    generalize (chk xs).1 = s at *
    generalize (chk xs).2 = t at *
    go_enter Try.func18, Try.ntmps18
    go_wp2_with fail
    refine (HC.out _ HB0.out).mono ?_
    rintro e w' ⟨rfl, rfl⟩
    go_wp2_with fail
    refine (HT.out _ HB0.out).mono ?_
    rintro e w2 ⟨rfl, hb2⟩
    have HK3 := hide (HK0.out.step hb2)
    have r0 := HK3.out.hd.cell 0
    have r1 := HK3.out.hd.cell 1
    have f0 := HK3.out.free 0
    have f1 := HK3.out.free 1
    have HF := hide ((HK3.out.put (by intro p hp; cases hp) 0 (.int .i64 s)).put (by intro p hp; cases hp) 1 (.int .i64 t))
    have q0 := HF.out.hd.cell 0
    have q1 := HF.out.hd.cell 1
    simp at r0 r1 q0 q1
    clear hb2 HK0 HK3
    go_wp2
    exact bodyPost_ret (v := .tuple #[.agg #[.int .i64 s, .int .i64 t], .bool true]) (by simp [results, Try.results18, go_sem, q0, q1]) rfl ⟨rfl, HF.out.below⟩

def CB (W : World) (g : Nat) (c1 c2 : Int) : Prop := W.cell? ⟨g, 0, none⟩ = some (.int .i64 c1) ∧ W.cell? ⟨g, 1, none⟩ = some (.int .i64 c2)
/-- the checks that were given lie in the call's first block -/
theorem Kp.cb {w W : World} {g : Nat} {t : TypeId} {c1 c2 : Int} {L : List (Nat × TypeId × Array Value)} (h : Kp w W ((g, t, #[.int .i64 c1, .int .i64 c2]) :: L)) :
    W.cell? ⟨g, 0, none⟩ = some (.int .i64 c1) ∧ W.cell? ⟨g, 1, none⟩ = some (.int .i64 c2) := ⟨by rw [h.hd.cell]; rfl, by rw [h.hd.cell]; rfl⟩
theorem Kp.call {w W : World} {L : List (Nat × TypeId × Array Value)} {f : FuncId} {args : Array Value} {r : Ending} (h : Hid (Kp w W L)) (hc : Calls Try.prog f args W fun e W' => e = r ∧ Below W.heap.size W W') :
    Calls Try.prog f args W fun e W' => e = r ∧ Hid (Kp w W' L) := hc.mono fun e W' ⟨he, hb⟩ => ⟨he, h.out.step hb⟩

set_option maxHeartbeats 6400000 in
theorem specCG (A : Option Addr) (n c B : Nat) (xs : List Int) (c1 c2 : Int) (w : World) (hr : Ints w B A n xs) (hB : B ≤ w.heap.size) (hn : n ≤ 1000000000000) :
    Calls Try.prog 21 #[.slice A n c, .agg #[.int .i64 c1, .int .i64 c2]] w fun e w' => e = .returned (.bool (goV xs (c1, c2))) ∧ Below w.heap.size w w' := by
  have HK0 := hide (((Kp.refl w).push 26 #[.int .i64 c1, .int .i64 c2]).drewN 1)
  have HC : Hid (∀ W, Below w.heap.size w W → Calls Try.prog 39 #[.slice A n c] W fun e w' => e = .returned (.bool (colV xs)) ∧ W = w') := fun (W : World) (hb : Below w.heap.size w W) => specKV A n c B xs W (hr.below hb hB) hn
  rcases hx : colV xs with _ | _
  · have HE := hide (show goV xs (c1, c2) = false by unfold goV; rw [hx]; rfl)
    rw [HE.out]
    rw [hx] at HC
    clear hr hx HE
    go_enter Try.func21, Try.ntmps21
    go_wp2_with fail
    have HCQ : Hid (∀ W : World, Below w.heap.size w W → Calls Try.prog 39 #[.slice A n c] W fun e w' => e = .returned (.bool false) ∧ w' = W) := fun W hb => (HC.out W hb).mono fun _ _ h => ⟨h.1, h.2.symm⟩
    go_quiet ((go_at_call 39; exact Calls.quiet_of_same (HCQ.out _ (by first | exact (Below.refl _ w).alloc (Nat.le_refl _) _ | exact below_drewN ((Below.refl _ w).alloc (Nat.le_refl _) _) _))))
    go_wp2
    go_ret
    exact ⟨rfl, below_drewN ((Below.refl _ w).alloc (Nat.le_refl _) _) _⟩
  · have HT := hide fun (W : World) (hb : Below w.heap.size w W) => specKC A n c B xs W (hr.below hb hB) (Nat.le_trans hB hb.size) hx
    have HE := hide (show goV xs (c1, c2) = (decide ((chk xs).1 = c1) && decide ((chk xs).2 = c2)) by
      unfold goV
      rw [hx, Bool.true_and, Bool.eq_iff_iff, Bool.and_eq_true, decide_eq_true_eq, decide_eq_true_eq, decide_eq_true_eq]
      exact ⟨fun h => by rw [h]; exact ⟨rfl, rfl⟩, fun ⟨p, q⟩ => Prod.ext p q⟩)
    rw [HE.out]
    rw [hx] at HC
    clear hr hx HE
    generalize (chk xs).1 = s at *
    generalize (chk xs).2 = t at *
    by_cases h1 : s = c1
    · subst h1
      by_cases h2 : t = c2
      · subst h2
        rw [decide_eq_true rfl, decide_eq_true rfl, Bool.and_self]
        go_enter Try.func21, Try.ntmps21
        go_wp2_with fail
        go_region_held3 (fun W => W.cell? ⟨w.heap.size, 0, none⟩ = some (.int .i64 s) ∧ W.cell? ⟨w.heap.size, 1, none⟩ = some (.int .i64 t))
          (first | (exact Kp.cb HK0.out) | (exact Kp.cb HK1.out))
          ((first
            | (go_at_call 39; refine (HC.out _ HK0.out.below).mono ?_; rintro e w1 ⟨rfl, rfl⟩)
            | (go_at_call 40; refine (Kp.call HK0 (HT.out _ HK0.out.below)).mono ?_; rintro e w1 ⟨rfl, HK1⟩)))
        all_goals
          go_wp2
          go_ret
          exact ⟨rfl, HK1.out.below⟩
      · have h2' : (t == c2) = false := by simpa using h2
        rw [decide_eq_false h2, Bool.and_false]
        clear h2
        go_enter Try.func21, Try.ntmps21
        go_wp2_with fail
        go_region_held3 (fun W => W.cell? ⟨w.heap.size, 0, none⟩ = some (.int .i64 s) ∧ W.cell? ⟨w.heap.size, 1, none⟩ = some (.int .i64 c2))
          (first | (exact Kp.cb HK0.out) | (exact Kp.cb HK1.out))
          ((first
            | (go_at_call 39; refine (HC.out _ HK0.out.below).mono ?_; rintro e w1 ⟨rfl, rfl⟩)
            | (go_at_call 40; refine (Kp.call HK0 (HT.out _ HK0.out.below)).mono ?_; rintro e w1 ⟨rfl, HK1⟩)))
        all_goals
          go_wp2
          go_ret
          exact ⟨rfl, HK1.out.below⟩
    · have h1' : (s == c1) = false := by simpa using h1
      rw [decide_eq_false h1, Bool.false_and]
      clear h1
      go_enter Try.func21, Try.ntmps21
      go_wp2_with fail
      go_region_held3 (fun W => W.cell? ⟨w.heap.size, 0, none⟩ = some (.int .i64 c1) ∧ W.cell? ⟨w.heap.size, 1, none⟩ = some (.int .i64 c2))
        (first | (exact Kp.cb HK0.out) | (exact Kp.cb HK1.out))
        ((first
          | (go_at_call 39; refine (HC.out _ HK0.out.below).mono ?_; rintro e w1 ⟨rfl, rfl⟩)
          | (go_at_call 40; refine (Kp.call HK0 (HT.out _ HK0.out.below)).mono ?_; rintro e w1 ⟨rfl, HK1⟩)))
      all_goals
        go_wp2
        go_ret
        exact ⟨rfl, HK1.out.below⟩

set_option maxHeartbeats 1600000 in
theorem specWith (A : Option Addr) (n c B k : Nat) (xs : List Int) (v : Int) (w : World) (hr : Ints w B A n xs) (hB : B ≤ w.heap.size) (hn : n ≤ 1000000000) (hk : k < n) :
    Calls Try.prog 49 #[.slice A n c, .int .i64 k, .int .i64 v] w fun e w' => ∃ A2 c2, e = .returned (.slice A2 n c2) ∧ Own w' w.heap.size A2 n c2 (xs.set k v) ∧ Below w.heap.size w w' := by
  have HI := hide hr
  have k0 : (0 : Int) ≤ (k : Int) := by omega
  have k1 : (k : Int) < (n : Int) := by omega
  clear hr
  go_enter Try.func49, Try.ntmps49
  go_wp2_with (at_builtin; refine wpList_append_ints rfl _ _ rfl w.heap.size 0 0 B n c _ _ [] xs rfl (Own.lit0 w _ (Nat.le_refl _)) rfl (HI.out.alloc hB _) (by omega) (by simp) ?_; intro A2 c2 w3 ho3 hg3 hat3; clear hat3; simp only [Nat.zero_add, List.nil_append] at ho3 ⊢; obtain ⟨g, rfl, hgb, hgl⟩ := ho3.shape (by omega); have HB3 := hide (below_app0 (Below.refl _ _) (Nat.le_refl _) hg3); have hcell := ho3.cell (g := g) (j := k) hk; have hfree := ho3.free (g := g) (j := k); have hst := ho3.stored (g := g) (j := k) v; have HS := hide hst.1; have HG := hide (HB3.out.grown hst.2 HB3.out.size (by intro q hq; injection hq with hq; omega)); clear ho3 hg3 hst)
  go_ret
  exact ⟨_, _, rfl, HS.out, HG.out⟩
end Go.Proofs.Ytldbcenipahkfaa
