/-
  The walks of FnFramePutBad, FnFramePut, FnFramePutGet.
-/
import Derived.Test.YtfmdginopdpecaaDrawF
import Derived.Test.YtfmdginopdpecaaInts
namespace Go.Proofs.Ytfmdginopdpecaa
open Go.RowKit
set_option linter.unusedVariables false

/-- what a draw of a frame hands back -/
def FrameOut (w0 : World) (e : Ending) (w' : World) : Prop :=
  ∃ k s A n c xs, e = .returned (.agg #[.int .i64 k, .int .i64 s, .slice A n c]) ∧ Own w' w0.heap.size A n c xs ∧ n ≤ 30 ∧ Rng (-1) 10000 xs ∧ -1 ≤ k ∧ k ≤ 1000 ∧ -1 ≤ s ∧ s ≤ 1000 ∧ Below w0.heap.size w0 w'

set_option maxHeartbeats 800000 in
theorem drawPut_any (A : Option Addr) (n c : Nat) (bs : Nat → Int) (w : World) (hb : Bytes w w.heap.size A n bs) (hn : n ≤ c) (hc : c ≤ maxLen) :
    Calls Try.prog 19 #[.slice A n c] w (FrameOut w) := by
  have HQ := hide (Blk.new w 30 #[.int .i64 0, .int .i64 0, .slice none 0 0])
  have HB := hide (show Bytes (w.alloc (.cells #[.int .i64 0, .int .i64 0, .slice none 0 0] 30)) (w.alloc (.cells #[.int .i64 0, .int .i64 0, .slice none 0 0] 30)).heap.size A n bs from fun h => by
    obtain ⟨ad, e, hl, hcl⟩ := hb h
    exact ⟨ad, e, by simp; omega, fun j hj => ⟨(hcl j hj).1, (hcl j hj).2.1, by rw [World.cell?_alloc_lt w _ _ (by rw [block_of_add]; exact hl)]; exact (hcl j hj).2.2⟩⟩)
  clear hb
  go_enter Try.func19, Try.ntmps19
  go_wp2_with fail
  refine (open_any A n c bs _ HB.out hn hc).mono ?_
  rintro e w1 ⟨rfl, hr, hB⟩
  have hs1 := hB.size
  simp at hs1
  have HQ1 := hide (HQ.out.below hB (by simp))
  have HB1 := hide ((below_box w _).trans (hB.mono (by simp)))
  have hr' : Rd w1 (w.heap.size + 1) 0 := by simpa using hr
  clear hB hr
  go_wp2_with fail
  refine (frame_any _ 0 _ hr' (by omega)).mono ?_
  rintro e w2 ⟨k, s, A2, m, c2, xs, p', rfl, ho, hm, hrng, hk0, hk1, hs0, hs1', _, _, _, hg⟩
  have hs2 := hg.size
  have hq2 := HQ1.out.grown hg (by simp)
  obtain ⟨r0, r1, r2⟩ := blk_cells3 hq2
  have f0 := hq2.frozen 0
  have f1 := hq2.frozen 1
  have f2 := hq2.frozen 2
  obtain ⟨q0, q1, q2⟩ := blk_cells3 (frame_new w.heap.size _ _ _ hq2 (.int .i64 k) (.int .i64 s) (.slice A2 m c2))
  have hset := set3_grown w2 w.heap.size (.int .i64 k) (.int .i64 s) (.slice A2 m c2)
  have HO := hide ((ho.kept hset (by intro g e; injection e with e; subst e; exact own_blk_ne ho hq2 (by decide))).mono (show w.heap.size ≤ w1.heap.size by omega))
  have HB2 := hide ((HB1.out.trans (below_of_grown' hg (B := w.heap.size) (by omega) (by intro g e; injection e with e; omega))).trans (below_of_grown' hset (B := w.heap.size) (by omega) (by intro g e; injection e with e; omega)))
  clear ho hg hq2 hset
  go_wp2
  refine bodyPost_ret (v := .agg #[.int .i64 k, .int .i64 s, .slice A2 m c2]) (by simp [results, Try.results19, go_sem, q0, q1, q2]) rfl ?_
  exact ⟨k, s, A2, m, c2, xs, rfl, HO.out, hm, hrng, hk0, hk1, hs0, hs1', HB2.out⟩

/-- a quiet call in a region whose world has drawn before -/
theorem calls_again {P : Program} {f : FuncId} {args : Array Value} {W : World} {i j : Nat} {r : Value} (c : Calls P f args (W.drewN (i + j)) fun e U => e = .returned r ∧ ∃ z, U = (W.drewN (i + j)).drewN z) :
    Calls P f args (W.drewN (i + j)) fun e U => e = .returned r ∧ ∃ z, U = W.drewN (i + z) := by
  refine c.mono ?_
  rintro e U ⟨he, z, hz⟩
  exact ⟨he, j + z, by rw [hz, World.drewN_drewN, Nat.add_assoc]⟩
theorem calls_again0 {P : Program} {f : FuncId} {args : Array Value} {W : World} {i j : Nat} {r : Value} (c : Calls P f args (W.drewN (i + j)) fun e U => e = .returned r ∧ U = W.drewN (i + j)) :
    Calls P f args (W.drewN (i + j)) fun e U => e = .returned r ∧ ∃ z, U = W.drewN (i + z) := by
  refine c.mono ?_
  rintro e U ⟨he, hz⟩
  exact ⟨he, j, hz⟩

theorem putF_bad {k s : Int} {xs : List Int} (h : validF k s xs = false) : putF k s xs = [] := by rw [putF, if_neg (by rw [h]; simp)]
theorem putF_good {k s : Int} {xs : List Int} (h : validF k s xs = true) : putF k s xs = headF k s xs ++ [sumFrom 7 (headF k s xs)] := by rw [putF, if_pos h]
theorem putF_length {k s : Int} {xs : List Int} (h : validF k s xs = true) : (putF k s xs).length = 3 + xs.length + 1 := by rw [putF_good h]; simp [headF]; omega

set_option maxHeartbeats 1600000 in
theorem putBad_walk (A : Option Addr) (n c : Nat) (bs : Nat → Int) (w : World) (hb : Bytes w w.heap.size A n bs) (hn : n ≤ c) (hc : c ≤ maxLen) :
    Calls Try.prog 9 #[.slice A n c] w fun e w' => e = .returned (.bool true) ∧ Below w.heap.size w w' := by
  by_cases hbig : 1048576 < n
  · go_enter Try.func9, Try.ntmps9
    go_wp2
    go_ret
    exact ⟨rfl, Below.refl _ _⟩
  · go_enter Try.func9, Try.ntmps9
    go_wp2_with fail
    refine (drawPut_any A n c bs _ hb hn hc).mono ?_
    rintro e w1 ⟨k, s, A1, m, c1, xs, rfl, ho1, hm, hrng, hk0, hk1, hs0, hs1, hB1⟩
    have HB1 := hide (hB1.alloc hB1.size (.cells #[.int .i64 k, .int .i64 s, .slice A1 m c1] 30))
    have HF1 := hide (Blk.new w1 30 #[.int .i64 k, .int .i64 s, .slice A1 m c1])
    have HI1 := hide (ho1.ints.alloc (Nat.le_refl _) (.cells #[.int .i64 k, .int .i64 s, .slice A1 m c1] 30))
    have hmm : m ≤ maxLen := by unfold maxLen; omega
    clear ho1 hB1 hb
    go_wp2_with fail
    refine (implPut k s A1 m c1 _ xs _ HI1.out (by simp) hmm).mono ?_
    rintro e w2 ⟨A2, m2, c2, rfl, ho2, hB2⟩
    have hb2 := HF1.out.below hB2 (by simp)
    have HB2 := hide (HB1.out.trans (hB2.mono HB1.out.size))
    have HI2 := hide (HI1.out.below hB2 (by simp))
    have HO2 := hide ho2
    have HF2 := hide hb2
    have hs2 := hB2.size
    simp at hs2
    obtain ⟨t0, t1, t2⟩ := blk_cells3 hb2
    clear hB2 ho2 hb2
    go_wp2_with fail
    refine (specPut k s A1 m c1 _ xs _ HI2.out (by omega) hmm).mono ?_
    rintro e w3 ⟨A3, m3, c3, rfl, ho3, hB3⟩
    have HB3 := hide (HB2.out.trans (hB3.mono HB2.out.size))
    have HI3 := hide (HI2.out.below hB3 (by omega))
    have HO2' := hide (HO2.out.ints.below hB3 (Nat.le_refl _))
    have HO3 := hide ho3.ints
    have hb3 := HF2.out.below hB3 (by omega)
    have hs3 := hB3.size
    obtain ⟨u0, u1, u2⟩ := blk_cells3 hb3
    have hl2 := HO2.out.1
    have hl3 := ho3.1
    have hlen : (putF k s xs).length ≤ 40 := by
      rcases hv : validF k s xs with _ | _
      · rw [putF_bad hv]; simp
      · rw [putF_length hv]; have := HI1.out.1; omega
    have h2 : m2 ≤ maxLen := by unfold maxLen; omega
    have h3 : m3 ≤ maxLen := by unfold maxLen; omega
    have HL : Hid ((validF k s xs = true ∧ 0 < m2) ∨ (validF k s xs = false ∧ m2 = 0)) := by
      rcases hv : validF k s xs with _ | _
      · right; rw [putF_bad hv] at hl2; exact ⟨rfl, by simpa using hl2.symm⟩
      · left; rw [putF_length hv] at hl2; exact ⟨rfl, by omega⟩
    clear hl2 hl3 hlen hB3 ho3 hb3 t0 t1 t2
    go_wp2_with fail
    refine (sameInts_yes A2 A3 m2 c2 m3 c3 _ _ _ _ _ HO2'.out HO3.out h2 h3 rfl).mono ?_
    rintro e w4 ⟨rfl, q, rfl⟩
    have HV := hide fun (W : World) (h : Ints W (w1.heap.size) A1 m xs) (hB : w1.heap.size ≤ W.heap.size) => implValid k s A1 m c1 _ xs W h hB hmm
    generalize validF k s xs = b at HL HV
    rcases HL.out with ⟨rfl, hm2⟩ | ⟨rfl, rfl⟩
    · have hmb : ((m2 : Int) == 0) = false := by simp; omega
      go_wp2_with (go_at_call 25; refine (HV.out _ ?_ ?_).mono ?_; exact HI3.out; (show w1.heap.size ≤ w3.heap.size; omega); rintro e w5 ⟨rfl, hB5⟩)
      go_ret
      exact ⟨rfl, (below_drewN HB3.out q).trans (hB5.mono (below_drewN HB3.out q).size)⟩
    · go_wp2_with (go_at_call 25; refine (HV.out _ ?_ ?_).mono ?_; exact HI3.out; (show w1.heap.size ≤ w3.heap.size; omega); rintro e w5 ⟨rfl, hB5⟩)
      go_ret
      exact ⟨rfl, (below_drewN HB3.out q).trans (hB5.mono (below_drewN HB3.out q).size)⟩
set_option maxHeartbeats 1600000 in
theorem sameFrame_yes (k s : Int) (A A' : Option Addr) (n c c' B B' : Nat) (xs : List Int) (w : World) (h1 : Ints w B A n xs) (hB : B ≤ w.heap.size) (h2 : Ints w B' A' n xs) (hB' : B' ≤ w.heap.size) (hn : n ≤ maxLen) :
    Calls Try.prog 24 #[.agg #[.int .i64 k, .int .i64 s, .slice A n c], .agg #[.int .i64 k, .int .i64 s, .slice A' n c']] w fun e w' => e = .returned (.bool true) ∧ Below w.heap.size w w' := by
  have HI1 := hide fun (o o' : Obj) => (h1.alloc hB o).alloc (by simp; omega) o'
  have HI2 := hide fun (o o' : Obj) => (h2.alloc hB' o).alloc (by simp; omega) o'
  clear h1 h2
  go_enter Try.func24, Try.ntmps24
  go_wp2_with (go_at_call 22; refine (sameInts_yes A A' n c n c' B B' xs xs _ (HI1.out _ _) (HI2.out _ _) hn hn rfl).mono ?_; rintro e w1 ⟨rfl, q, rfl⟩)
  go_ret
  exact ⟨rfl, below_drewN ((below_box w _).alloc (by simp) _) q⟩

set_option maxHeartbeats 3200000 in
theorem put_walk (A : Option Addr) (n c : Nat) (bs : Nat → Int) (w : World) (hb : Bytes w w.heap.size A n bs) (hn : n ≤ c) (hc : c ≤ maxLen) :
    Calls Try.prog 7 #[.slice A n c] w fun e w' => e = .returned (.bool true) ∧ Below w.heap.size w w' := by
  by_cases hbig : 1048576 < n
  · go_enter Try.func7, Try.ntmps7
    go_wp2
    go_ret
    exact ⟨rfl, Below.refl _ _⟩
  · go_enter Try.func7, Try.ntmps7
    go_wp2_with fail
    refine (drawPut_any A n c bs _ hb hn hc).mono ?_
    rintro e w1 ⟨k, s, A1, m, c1, xs, rfl, ho1, hm, hrng, hk0, hk1, hs0, hs1, hB1⟩
    have HB1 := hide (hB1.alloc hB1.size (.cells #[.int .i64 k, .int .i64 s, .slice A1 m c1] 30))
    have HF1 := hide (Blk.new w1 30 #[.int .i64 k, .int .i64 s, .slice A1 m c1])
    have HI1 := hide (ho1.ints.alloc (Nat.le_refl _) (.cells #[.int .i64 k, .int .i64 s, .slice A1 m c1] 30))
    have hmm : m ≤ maxLen := by unfold maxLen; omega
    clear ho1 hB1 hb
    go_wp2_with fail
    refine (implPut k s A1 m c1 _ xs _ HI1.out (by simp) hmm).mono ?_
    rintro e w2 ⟨A2, m2, c2, rfl, ho2, hB2⟩
    have hb2 := HF1.out.below hB2 (by simp)
    have HB2 := hide (HB1.out.trans (hB2.mono HB1.out.size))
    have HI2 := hide (HI1.out.below hB2 (by simp))
    have HO2 := hide ho2
    have HF2 := hide hb2
    have hs2 := hB2.size
    simp at hs2
    obtain ⟨t0, t1, t2⟩ := blk_cells3 hb2
    clear hB2 ho2 hb2
    go_wp2_with fail
    refine (specPut k s A1 m c1 _ xs _ HI2.out (by omega) hmm).mono ?_
    rintro e w3 ⟨A3, m3, c3, rfl, ho3, hB3⟩
    have HB3 := hide (HB2.out.trans (hB3.mono HB2.out.size))
    have HI3 := hide (HI2.out.below hB3 (by omega))
    have HO2' := hide (HO2.out.below hB3)
    have HO3 := hide ho3.ints
    have hb3 := HF2.out.below hB3 (by omega)
    have hs3 := hB3.size
    have HF3 := hide hb3
    have hl2 := HO2.out.1
    have hl3 := ho3.1
    have hlx := HI1.out.1
    have hlen : (putF k s xs).length ≤ 40 := by
      rcases hv : validF k s xs with _ | _
      · rw [putF_bad hv]; simp
      · rw [putF_length hv]; omega
    have h2 : m2 ≤ maxLen := by unfold maxLen; omega
    have h3 : m3 ≤ maxLen := by unfold maxLen; omega
    have HL : Hid ((validF k s xs = true ∧ m2 = 3 + m + 1) ∨ (validF k s xs = false ∧ m2 = 0)) := by
      rcases hv : validF k s xs with _ | _
      · right; rw [putF_bad hv] at hl2; exact ⟨rfl, by simpa using hl2.symm⟩
      · left; rw [putF_length hv] at hl2; exact ⟨rfl, by omega⟩
    obtain rfl : m3 = m2 := by omega
    clear hl2 hl3 hlen hlx hB3 ho3 hb3 t0 t1 t2 HF2 HI2 HO2 HB2 HB1 HF1 HI1
    have HYES := hide fun (W : World) (h1 : Ints W w3.heap.size A2 m3 (putF k s xs)) (h2' : Ints W w3.heap.size A3 m3 (putF k s xs)) => sameInts_yes A2 A3 m3 c2 m3 c3 _ _ _ _ W h1 h2' h2 h3 rfl
    have HI2' := hide (HO2'.out.ints)
    rcases HL.out with ⟨hv, hm2⟩ | ⟨hv, hm2⟩
    · have HV := hide hv
      clear hv HL
      obtain ⟨L, hL⟩ : ∃ L, 3 + m = L := ⟨_, rfl⟩
      rw [hL] at hm2
      subst hm2
      obtain ⟨g, rfl, hgb, hgl⟩ := HO2'.out.shape (by omega)
      have hlx := HI3.out.1
      have hput := putF_good HV.out
      have hhl : (headF k s xs).length = L := by simp [headF]; omega
      have hcap := HO2'.out.cap.1
      have p0 := HO2'.out.cell (g := g) (j := 0) (by omega)
      have p1 := HO2'.out.cell (g := g) (j := 1) (by omega)
      have p2 := HO2'.out.cell (g := g) (j := 2) (by omega)
      have pL := HO2'.out.cell (g := g) (j := L) (by omega)
      have hg0 : (putF k s xs).getD 0 0 = k := by rw [hput]; rfl
      have hg1 : (putF k s xs).getD 1 0 = s := by rw [hput]; rfl
      have hg2 : (putF k s xs).getD 2 0 = (m : Int) := by rw [hput, ← hlx]; rfl
      have hgL : (putF k s xs).getD L 0 = sumFrom 7 (headF k s xs) := by rw [hput, List.getD, List.getElem?_append_right (by omega), hhl]; simp
      rw [hg0] at p0
      rw [hg1] at p1
      rw [hg2] at p2
      rw [hgL] at pL
      have hI3 : Ints w3 w3.heap.size (some ⟨g, 3, none⟩) m xs := by
        have h := HI2'.out.cut' (a := 3) (m := m) (by omega) hcap
        rw [if_neg (by omega), Option.map_some, add_plain'] at h
        have e : cutW (putF k s xs) 3 m = xs := by
          unfold cutW
          rw [hput, headF]
          show (xs ++ [_]).take m = xs
          rw [← hlx, List.take_left]
        rwa [e] at h
      have hIL : Ints w3 w3.heap.size (some ⟨g, 0, none⟩) L (headF k s xs) := by
        have h := HI2'.out.firsts (m := L) (by omega)
        rw [hput, ← hhl, List.take_left] at h
        rwa [hhl] at h
      have HI3B := hide hI3
      have HIL := hide hIL
      have hLm : L ≤ maxLen := by unfold maxLen; omega
      have HSUM : Hid (∀ (W : World), Ints W w3.heap.size (some ⟨g, 0, none⟩) L (headF k s xs) → Calls Try.prog 16 #[.slice (some ⟨g, 0, none⟩) L c2] W fun e w' => e = .returned (.int .i64 (sumFrom 7 (headF k s xs))) ∧ w' = W) :=
        fun W h => (implSum _ L c2 _ _ W h hLm).mono fun _ _ ⟨a, b⟩ => ⟨a, b.symm⟩
      have HYES2 := hide fun (W : World) (h1 : Ints W w3.heap.size (some ⟨g, 3, none⟩) m xs) (h2' : Ints W w1.heap.size A1 m xs) => sameInts_yes (some ⟨g, 3, none⟩) A1 m (c2 - 3) m c1 _ _ xs xs W h1 h2' hmm hmm rfl
      have hLi : 3 + (m : Int) = (L : Int) := by omega
      have l1 : L - 3 = m := by omega
      have hc23 : ¬ c2 = 3 := by omega
      have y1 : IntKind.i64.wrap (L : Int) = (L : Int) := IntWalk.i64_in _ (by omega)
      have z0 : (0 : Int) ≤ (L : Int) := by omega
      have z1 : (3 : Int) ≤ (L : Int) := by omega
      have z2 : (L : Int) ≤ (c2 : Int) := by omega
      have z3 : ((L : Int) + 1 == 0) = false := by simp; omega
      generalize sumFrom 7 (headF k s xs) = t at pL HSUM
      clear hlx hput hhl hcap hg0 hg1 hg2 hgL hI3 hIL hL
      obtain ⟨t0, t1, t2⟩ := blk_cells3 HF3.out
      go_wp2_with (go_at_call 22; refine (HYES.out _ HI2'.out HO3.out).mono ?_; rintro e w4 ⟨rfl, q, rfl⟩)
      go_quiet ((first | (go_at_call 22; exact calls_again (HYES2.out _ HI3B.out HI3.out)) | (go_at_call 16; exact calls_again0 (HSUM.out _ HIL.out))))
      go_wp2
      go_ret
      exact ⟨rfl, below_drewN (below_drewN HB3.out _) _⟩
    · clear hv HL
      subst hm2
      go_wp2_with fail
      refine (HYES.out _ HI2'.out HO3.out).mono ?_
      rintro e w4 ⟨rfl, q, rfl⟩
      go_wp2_with fail
      refine (HYES.out _ (HI2'.out.drewN q) (HO3.out.drewN q)).mono ?_
      rintro e w5 ⟨rfl, q', rfl⟩
      go_wp2
      go_ret
      exact ⟨rfl, below_drewN HB3.out _⟩

set_option maxHeartbeats 3200000 in
theorem putGet_walk (A : Option Addr) (n c : Nat) (bs : Nat → Int) (w : World) (hb : Bytes w w.heap.size A n bs) (hn : n ≤ c) (hc : c ≤ maxLen) :
    Calls Try.prog 8 #[.slice A n c] w fun e w' => e = .returned (.bool true) ∧ Below w.heap.size w w' := by
  by_cases hbig : 1048576 < n
  · go_enter Try.func8, Try.ntmps8
    go_wp2
    go_ret
    exact ⟨rfl, Below.refl _ _⟩
  · go_enter Try.func8, Try.ntmps8
    go_wp2_with fail
    refine (drawPut_any A n c bs _ hb hn hc).mono ?_
    rintro e w1 ⟨k, s, A1, m, c1, xs, rfl, ho1, hm, hrng, hk0, hk1, hs0, hs1, hB1⟩
    have HB1 := hide (hB1.alloc hB1.size (.cells #[.int .i64 k, .int .i64 s, .slice A1 m c1] 30))
    have HF1 := hide (Blk.new w1 30 #[.int .i64 k, .int .i64 s, .slice A1 m c1])
    have HI1 := hide (ho1.ints.alloc (Nat.le_refl _) (.cells #[.int .i64 k, .int .i64 s, .slice A1 m c1] 30))
    have hmm : m ≤ maxLen := by unfold maxLen; omega
    clear ho1 hB1 hb
    go_wp2_with fail
    refine (implPut k s A1 m c1 _ xs _ HI1.out (by simp) hmm).mono ?_
    rintro e w2 ⟨A2, m2, c2, rfl, ho2, hB2⟩
    have hb2 := HF1.out.below hB2 (by simp)
    have HB2 := hide (HB1.out.trans (hB2.mono HB1.out.size))
    have HI2 := hide (HI1.out.below hB2 (by simp))
    have HO2 := hide ho2
    have HF2 := hide hb2
    have hs2 := hB2.size
    simp at hs2
    obtain ⟨t0, t1, t2⟩ := blk_cells3 hb2
    clear hB2 ho2 hb2
    go_wp2_with fail
    refine (specPut k s A1 m c1 _ xs _ HI2.out (by omega) hmm).mono ?_
    rintro e w3 ⟨A3, m3, c3, rfl, ho3, hB3⟩
    have HB3 := hide (HB2.out.trans (hB3.mono HB2.out.size))
    have HI3 := hide (HI2.out.below hB3 (by omega))
    have HO2' := hide (HO2.out.below hB3)
    have HO3 := hide ho3.ints
    have hb3 := HF2.out.below hB3 (by omega)
    have hs3 := hB3.size
    have HF3 := hide hb3
    have hl2 := HO2.out.1
    have hl3 := ho3.1
    have hlx := HI1.out.1
    have hlen : (putF k s xs).length ≤ 40 := by
      rcases hv : validF k s xs with _ | _
      · rw [putF_bad hv]; simp
      · rw [putF_length hv]; omega
    have h2 : m2 ≤ maxLen := by unfold maxLen; omega
    have h3 : m3 ≤ maxLen := by unfold maxLen; omega
    have HL : Hid ((validF k s xs = true ∧ m2 = 3 + m + 1) ∨ (validF k s xs = false ∧ m2 = 0)) := by
      rcases hv : validF k s xs with _ | _
      · right; rw [putF_bad hv] at hl2; exact ⟨rfl, by simpa using hl2.symm⟩
      · left; rw [putF_length hv] at hl2; exact ⟨rfl, by omega⟩
    obtain rfl : m3 = m2 := by omega
    clear hl2 hl3 hlen hlx hB3 ho3 hb3 t0 t1 t2 HF2 HI2 HO2 HB2 HB1 HF1 HI1
    have HYES := hide fun (W : World) (h1 : Ints W w3.heap.size A2 m3 (putF k s xs)) (h2' : Ints W w3.heap.size A3 m3 (putF k s xs)) => sameInts_yes A2 A3 m3 c2 m3 c3 _ _ _ _ W h1 h2' h2 h3 rfl
    have HI2' := hide (HO2'.out.ints)
    rcases HL.out with ⟨hv, hm2⟩ | ⟨hv, hm2⟩
    · have HV := hide hv
      clear hv HL
      subst hm2
      have hlx := HI3.out.1
      have hput := putF_good HV.out
      have hhl : (headF k s xs).length = 3 + m := by simp [headF]; omega
      have hcap := HO2'.out.cap
      have hg0 : (putF k s xs).getD 0 0 = k := by rw [hput]; rfl
      have hg1 : (putF k s xs).getD (0 + 1) 0 = s := by rw [hput]; rfl
      have hg2 : (putF k s xs).getD (0 + 2) 0 = (m : Int) := by rw [hput, ← hlx]; rfl
      have hgL : (putF k s xs).getD (0 + 3 + m) 0 = sumFrom 7 (headF k s xs) := by rw [hput, Nat.zero_add, List.getD, List.getElem?_append_right (by omega), hhl]; simp
      have hcut : cutW (putF k s xs) (0 + 3) m = xs := by
        unfold cutW
        rw [hput, headF]
        show (xs ++ [_]).take m = xs
        rw [← hlx, List.take_left]
      have hcut0 : cutW (putF k s xs) 0 (3 + m) = headF k s xs := by
        unfold cutW
        rw [hput, List.drop_zero, ← hhl, List.take_left]
      have HGET : Hid (∀ W : World, Below w3.heap.size w3 W → Calls Try.prog 23 #[.slice A2 (3 + m + 1) c2, .int .i64 0] W fun e w' => ∃ A5 c5, e = .returned (.tuple #[.agg #[.int .i64 k, .int .i64 s, .slice A5 m c5], .int .i64 (4 + (m : Int)), .bool true]) ∧
          Own w' W.heap.size A5 m c5 xs ∧ Below W.heap.size W w') := by
        intro W hW
        have h := implGet_yes A2 (3 + m + 1) c2 0 m 0 (putF k s xs) W rfl ((HI2'.out.below hW (Nat.le_refl _)).more hW.size) hcap.1 (by have := hcap.2; unfold maxLen at this; omega) (by omega)
          (by rintro rfl; obtain ⟨g, e, _⟩ := HO2'.out.shape (by omega); cases e) hg2 (by omega) k s _ hg0 hg1 hgL (by rw [hcut]; exact HV.out) (by rw [hcut0])
        rw [hcut] at h
        refine h.mono ?_
        rintro e w' ⟨A5, c5, rfl, a, b⟩
        exact ⟨A5, c5, by simp, a, b⟩
      have z3 : (3 + (m : Int) + 1 == 0) = false := by simp; omega
      have z4 : (4 + (m : Int) == 3 + (m : Int) + 1) = true := by simp; omega
      clear hlx hput hhl hcap hg0 hg1 hg2 hgL hcut hcut0
      obtain ⟨t0, t1, t2⟩ := blk_cells3 HF3.out
      go_wp2_with (go_at_call 22; refine (HYES.out _ HI2'.out HO3.out).mono ?_; rintro e w4 ⟨rfl, q, rfl⟩)
      refine (HGET.out _ (below_drewN (Below.refl _ _) q)).mono ?_
      rintro e w5 ⟨A5, c5, rfl, ho5, hB5⟩
      have HB5 := hide (HB3.out.trans ((⟨hB5.os, hB5.tape, hB5.output, hB5.size, hB5.block⟩ : Below w3.heap.size w3 w5).mono HB3.out.size))
      have hB5' : Below w3.heap.size w3 w5 := ⟨hB5.os, hB5.tape, hB5.output, hB5.size, hB5.block⟩
      have hs5 := hB5'.size
      have HO5 := hide (ho5.ints.alloc (Nat.le_refl _) (.cells #[.int .i64 k, .int .i64 s, .slice A5 m c5] 30))
      have HI5 := hide ((HI3.out.below hB5' (by omega)).alloc (by omega) (.cells #[.int .i64 k, .int .i64 s, .slice A5 m c5] 30))
      have hf5 := (HF3.out.below hB5' (by omega)).alloc (.cells #[.int .i64 k, .int .i64 s, .slice A5 m c5] 30)
      obtain ⟨v0, v1, v2⟩ := blk_cells3 hf5
      clear hB5 hB5' ho5 hf5
      go_wp2_with fail
      refine (sameFrame_yes k s A5 A1 m c5 c1 _ _ xs _ HO5.out (by simp) HI5.out (by simp; omega) hmm).mono ?_
      rintro e w6 ⟨rfl, hB6⟩
      have HB6 := hide ((HB5.out.alloc HB5.out.size (.cells #[.int .i64 k, .int .i64 s, .slice A5 m c5] 30)).trans (hB6.mono (by have := HB5.out.size; simp; omega)))
      clear hB6
      go_wp2
      go_ret
      exact ⟨rfl, HB6.out⟩
    · clear hv HL
      subst hm2
      go_wp2_with fail
      refine (HYES.out _ HI2'.out HO3.out).mono ?_
      rintro e w4 ⟨rfl, q, rfl⟩
      go_wp2_with fail
      refine (HYES.out _ (HI2'.out.drewN q) (HO3.out.drewN q)).mono ?_
      rintro e w5 ⟨rfl, q', rfl⟩
      go_wp2
      go_ret
      exact ⟨rfl, below_drewN HB3.out _⟩
end Go.Proofs.Ytfmdginopdpecaa
