/-
  The program's scanWords and ScanZone: the frames of a zone's words, and the place of the first word that begins none.
-/
import Derived.Test.YtcocboigjfjnfacSpecN1
import Derived.Test.YtcocboigjfjnfacFrameI
import Derived.Test.YtcocboigjfjnfacImpZ1
namespace Go.Proofs.Ytcocboigjfjnfac
open Go.RowKit
set_option linter.unusedVariables false
set_option maxRecDepth 100000

theorem implScanL (A : Option Addr) (n c : Nat) (z : Int) (xs : List Int) (w : World) (hi : Ints w w.heap.size A n xs) (hle : n ≤ c) (hcm : c ≤ 9223372036854775807) (hl : n ≤ 1000000) :
    Calls Try.prog 24 #[.slice A n c, .int .i64 z] w (ScanPost w (scanW z xs 0)) := by
  have HI := hide hi
  have HM := hide hi.1
  clear hi
  go_enter Try.func24, Try.ntmps24
  go_wp2
  go_loopw [6, 7] (fun o i wr => ∃ (a j c2 : Nat) (A2 : Option Addr) (rs : List Fq), a ≤ n ∧ j ≤ a ∧ i = .int .i64 a ∧ o = .slice A2 j c2 ∧ Hid (OwnF wr w.heap.size A2 j c2 rs) ∧
      Hid (fns rs ++ (scanW z xs a).1 = (scanW z xs 0).1) ∧ Hid ((scanW z xs a).2 = (scanW z xs 0).2) ∧ Hid (Below w.heap.size w wr)) (fun _ i _ => n - (intOf i).toNat)
  case atStart => exact ⟨0, 0, 0, _, [], Nat.zero_le _, Nat.le_refl _, rfl, rfl, OwnF.nil_ w _, by show fns [] ++ _ = _; simp [fns], rfl, Below.refl _ _⟩
  case round =>
    obtain ⟨a, j, c2, A2, rs, ha, hja, rfl, rfl, HO, HF, HE, HB⟩ := hrel
    have hs := HB.out.size
    have HIR := hide ((HI.out.below HB.out (Nat.le_refl _)).more hs)
    by_cases hG : goodF xs xs.length (a : Int)
    · have HY := hide (scanW_yes z hG)
      obtain ⟨gl, gm, gv, gs⟩ := good_len hG
      have hb5 := (validF_iff.1 gv).2.2.1.1
      clear hG
      rw [HM.out] at gl
      have HFN : Hid (fnAt z xs a = (z, (a : Int), xs.getD a 0, xs.getD (a + 1) 0, cutW xs (a + 3) (lenAt xs a))) := rfl
      have hbl := cutW_length xs (a + 3) (lenAt xs a) (by rw [HM.out]; omega)
      generalize hL : lenAt xs a = l at *
      generalize hX0 : xs.getD a 0 = x0 at *
      generalize hX1 : xs.getD (a + 1) 0 = x1 at *
      generalize hX3 : xs.getD (a + 3 + l) 0 = x3 at *
      have HC := hide (implGet_yes0 A n c a l (a : Int) xs wr rfl HIR.out hle hcm (by omega) gm gl x0 x1 x3 hX0 hX1 hX3 gv gs)
      clear hX0 hX1 hX3 gm gv gs hL hb5
      generalize cutW xs (a + 3) l = body at *
      have HBL := hide hbl
      clear hbl
      go_wp2_with fail
      refine HC.out.mono ?_
      rintro e w1 ⟨A3, c3, rfl, ho3, hb3⟩
      have HO3 := hide ho3
      have HB3 := hide hb3
      clear ho3 hb3
      have HNW := hide fun o => NewF.got (z := z) (a := (a : Int)) (x0 := x0) (x1 := x1) HO.out hs HO3.out HB3.out HBL.out o (w1.heap.size + 1) rfl
      have hj9 : j + 1 ≤ 100000000000 := by omega
      have hw1 : w.heap.size ≤ w1.heap.size := Nat.le_trans hs HB3.out.size
      have hbz : ∀ o o' : Obj, w.heap.size ≤ ((w1.alloc o).alloc o').heap.size := fun o o' => by simp; omega
      go_wp2_with (at_builtin; refine wpList_append_fnds rfl (.tmp 22) (.tmp 27) rfl w.heap.size j c2 1 1 A2 (some ⟨w1.heap.size + 1, 0, none⟩) rs [⟨z, (a : Int), x0, x1, body, A3, c3⟩] rfl rfl (HNW.out _) hj9 (hbz _ _) ?_; intro A4 c4 w4 ho4 hg4 hat4; clear hat4)
      have hB4 := below_app_f ((((HB.out.trans (HB3.out.mono hs)).alloc hw1 _))) (by simp; omega) ((HO.out.below HB3.out).alloc _) (Nat.le_refl _) hg4
      have HB4 := hide hB4
      have HO4 := hide ho4
      clear ho4 hg4 hB4
      go_roundw
      case rel => exact ⟨a + 4 + l, j + 1, c4, A4, _, gl, by omega, by go_num, rfl, HO4.out, by show fns (rs ++ [_]) ++ _ = _; rw [fns_append, ← HF.out, HY.out, HFN.out]; simp [fns, Fq.fn], by show _ = _; rw [← HE.out, HY.out], HB4.out⟩
      case measure => have := HM.out; simp [intOf]; omega
    · have HC := implGet_no0 A n c (a : Int) xs wr HIR.out hle hcm (by omega) (by omega) (by rw [← HM.out]; exact hG)
      unfold noFrame at HC
      replace HC := hide HC
      have HN := hide (scanW_no z hG)
      clear hG
      go_wp2_with fail
      refine HC.out.mono ?_
      rintro e w1 ⟨rfl, hb3⟩
      have HB3 := hide hb3
      clear hb3
      go_wp2
      try simp only [Exit.inBlock, Exit.then]
      refine bodyPost_ret (results_tmp2 rfl _ _ _) rfl ?_
      have h1 := HF.out
      have h2 := HE.out
      rw [HN.out] at h1 h2
      simp only [List.append_nil] at h1 h2
      exact ⟨A2, c2, j, rs, by rw [← h2]; rfl, ((HO.out.below HB3.out).alloc _), h1, (HB.out.trans (HB3.out.mono hs)).alloc (Nat.le_trans hs HB3.out.size) _⟩

end Go.Proofs.Ytcocboigjfjnfac
