/-
  The model's l12Zone and ScanZone: the frames of a zone's words, and the place of the first word that begins none.
-/
import Derived.Test.YtcocboigjfjnfacScnM
import Derived.Test.YtcocboigjfjnfacFrameU
import Derived.Test.YtcocboigjfjnfacSpecZ1
namespace Go.Proofs.Ytcocboigjfjnfac
open Go.RowKit
set_option linter.unusedVariables false
set_option maxRecDepth 100000

theorem below_undrewF {B : Nat} {a w : World} {i : Nat} (h : Below B (a.drewN i) w) : Below B a w := ⟨h.os, h.tape, h.output, h.size, h.block⟩
/-- behind 'append(out, x)', the frame in a new block -/
theorem below_app_f {B base n c : Nat} {a w w' : World} {A : Option Addr} {qs : List Fq} {o : Obj} (h : Below B a w) (hB : B ≤ w.heap.size) (hown : OwnF w base A n c qs) (hb : B ≤ base)
    (hg : (w.alloc o).grownBy w' (Value.slice A n c).ownBlock) : Below B a w' :=
  (h.alloc hB o).grown hg (by simp; omega) (fun k hk => by have := (hown.block k hk).1; omega)
theorem new_sepF {w : World} {base n c : Nat} {A : Option Addr} {qs : List Fq} (h : OwnF w base A n c qs) {q : Fq} (hq : ∀ g, q.sl.ownBlock = some g → w.heap.size ≤ g) :
    ∀ (k : Nat) (r : Fq), qs[k]? = some r → ∀ g, r.sl.ownBlock = some g → q.sl.ownBlock ≠ some g := by
  intro k r hk g hg e
  have h1 := (h.wblock hk g hg).2
  have h2 := hq g e
  omega

/-- what an append of a frame that FrameGet has given asks, with the frame in two new blocks -/
theorem NewF.got {w wr w1 : World} {A2 A3 : Option Addr} {j c2 c3 l : Nat} {rs : List Fq} {z a x0 x1 : Int} {body : List Int} (HO : OwnF wr w.heap.size A2 j c2 rs) (hs : w.heap.size ≤ wr.heap.size) (ho3 : Own w1 wr.heap.size A3 l c3 body)
    (hb3 : Below wr.heap.size wr w1) (hl : body.length = l) (o : Obj) (g : Nat) (hg : g = w1.heap.size + 1) :
    NewF ((w1.alloc o).alloc (.cells #[.int .i64 z, .int .i64 a, .int .i64 x0, .int .i64 x1, .slice A3 l c3] 35)) w.heap.size j A2 c2 rs (some ⟨g, 0, none⟩) 1 [⟨z, a, x0, x1, body, A3, c3⟩] := by
  subst hl hg
  have e : w1.heap.size + 1 = (w1.alloc o).heap.size := by simp
  rw [e]
  refine NewF.one (((HO.below hb3).alloc o).alloc _) (fnd_cells (w1.alloc o) ⟨z, a, x0, x1, body, A3, c3⟩) (((ho3.mono hs).alloc o).alloc _) (fun k r hk g hg e2 => ?_)
  have h1 := (HO.wblock hk g hg).2
  have h2 := (ho3.block g e2).1
  omega

/-- what is asked of a device's zone: its words can be read -/
theorem specScanL (A : Option Addr) (n c B k : Nat) (q : Zq) (qs : List Zq) (w : World) (hr : Zns w B A n qs) (hB : B ≤ w.heap.size) (hn : n ≤ 1000000000000) (hq : qs[k]? = some q) (hl : q.words.length ≤ 1000000) :
    Calls Try.prog 57 #[.slice A n c, .int .i64 k] w fun e w' => ∃ A2 c2 m rs, e = .returned (.tuple #[.slice A2 m c2, .int .i64 ((scanW k q.words 0).2 : Int)]) ∧ OwnF w' w.heap.size A2 m c2 rs ∧
      fns rs = (scanW k q.words 0).1 ∧ Below w.heap.size w w' := by
  have hkn : k < n := by rw [← hr.1]; exact (List.getElem?_eq_some_iff.1 hq).1
  have HR := hide hr
  have HBB := hide hB
  have HQ := hide hq
  clear hr hq
  have k0 : (0 : Int) ≤ (k : Int) := by omega
  have k1 : (k : Int) < (n : Int) := by omega
  go_enter Try.func57, Try.ntmps57
  go_wp2
  go_loopw [6, 7] (fun o i wr => ∃ (a j c2 : Nat) (A2 : Option Addr) (rs : List Fq), a ≤ q.words.length ∧ j ≤ a ∧ i = .int .i64 a ∧ o = .slice A2 j c2 ∧ Hid (OwnF wr w.heap.size A2 j c2 rs) ∧
      Hid (fns rs ++ (scanW k q.words a).1 = (scanW k q.words 0).1) ∧ Hid ((scanW k q.words a).2 = (scanW k q.words 0).2) ∧ Hid (Below w.heap.size w wr)) (fun _ i _ => q.words.length - (intOf i).toNat)
  case atStart => exact ⟨0, 0, 0, _, [], Nat.zero_le _, Nat.le_refl _, rfl, rfl, OwnF.lit0 w _ (Nat.le_refl _), by show fns [] ++ _ = _; simp [fns], rfl, below_new w _⟩
  case round =>
    obtain ⟨a, j, c2, A2, rs, ha, hja, rfl, rfl, HO, HF, HE, HB⟩ := hrel
    have hs := HB.out.size
    have hR := HR.out.below HB.out HBB.out
    obtain ⟨ad, p, rfl, hp, hb, hc0, hc1, hc2⟩ := hR.at_ HQ.out
    obtain ⟨hi, hle, hcm⟩ := hR.words HQ.out
    have HI := hide (hi.more (show B ≤ wr.heap.size by omega))
    clear hR hi
    obtain ⟨xs, sy, fu, qa, qc⟩ := q
    simp only [Zq.sl] at hc0 hle hl ha HI HF HE
    obtain ⟨m, hm⟩ : ∃ m, xs.length = m := ⟨_, rfl⟩
    rw [hm] at hc0 hle hl ha HI
    have HM := hide hm
    clear hm
    have hqm : qc ≤ 9223372036854775807 := by unfold maxLen at hcm; omega
    by_cases hlt : a < m
    · have a1 : (a : Int) < (m : Int) := by omega
      by_cases hG : goodF xs xs.length (a : Int)
      · have HY := hide (scanW_yes (k : Int) hG)
        obtain ⟨gl, gm, gv, gs⟩ := good_len hG
        clear hG
        rw [HM.out] at gl
        have HFN : Hid (fnAt (k : Int) xs a = ((k : Int), (a : Int), xs.getD a 0, xs.getD (a + 1) 0, cutW xs (a + 3) (lenAt xs a))) := rfl
        have hbl := cutW_length xs (a + 3) (lenAt xs a) (by rw [HM.out]; omega)
        generalize hL : lenAt xs a = l at *
        generalize hX0 : xs.getD a 0 = x0 at *
        generalize hX1 : xs.getD (a + 1) 0 = x1 at *
        generalize hX3 : xs.getD (a + 3 + l) 0 = x3 at *
        have HC := hide (specGet_yes qa m qc a l (a : Int) xs wr rfl HI.out hle hqm (by omega) gm gl x0 x1 x3 hX0 hX1 hX3 gv gs)
        clear hX0 hX1 hX3 gm gv gs hL
        generalize cutW xs (a + 3) l = body at *
        have HBL := hide hbl
        clear hbl
        go_wp2_with fail
        refine HC.out.mono ?_
        rintro e w1 ⟨A3, c3, rfl, ho3, hb3⟩
        have HO3 := hide ho3
        have HB3 := hide hb3
        clear ho3 hb3
        have HNW := hide fun o => NewF.got (z := (k : Int)) (a := (a : Int)) (x0 := x0) (x1 := x1) HO.out hs HO3.out HB3.out HBL.out o (w1.heap.size + 1) rfl
        have hj9 : j + 1 ≤ 100000000000 := by omega
        have hw1 : w.heap.size ≤ w1.heap.size := Nat.le_trans hs HB3.out.size
        have hbz : ∀ o o' : Obj, w.heap.size ≤ ((w1.alloc o).alloc o').heap.size := fun o o' => by simp; omega
        go_wp2_with (at_builtin; refine wpList_append_fnds rfl (.tmp 35) (.tmp 40) rfl w.heap.size j c2 1 1 A2 (some ⟨w1.heap.size + 1, 0, none⟩) rs [⟨(k : Int), (a : Int), x0, x1, body, A3, c3⟩] rfl rfl (HNW.out _) hj9 (hbz _ _) ?_; intro A4 c4 w4 ho4 hg4 hat4; clear hat4)
        have hB4 := below_app_f ((((HB.out.trans (HB3.out.mono hs)).alloc hw1 _))) (by simp; omega) ((HO.out.below HB3.out).alloc _) (Nat.le_refl _) hg4
        have HB4 := hide hB4
        have HO4 := hide ho4
        clear ho4 hg4 hB4
        go_roundw
        case rel => exact ⟨a + 4 + l, j + 1, c4, A4, _, by rw [HM.out]; exact gl, by omega, by go_num, rfl, HO4.out, by show fns (rs ++ [_]) ++ _ = _; rw [fns_append, ← HF.out, HY.out, HFN.out]; simp [fns, Fq.fn], by show _ = _; rw [← HE.out, HY.out], HB4.out⟩
        case measure => have := HM.out; simp [intOf]; omega
      · have HC := specGet_no qa m qc (a : Int) xs wr HI.out hle hqm (by omega) (by omega) (by rw [← HM.out]; exact hG)
        unfold noFrame at HC
        replace HC := hide HC
        have HN := hide (scanW_no (k : Int) hG)
        clear hG
        go_wp2_with fail
        refine HC.out.mono ?_
        rintro e w1 ⟨rfl, hb3⟩
        have HB3 := hide hb3
        clear hb3
        go_wp2
        try simp only [Exit.inBlock, Exit.then]
        refine bodyPost_ret (results_tmp2 rfl _ _ _) rfl ?_
        have h1 := HF.out
        have h2 := HE.out
        rw [HN.out] at h1 h2
        simp only [List.append_nil] at h1 h2
        exact ⟨A2, c2, j, by rw [← h2]; rfl, rs, ((HO.out.below HB3.out).alloc _), h1, (HB.out.trans (HB3.out.mono hs)).alloc (Nat.le_trans hs HB3.out.size) _⟩
    · have HN := hide (scanW_past (k : Int) (xs := xs) (a := a) (by rw [HM.out]; omega))
      have a1 : (m : Int) ≤ (a : Int) := by omega
      go_wp2
      try simp only [Exit.inBlock, Exit.then]
      refine bodyPost_ret (results_tmp2 rfl _ _ _) rfl ?_
      have h1 := HF.out
      have h2 := HE.out
      rw [HN.out] at h1 h2
      simp only [List.append_nil] at h1 h2
      exact ⟨A2, c2, j, by rw [← h2]; rfl, rs, HO.out, h1, HB.out⟩

/-- the words of a zone of a valid device -/
theorem devV_words {qs : List Zq} {k : Nat} {q : Zq} (hv : devV (zns qs) = true) (hq : qs[k]? = some q) : q.words.length ≤ 64 := by
  unfold devV at hv
  rw [Bool.and_eq_true] at hv
  have h := List.all_eq_true.1 hv.1 q.zn (by unfold zns; exact List.mem_map.2 ⟨q, List.mem_of_getElem? hq, rfl⟩)
  unfold zoneOk Zq.zn at h
  simp at h
  omega
theorem devV_is4 {qs : List Zq} {n : Nat} (hv : devV (zns qs) = true) (hl : qs.length = n) : n = 4 := by
  unfold devV at hv
  simp [zns] at hv
  omega
/-- what ScanZone answers: the frames, and the place behind them -/
noncomputable def scanZ (d : Dev) (z : Int) : List Fn × Nat := if devV d && inB z 0 3 then scanW z (d.getD z.toNat ([], 0, false)).1 0 else ([], 0)
theorem scanZ_no {d : Dev} {z : Int} (h : (devV d && inB z 0 3) = false) : scanZ d z = ([], 0) := by unfold scanZ; rw [h]; rfl
theorem scanZ_yes {qs : List Zq} {k : Nat} {q : Zq} (hd : devV (zns qs) = true) (hk : k < 4) (hq : qs[k]? = some q) : scanZ (zns qs) (k : Int) = scanW (k : Int) q.words 0 := by
  unfold scanZ
  rw [hd, inB_true (by omega) (by omega)]
  simp [zns, List.getD, hq, Zq.zn]
/-- what a scan of a zone hands back -/
def ScanPost (w : World) (want : List Fn × Nat) (e : Ending) (w' : World) : Prop :=
  ∃ A2 c2 m rs, e = .returned (.tuple #[.slice A2 m c2, .int .i64 (want.2 : Int)]) ∧ OwnF w' w.heap.size A2 m c2 rs ∧ fns rs = want.1 ∧ Below w.heap.size w w'

end Go.Proofs.Ytcocboigjfjnfac
