/-
  The exact laws' helpers on frames that were found: a count (szFoundS) and copies (toFoundS).
-/
import Derived.Test.YtcocboigjfjnfabExHN
import Derived.Test.YtcocboigjfjnfabExMF
namespace Go.Proofs.Ytcocboigjfjnfab
open Go.RowKit
set_option linter.unusedVariables false
set_option maxRecDepth 100000

set_option maxHeartbeats 400000 in
theorem szFrameL_any (k s l : Int) (A : Option Addr) (n c : Nat) (w : World) (hn : n ≤ 9223372036854775807) (h0 : 0 ≤ l) (hl : l ≤ 9223372036854775807) :
    Calls Try.prog 57 #[.agg #[.int .i64 k, .int .i64 s, .slice A n c], .int .i64 l] w fun e w' => e = .returned (.int .i64 (if l < n then -1 else l - n)) ∧ Below w.heap.size w w' := by
  by_cases h : l < n
  · have h' : l - (n : Int) < 0 := by omega
    go_enter Try.func57, Try.ntmps57
    go_wp2_with (go_at_call 81; refine (szInts_any _ _ _ _ _ hn h0 hl).mono ?_; rw [if_pos h]; rintro e w' ⟨rfl, rfl⟩)
    go_ret
    exact ⟨ret_int (by first | rfl | rw [if_pos h]), below_box _ _⟩
  · have h' : ¬ l - (n : Int) < 0 := by omega
    go_enter Try.func57, Try.ntmps57
    go_wp2_with (go_at_call 81; refine (szInts_any _ _ _ _ _ hn h0 hl).mono ?_; rw [if_neg h]; rintro e w' ⟨rfl, rfl⟩)
    go_ret
    exact ⟨ret_int (by first | rfl | rw [if_neg h]), below_box _ _⟩
set_option maxHeartbeats 1600000 in
theorem szFound_any (A : Option Addr) (n c : Nat) (z a x0 x1 : Int) (l : Int) (w : World) (hn : n ≤ 9223372036854775807) (h0 : 0 ≤ l) (h1 : l ≤ 1048576) :
    Calls Try.prog 35 #[.agg #[.int .i64 z, .int .i64 a, .int .i64 x0, .int .i64 x1, .slice A n c], .int .i64 l] w fun e w' => ∃ r : Int, e = .returned (.int .i64 r) ∧ r ≤ l ∧ -1 ≤ r ∧ (0 ≤ r → (n : Int) ≤ l) ∧ Below w.heap.size w w' := by
  have HS := hide fun (W : World) => szFrameL_any x0 x1 l A n c W hn h0 (by omega)
  have HB0 := hide fun (o : Obj) => below_box w o
  by_cases h : l < n
  · go_enter Try.func35, Try.ntmps35
    go_wp2_with fail
    refine (HS.out _).mono ?_
    rw [if_pos (by omega)]
    rintro e w1 ⟨rfl, hb1⟩
    have HB1 := hide ((HB0.out _).trans (hb1.mono (HB0.out _).size))
    clear hb1
    go_wp2
    go_ret
    exact ⟨-1, rfl, by omega, by omega, fun h2 => absurd h2 (by omega), HB1.out⟩
  · have hneg : ¬ l - (n : Int) < 0 := by omega
    go_enter Try.func35, Try.ntmps35
    go_wp2_with fail
    refine (HS.out _).mono ?_
    rw [if_neg (by omega)]
    rintro e w1 ⟨rfl, hb1⟩
    have HB1 := hide ((HB0.out _).trans (hb1.mono (HB0.out _).size))
    clear hb1
    go_wp2
    go_ret
    exact ⟨l - n, rfl, by omega, by omega, fun _ => by omega, HB1.out⟩

set_option maxHeartbeats 3200000 in
theorem szFoundS_any (A : Option Addr) (n c B : Nat) (qs : List Fq) (w : World) (hr : Fnds w B A n qs) (hB : B ≤ w.heap.size) (hn : n ≤ c) (hc : c ≤ maxLen) :
    Calls Try.prog 14 #[.slice A n c, .int .i64 1048576] w fun e w' => ∃ r : Int, e = .returned (.int .i64 r) ∧ -1 ≤ r ∧ (0 ≤ r → n ≤ 1048576 ∧ ∀ q ∈ qs, q.vals.length ≤ 1048576) ∧ Below w.heap.size w w' := by
  have hn' : n ≤ 9223372036854775807 := by unfold maxLen at hc; omega
  have HR := hide hr
  clear hr
  by_cases h : (1048576 : Int) - (n : Int) < 0
  · go_enter Try.func14, Try.ntmps14
    go_wp2
    go_ret
    exact ⟨-1, rfl, by omega, fun h2 => absurd h2 (by omega), Below.refl _ _⟩
  · go_enter Try.func14, Try.ntmps14
    go_wp2
    go_loopw [1, 5] (fun s i wr => ∃ (k : Nat) (l : Int), k ≤ n ∧ i = .int .i64 k ∧ s = .int .i64 l ∧ 0 ≤ l ∧ l ≤ 1048576 ∧ Hid (∀ q ∈ qs.take k, q.vals.length ≤ 1048576) ∧ Hid (Below w.heap.size w wr)) (fun _ i _ => n - (intOf i).toNat)
    case atStart => exact ⟨0, _, Nat.zero_le _, rfl, rfl, by omega, by omega, (fun q hq => absurd hq (by simp)), Below.refl _ _⟩
    case round =>
      obtain ⟨k, l, hk, rfl, rfl, hl0, hl1, HQ, HB⟩ := hrel
      have hs := HB.out.size
      by_cases hlt : k < n
      · obtain ⟨q, hq⟩ : ∃ q, qs[k]? = some q := ⟨_, List.getElem?_eq_getElem (by rw [HR.out.1]; exact hlt)⟩
        have hR := HR.out.below HB.out hB
        obtain ⟨ad, p, rfl, hp, hb, hc0, hc1, hc2, hc3, hc4⟩ := hR.at_ hq
        obtain ⟨hi, hle, hcm, hnl⟩ := hR.words hq
        have HT := hide (show qs.take (k + 1) = qs.take k ++ [q] by rw [List.take_add_one, hq]; rfl)
        have hqm : q.vals.length ≤ 9223372036854775807 := by have := hcm; unfold maxLen at this; omega
        have HSZ := hide fun (W : World) => szFound_any q.addr q.vals.length q.cap q.zone q.word q.kind q.seq l W hqm hl0 hl1
        simp only [Fq.sl] at hc4
        have k0 : (0 : Int) ≤ (k : Int) := by omega
        have k1 : (k : Int) < (n : Int) := by omega
        clear hq hR hi hle hcm hnl
        go_wp2_with fail
        refine (HSZ.out _).mono ?_
        rintro e w1 ⟨r, rfl, hr1, hr2, hr3, hb1⟩
        have HB1 := hide (HB.out.trans (hb1.mono hs))
        clear hb1
        by_cases hneg : r < 0
        · go_wp2
          go_ret
          exact ⟨-1, rfl, by omega, fun h2 => absurd h2 (by omega), HB1.out⟩
        · have HQ1 : Hid (∀ q ∈ qs.take (k + 1), q.vals.length ≤ 1048576) := by
            intro z hz
            rw [HT.out] at hz
            rcases List.mem_append.1 hz with hz | hz
            · exact HQ.out z hz
            · simp at hz
              subst hz
              have := hr3 (by omega)
              omega
          go_wp2
          go_roundw
          case rel => exact ⟨k + 1, _, by omega, by go_num, rfl, by omega, by omega, HQ1.out, HB1.out⟩
          case measure => simp [intOf]; omega
      · obtain rfl : k = n := by omega
        have HF := hide (show ∀ q ∈ qs, q.vals.length ≤ 1048576 from fun q hq => HQ.out q (by rw [List.take_of_length_le (by rw [HR.out.1]; exact Nat.le_refl _)]; exact hq))
        go_wp2
        go_ret
        exact ⟨l, rfl, by omega, fun _ => ⟨by omega, HF.out⟩, HB.out⟩

def fqz : Fq := ⟨0, 0, 0, 0, [], none, 0⟩
theorem madeFq (n : Nat) : (madeCells (Value.agg #[.int .i64 0, .int .i64 0, .int .i64 0, .int .i64 0, .slice none 0 0]).cells (n * 5)).toList = flatF (List.replicate n fqz) := by
  apply List.ext_getElem?
  intro i
  by_cases h : i < n * 5
  · have hk : (List.replicate n fqz)[i / 5]? = some fqz := by rw [List.getElem?_replicate, if_pos (by omega)]
    have hj := flatF_get hk (i % 5) (Nat.mod_lt _ (by decide))
    rw [show i / 5 * 5 + i % 5 = i by omega] at hj
    rw [hj]
    have h3 : i % 5 = 0 ∨ i % 5 = 1 ∨ i % 5 = 2 ∨ i % 5 = 3 ∨ i % 5 = 4 := by omega
    simp only [madeCells, Array.toList_map, List.getElem?_map]
    rw [Array.getElem?_toList, Array.getElem?_range, if_pos h]
    show some _ = _
    rcases h3 with e | e | e | e | e <;> simp [Value.cells, e, fqz, Fq.cells, Fq.sl]
  · rw [List.getElem?_eq_none (by simp [madeCells]; omega), List.getElem?_eq_none (by rw [flatF_length, List.length_replicate]; omega)]

theorem OwnF.made {w' : World} {base n c : Nat} {A : Option Addr} (h : w'.ownsRow base 34 5 (.slice A n c) n (flatF (List.replicate n fqz))) : OwnF w' base A n c (List.replicate n fqz) := by
  have get : ∀ {k q}, (List.replicate n fqz)[k]? = some q → q = fqz := fun h => (List.mem_replicate.1 (List.mem_of_getElem? h)).2
  refine ⟨by simp, h, fun k q hk => ?_, fun i j q r hi hj hij g hg => ?_⟩
  · rw [get hk]; exact Own.nil_ _ _
  · rw [get hi] at hg
    simp [fqz, Fq.sl, Value.ownBlock] at hg


theorem OwnF.anew {w w3 : World} {base g n c k c3 : Nat} {qs : List Fq} {q : Fq} {A3 : Option Addr} {ws3 : List Int} {row : Option Nat} (h : OwnF w base (some ⟨g, 0, none⟩) n c qs) (hk : qs[k]? = some q) (hg : w.grownBy w3 row)
    (hrow : ∀ b, row = some b → w.heap.size ≤ b) (ho : Own w3 base A3 ws3.length c3 ws3) (hat : ∀ b, (Value.slice A3 ws3.length c3).ownBlock = some b → w.heap.size ≤ b) (z a x0 x1 : Int) :
    OwnF (((((w3.setCell ⟨g, k * 5, none⟩ (.int .i64 z)).setCell ⟨g, k * 5 + 1, none⟩ (.int .i64 a)).setCell ⟨g, k * 5 + 2, none⟩ (.int .i64 x0)).setCell ⟨g, k * 5 + 3, none⟩ (.int .i64 x1)).setCell ⟨g, k * 5 + 4, none⟩ (.slice A3 ws3.length c3)) base (some ⟨g, 0, none⟩) n c (qs.set k ⟨z, a, x0, x1, ws3, A3, c3⟩) ∧
      w3.grownBy (((((w3.setCell ⟨g, k * 5, none⟩ (.int .i64 z)).setCell ⟨g, k * 5 + 1, none⟩ (.int .i64 a)).setCell ⟨g, k * 5 + 2, none⟩ (.int .i64 x0)).setCell ⟨g, k * 5 + 3, none⟩ (.int .i64 x1)).setCell ⟨g, k * 5 + 4, none⟩ (.slice A3 ws3.length c3)) (some g) := by
  have hlt : g < w.heap.size := by
    obtain ⟨g', e, _, hl⟩ := h.shape (by rw [← h.len]; exact Nat.lt_of_le_of_lt (Nat.zero_le _) (List.getElem?_eq_some_iff.1 hk).1)
    injection e with e
    injection e with e
    subst e
    exact hl
  have hrw : ∀ b, row = some b → b ≠ g ∧ ∀ (i : Nat) (r : Fq), qs[i]? = some r → i ≠ k → r.sl.ownBlock ≠ some b :=
    fun b hb => ⟨fun e => by have := hrow b hb; omega, fun i r hi hik e => by have := hrow b hb; have := (h.wblock hi b e).2; omega⟩
  have hqk : Own w3 base q.addr q.vals.length q.cap q.vals := (h.own k q hk).kept hg (fun b hb e => by have := hrow b hb; have := (h.wblock hk b e).2; omega)
  have p1 := h.put hk hg hrw ⟨z, q.word, q.kind, q.seq, q.vals, q.addr, q.cap⟩ 0 (.int .i64 z) (by omega) rfl hqk (fun i r hi hik b hb => h.sep i k r q hi hk hik b hb)
  have hl : k < qs.length := (List.getElem?_eq_some_iff.1 hk).1
  rw [Nat.add_zero] at p1
  have p2 := p1.1.put_in (k := k) (q := ⟨z, q.word, q.kind, q.seq, q.vals, q.addr, q.cap⟩) (by rw [List.getElem?_set_self hl]) ⟨z, a, q.kind, q.seq, q.vals, q.addr, q.cap⟩ 1 (.int .i64 a) (by omega) rfl rfl rfl rfl
  rw [List.set_set] at p2
  have p3 := p2.1.put_in (k := k) (q := ⟨z, a, q.kind, q.seq, q.vals, q.addr, q.cap⟩) (by rw [List.getElem?_set_self hl]) ⟨z, a, x0, q.seq, q.vals, q.addr, q.cap⟩ 2 (.int .i64 x0) (by omega) rfl rfl rfl rfl
  rw [List.set_set] at p3
  have p4 := p3.1.put_in (k := k) (q := ⟨z, a, x0, q.seq, q.vals, q.addr, q.cap⟩) (by rw [List.getElem?_set_self hl]) ⟨z, a, x0, x1, q.vals, q.addr, q.cap⟩ 3 (.int .i64 x1) (by omega) rfl rfl rfl rfl
  rw [List.set_set] at p4
  have hg4 := grown_trans' (grown_trans' (grown_trans' p1.2 p2.2) p3.2) p4.2
  have p5 := p4.1.put (k := k) (q := ⟨z, a, x0, x1, q.vals, q.addr, q.cap⟩) (by rw [List.getElem?_set_self hl]) (World.grownBy.refl _ none) (by simp) ⟨z, a, x0, x1, ws3, A3, c3⟩ 4 (.slice A3 ws3.length c3) (by omega) rfl
    (ho.kept hg4 (fun b hb => by injection hb with hb; subst hb; exact rows_neF (h.row.kept hg (by
      rcases row with _ | b
      · exact .inr (by show (some g : Option Nat) ≠ none; simp)
      · exact .inr (by show (some g : Option Nat) ≠ some b; intro e; injection e with e; exact (hrw b rfl).1 e.symm))) ho.2 (by decide) rfl))
    (fun i r hi hik b hb e => by
      rw [List.getElem?_set, if_neg (fun e2 => hik e2.symm)] at hi
      have := hat b e
      have := (h.wblock hi b hb).2
      omega)
  rw [List.set_set] at p5
  exact ⟨p5.1, grown_trans' hg4 p5.2⟩


theorem blk_cells5N {w : World} {R : Nat} {t : TypeId} {u0 u1 u2 u3 u4 : Value} (h : Blk w R t #[u0, u1, u2, u3, u4]) :
    w.cell? ⟨R, 0, none⟩ = some u0 ∧ w.cell? ⟨R, 1, none⟩ = some u1 ∧ w.cell? ⟨R, 2, none⟩ = some u2 ∧ w.cell? ⟨R, 3, none⟩ = some u3 ∧ w.cell? ⟨R, 4, none⟩ = some u4 :=
  by refine ⟨?_, ?_, ?_, ?_, ?_⟩ <;> rw [h.cell] <;> rfl
theorem grN (w0 w1 : World) (g i : Nat) (u : Value) (h : w0.grownBy w1 (some g)) : w0.grownBy (w1.setCell ⟨g, i, none⟩ u) (some g) :=
  ⟨h.os, h.tape, h.output, by simpa [World.setCell] using h.size, fun q hq hne => (Below.heap_setCell w1 ⟨g, i, none⟩ u q (fun e => hne (by rw [e]))).trans (h.block q hq hne)⟩
theorem alloc_sizeN (w : World) (o : Obj) : (w.alloc o).heap.size = w.heap.size + 1 := by simp
/-- a frame that was found, by value, its body in a new row -/
def FndPost (w : World) (n : Nat) (ws : List Int) (z a x0 x1 : Int) (e : Ending) (w' : World) : Prop :=
  ∃ A2 c2, e = .returned (.agg #[.int .i64 z, .int .i64 a, .int .i64 x0, .int .i64 x1, .slice A2 n c2]) ∧ Own w' w.heap.size A2 n c2 ws ∧ Below w.heap.size w w'

set_option maxHeartbeats 6400000 in
theorem toFound_any (A : Option Addr) (n c B : Nat) (z a x0 x1 : Int) (ws : List Int) (w : World) (hi : Ints w B A n ws) (hB : B ≤ w.heap.size) (hn : n ≤ 17592186044416) :
    Calls Try.prog 36 #[.agg #[.int .i64 z, .int .i64 a, .int .i64 x0, .int .i64 x1, .slice A n c]] w (FndPost w n ws z a x0 x1) := by
  have HTI := hide fun (W : World) (h : Below w.heap.size w W) => toFrame_any x0 x1 A n c B ws W (hi.below h hB) (by have := h.size; omega) hn
  clear hi
  go_enter Try.func36, Try.ntmps36
  have HB3 := hide (((below_box w (.cells #[.int .i64 z, .int .i64 a, .int .i64 x0, .int .i64 x1, .slice A n c] 69)).alloc (by simp) (.cells #[.int .i64 0, .int .i64 0, .int .i64 0, .int .i64 0, .slice none 0 0] 34)).alloc (by simp; omega) (.cells #[.int .i64 z, .int .i64 a, .int .i64 0, .int .i64 0, .slice none 0 0] 34))
  go_wp2_with fail
  refine (HTI.out _ HB3.out).mono ?_
  rintro e w1 ⟨A2, c2, rfl, ho1, hb1⟩
  have HBr := hide (((Blk.new (w.alloc (.cells #[.int .i64 z, .int .i64 a, .int .i64 x0, .int .i64 x1, .slice A n c] 69)) 34 #[.int .i64 0, .int .i64 0, .int .i64 0, .int .i64 0, .slice none 0 0]).alloc (.cells #[.int .i64 z, .int .i64 a, .int .i64 0, .int .i64 0, .slice none 0 0] 34)).below hb1 (by simp))
  have HBo := hide ((Blk.new ((w.alloc (.cells #[.int .i64 z, .int .i64 a, .int .i64 x0, .int .i64 x1, .slice A n c] 69)).alloc (.cells #[.int .i64 0, .int .i64 0, .int .i64 0, .int .i64 0, .slice none 0 0] 34)) 34 #[.int .i64 z, .int .i64 a, .int .i64 0, .int .i64 0, .slice none 0 0]).below hb1 (by simp))
  simp only [alloc_sizeN] at HBr HBo
  obtain ⟨r0, r1, r2, r3, r4⟩ := blk_cells5N HBr.out
  obtain ⟨o0, o1, o2, o3, o4⟩ := blk_cells5N HBo.out
  have fo2 := HBo.out.frozen 2
  have fo3 := HBo.out.frozen 3
  have fo4 := HBo.out.frozen 4
  have fr0 := HBr.out.frozen 0
  have fr1 := HBr.out.frozen 1
  have fr2 := HBr.out.frozen 2
  have fr3 := HBr.out.frozen 3
  have fr4 := HBr.out.frozen 4
  have HEND : Hid (∀ (a2 a3 a4 b0 b1 b2 b3 b4 : Value), Own ((((((((w1.setCell ⟨w.heap.size + 1 + 1, 2, none⟩ a2).setCell ⟨w.heap.size + 1 + 1, 3, none⟩ a3).setCell ⟨w.heap.size + 1 + 1, 4, none⟩ a4).setCell ⟨w.heap.size + 1, 0, none⟩ b0).setCell ⟨w.heap.size + 1, 1, none⟩ b1).setCell ⟨w.heap.size + 1, 2, none⟩ b2).setCell ⟨w.heap.size + 1, 3, none⟩ b3).setCell ⟨w.heap.size + 1, 4, none⟩ b4) w.heap.size A2 n c2 ws ∧
      Below w.heap.size w ((((((((w1.setCell ⟨w.heap.size + 1 + 1, 2, none⟩ a2).setCell ⟨w.heap.size + 1 + 1, 3, none⟩ a3).setCell ⟨w.heap.size + 1 + 1, 4, none⟩ a4).setCell ⟨w.heap.size + 1, 0, none⟩ b0).setCell ⟨w.heap.size + 1, 1, none⟩ b1).setCell ⟨w.heap.size + 1, 2, none⟩ b2).setCell ⟨w.heap.size + 1, 3, none⟩ b3).setCell ⟨w.heap.size + 1, 4, none⟩ b4)) := by
    intro a2 a3 a4 b0 b1 b2 b3 b4
    have g1 := grN _ _ (w.heap.size + 1 + 1) 4 a4 (grN _ _ (w.heap.size + 1 + 1) 3 a3 (grN _ _ (w.heap.size + 1 + 1) 2 a2 (grown_refl w1 _)))
    have g2 := grN _ _ (w.heap.size + 1) 4 b4 (grN _ _ (w.heap.size + 1) 3 b3 (grN _ _ (w.heap.size + 1) 2 b2 (grN _ _ (w.heap.size + 1) 1 b1 (grN _ _ (w.heap.size + 1) 0 b0 (grown_refl (((w1.setCell ⟨w.heap.size + 1 + 1, 2, none⟩ a2).setCell ⟨w.heap.size + 1 + 1, 3, none⟩ a3).setCell ⟨w.heap.size + 1 + 1, 4, none⟩ a4) _)))))
    have hbl := fun g e => (ho1.block g e).1
    simp only [alloc_sizeN] at hbl
    have k1 := ho1.kept g1 (fun b hb => by injection hb with hb; subst hb; intro e; have := hbl _ e; omega)
    have k2 := k1.kept g2 (fun b hb => by injection hb with hb; subst hb; intro e; have := hbl _ e; omega)
    have hB1 := HB3.out.trans (hb1.mono (by simp; omega))
    have s1 := hB1.size
    exact ⟨k2.mono (by simp; omega), (hB1.grown g1 s1 (fun b hb => by injection hb with hb; omega)).grown g2 (Nat.le_trans s1 g1.size) (fun b hb => by injection hb with hb; omega)⟩
  clear ho1 hb1 HTI HB3 HBr HBo
  go_wp2
  refine bodyPost_ret (v := .agg #[.int .i64 z, .int .i64 a, .int .i64 x0, .int .i64 x1, .slice A2 n c2]) (by simp [results, Try.results36, go_sem, r0, r1, r2, r3, r4]) rfl ?_
  exact ⟨A2, c2, rfl, (HEND.out _ _ _ _ _ _ _ _).1, (HEND.out _ _ _ _ _ _ _ _).2⟩

set_option maxHeartbeats 6400000 in
theorem toFoundS_any (A : Option Addr) (n c B : Nat) (qs : List Fq) (w : World) (hr : Fnds w B A n qs) (hB : B ≤ w.heap.size) (hn : n ≤ 1000000000) (hl : ∀ q ∈ qs, q.vals.length ≤ 1048576) :
    Calls Try.prog 15 #[.slice A n c] w fun e w' => ∃ A2 c2 qs2, e = .returned (.slice A2 n c2) ∧ OwnF w' w.heap.size A2 n c2 qs2 ∧ fns qs2 = fns qs ∧ Below w.heap.size w w' := by
  obtain ⟨i0, hi, hz0, hz1, hz2⟩ := info_parts fndT.info
  have HR := hide hr
  have HL := hide hl
  clear hr hl
  go_enter Try.func15, Try.ntmps15
  go_wp2_with (at_make; refine wpList_make_full _ rfl _ _ 23 rfl w.heap.size 34 i0 (Value.agg #[.int .i64 0, .int .i64 0, .int .i64 0, .int .i64 0, .slice none 0 0]) 5 Try.underlying23 hi hz0 hz1 .i64 .i64 _ _ n rfl rfl rfl rfl (by rw [hz2]; omega) (by unfold maxLen; omega) (Nat.le_refl _) ?_; intro w1 hown hgrow; rw [madeFq] at hown)
  have HO0 := hide (OwnF.made hown)
  have HB0 := hide (below_of_grown hgrow)
  clear hown hgrow hi hz0 hz1 hz2
  go_loopw [4] (fun i wr => ∃ (k : Nat) (rs : List Fq), k ≤ n ∧ i = .int .i64 k ∧ Hid (OwnF wr w.heap.size (some ⟨w.heap.size, 0, none⟩) n n rs) ∧ Hid (∀ j, j < k → (fns rs)[j]? = (fns qs)[j]?) ∧ Hid (Below w.heap.size w wr)) (fun i _ => n - (intOf i).toNat)
  case atStart => exact ⟨0, _, Nat.zero_le _, rfl, HO0.out, (fun j hj => absurd hj (by omega)), HB0.out⟩
  case round =>
    obtain ⟨k, rs, hk, rfl, HO, HD, HB⟩ := hrel
    have hs := HB.out.size
    by_cases hlt : k < n
    · obtain ⟨q, hq⟩ : ∃ q, qs[k]? = some q := ⟨_, List.getElem?_eq_getElem (by rw [HR.out.1]; exact hlt)⟩
      have hqz : (fns qs)[k]? = some q.fn := fns_get hq
      have HQZ := hide hqz
      have hR := HR.out.below HB.out hB
      obtain ⟨ad, p, rfl, hp, hb, hc0, hc1, hc2, hc3, hc4⟩ := hR.at_ hq
      obtain ⟨hiw, hle, hcm, hnl⟩ := hR.words hq
      have hql := HL.out q (List.mem_of_getElem? hq)
      obtain ⟨r, hr⟩ : ∃ r, rs[k]? = some r := ⟨_, List.getElem?_eq_getElem (by rw [HO.out.len]; exact hlt)⟩
      clear hq hR hqz hnl
      obtain ⟨zo, wo, kd, sq, ws, qa, qc⟩ := q
      simp only [Fq.sl] at hc0 hc1 hc2 hc3 hc4 hiw hle hcm hql
      obtain ⟨m, hm⟩ : ∃ m, ws.length = m := ⟨_, rfl⟩
      rw [hm] at hc4 hiw hle hql
      have HM := hide hm
      have HTZ := hide (toFound_any qa m qc B zo wo kd sq ws wr hiw (by omega) (by omega))
      have HAN := hide fun (w3 : World) (c3 : Nat) (A3 : Option Addr) hg ho hat => HO.out.anew (w3 := w3) (c3 := c3) (A3 := A3) (ws3 := ws) (row := none) hr hg (by simp) ho hat zo wo kd sq
      have HRR := hide hr
      have k0 : (0 : Int) ≤ (k : Int) := by omega
      have k1 : (k : Int) < (n : Int) := by omega
      clear hiw hle hcm hm hr
      go_wp2_with fail
      refine HTZ.out.mono ?_
      rintro e w2 ⟨A2, c2, rfl, ho2, hb2⟩
      have hg2 : wr.grownBy w2 none := grown_of_below hb2 none
      have hO2 := HO.out.below hb2
      have HE := hide (HAN.out w2 c2 A2 hg2 (by rw [HM.out]; exact ho2.mono hs) (fun b hb => by rw [HM.out] at hb; exact (ho2.block b hb).1))
      rw [HM.out] at HE
      obtain ⟨hm0, hm1, hm2, hm3, hm4⟩ := hO2.at_ HRR.out
      have hf0 := hO2.free (j := k * 5)
      have hf1 := hO2.free (j := k * 5 + 1)
      have hf2 := hO2.free (j := k * 5 + 2)
      have hf3 := hO2.free (j := k * 5 + 3)
      have hf4 := hO2.free (j := k * 5 + 4)
      have hsz2 := hb2.size
      have HB2 := hide ((HB.out.trans (hb2.mono hs)).grown HE.out.2 (by omega) (fun b hb => by injection hb with hb; omega))
      have hrl : (fns rs).length = n := by unfold fns; rw [List.length_map]; exact HO.out.len
      have HD2 : Hid (∀ j, j < k + 1 → (fns (rs.set k ⟨zo, wo, kd, sq, ws, A2, c2⟩))[j]? = (fns qs)[j]?) := by
        intro j hj
        rw [fns_setF, List.getElem?_set]
        by_cases e : k = j
        · subst e
          rw [if_pos rfl, if_pos (by omega), HQZ.out]
          rfl
        · rw [if_neg e]
          exact HD.out j (by omega)
      clear hg2 hO2 ho2 hb2 hrl hc0 hc1 hc2 hc3 hc4 HAN HTZ
      go_wp2
      go_roundw
      case rel => exact ⟨k + 1, _, by omega, by go_num, HE.out.1, HD2.out, HB2.out⟩
      case measure => simp [intOf]; omega
    · obtain rfl : k = n := by omega
      go_wp2
      go_ret
      refine ⟨_, _, _, rfl, HO.out, ?_, HB.out⟩
      apply List.ext_getElem?
      intro j
      by_cases hj : j < k
      · exact HD.out j hj
      · rw [List.getElem?_eq_none (by unfold fns; rw [List.length_map, HO.out.len]; omega), List.getElem?_eq_none (by unfold fns; rw [List.length_map, HR.out.1]; omega)]
end Go.Proofs.Ytcocboigjfjnfab
