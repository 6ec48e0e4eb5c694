/-
  The program's (*mark).cut, (*mark).sync, (*grid).add: they change one grid.
-/
import Derived.Test.YtahpbgaeenclhaaImpZ3
namespace Go.Proofs.Ytahpbgaeenclhaa
open Go.RowKit
set_option linter.unusedVariables false
set_option maxRecDepth 100000

/-- a call that changed one grid, and returns nothing -/
def MarkPost (w : World) (g : Nat) (W : List Int) (M : List Mk) (e : Ending) (w' : World) : Prop := e = .returned (.tuple #[]) ∧ GB w' g W M ∧ w.grownBy w' (some g)

theorem GB.cutS {w : World} {g k : Nat} {W : List Int} {M : List Mk} {m : Mk} (h : GB w g W M) (hm : M[k]? = some m) (a b : Int) (h0 : 0 ≤ a) (h1 : a ≤ 64) :
    GB ((w.setCell ⟨g, 256 + k * 3, none⟩ (.int .i64 a)).setCell ⟨g, 256 + k * 3 + 1, none⟩ (.int .i64 b)) g W (M.set k (a, b, m.2.2)) ∧ w.grownBy ((w.setCell ⟨g, 256 + k * 3, none⟩ (.int .i64 a)).setCell ⟨g, 256 + k * 3 + 1, none⟩ (.int .i64 b)) (some g) := by
  have hl : k < M.length := (List.getElem?_eq_some_iff.1 hm).1
  have p1 := h.set0 hm a h0 h1
  have p2 := p1.set1 (k := k) (m := (a, m.2.1, m.2.2)) (by rw [List.getElem?_set_self hl]) b
  rw [List.set_set] at p2
  exact ⟨p2, grown_trans' (grown1 _ _ _ _) (grown1 _ _ _ _)⟩

set_option maxHeartbeats 1600000 in
theorem implMarkCut (g k : Nat) (n mi sy : Int) (fu : Bool) (W : List Int) (M : List Mk) (w : World) (hg : GB w g W M) (hm : M[k]? = some (mi, sy, fu)) (h0 : 0 ≤ n) (h1 : n ≤ 64) :
    Calls Try.prog 53 #[.pointer (some ⟨g, 256 + k * 3, none⟩), .int .i64 n] w (MarkPost w g W (M.set k (n, min sy n, fu))) := by
  obtain ⟨hc0, hc1, hc2⟩ := hg.mark hm
  have HC := hide fun b => hg.cutS hm n b h0 h1
  have hf0 := hg.1.frozen (256 + k * 3)
  have hf1 := hg.1.frozen (256 + k * 3 + 1)
  clear hg hm hc2
  simp only at hc0 hc1 HC
  go_enter Try.func53, Try.ntmps53
  by_cases hl : sy ≤ n
  · have e : min sy n = sy := by omega
    rw [e]
    clear e
    go_wp2
    exact bodyPost_end (results_none Try.results53 _ _ _) rfl ⟨rfl, HC.out _⟩
  · have e : min sy n = n := by omega
    rw [e]
    clear e
    go_wp2
    exact bodyPost_end (results_none Try.results53 _ _ _) rfl ⟨rfl, HC.out _⟩

theorem GB.syncS {w : World} {g k : Nat} {W : List Int} {M : List Mk} {m : Mk} (h : GB w g W M) (hm : M[k]? = some m) (b : Int) :
    GB (w.setCell ⟨g, 256 + k * 3 + 1, none⟩ (.int .i64 b)) g W (M.set k (m.1, b, m.2.2)) ∧ w.grownBy (w.setCell ⟨g, 256 + k * 3 + 1, none⟩ (.int .i64 b)) (some g) := ⟨h.set1 hm b, grown1 _ _ _ _⟩

set_option maxHeartbeats 1600000 in
theorem implMarkSync (g k : Nat) (mi sy : Int) (fu : Bool) (W : List Int) (M : List Mk) (w : World) (hg : GB w g W M) (hm : M[k]? = some (mi, sy, fu)) :
    Calls Try.prog 52 #[.pointer (some ⟨g, 256 + k * 3, none⟩)] w (MarkPost w g W (M.set k (mi, mi, fu))) := by
  obtain ⟨hc0, hc1, hc2⟩ := hg.mark hm
  have HC := hide (hg.syncS hm mi)
  have hf1 := hg.1.frozen (256 + k * 3 + 1)
  clear hg hm hc2
  simp only at hc0 hc1 HC
  go_enter Try.func52, Try.ntmps52
  go_wp2
  exact bodyPost_end (results_none Try.results52 _ _ _) rfl ⟨rfl, HC.out⟩

/-- a grid to which words were added, or not -/
def AddPost (w : World) (g : Nat) (W : List Int) (M : List Mk) (v : Bool) (e : Ending) (w' : World) : Prop := e = .returned (.bool v) ∧ GB w' g W M ∧ w.grownBy w' (some g)

set_option maxHeartbeats 1600000 in
theorem implAdd_no (g k m d : Nat) (X : Option Addr) (n sy : Int) (fu : Bool) (W : List Int) (M : List Mk) (w : World) (hg : GB w g W M) (hk : k < 4) (hm : M[k]? = some (n, sy, fu)) (hml : m ≤ 1000000000000) (hno : (!fu && decide (n + m ≤ 64)) = false) :
    Calls Try.prog 49 #[.pointer (some ⟨g, 0, none⟩), .int .i64 k, .slice X m d] w (AddPost w g W M false) := by
  obtain ⟨hc0, hc1, hc2⟩ := hg.mark hm
  obtain ⟨hn0, hn1⟩ := hg.2.room _ (List.mem_of_getElem? hm)
  have HG := hide hg
  clear hg hm hc1
  simp only at hc0 hc2 hn0 hn1
  have k0 : (0 : Int) ≤ (k : Int) := by omega
  have k2 : (k : Int) < 4 := by omega
  go_enter Try.func49, Try.ntmps49
  rcases fu with _ | _
  · have hlt : 64 - n < (m : Int) := by
      have h : ¬ n + (m : Int) ≤ 64 := by simpa using hno
      omega
    clear hno
    go_wp2
    go_ret
    exact ⟨rfl, HG.out, grown_refl _ _⟩
  · clear hno
    go_wp2
    go_ret
    exact ⟨rfl, HG.out, grown_refl _ _⟩

theorem GB.added {w w3 : World} {g k n m : Nat} {sy : Int} {fu : Bool} {W ws : List Int} {M : List Mk} (h : GB w g W M) (hk : k < 4) (hm : M[k]? = some ((n : Int), sy, fu)) (hw : ws.length = m) (hnm : n + m ≤ 64)
    (hb : Blk w3 g 61 (splice (gcells W M) (k * 64 + n) (ws.map (Value.int .i64))).toArray) (hg : w.grownBy w3 (some g)) :
    GB w3 g (splice W (k * 64 + n) ws) M ∧ GB (w3.setCell ⟨g, 256 + k * 3, none⟩ (.int .i64 ((n : Int) + m))) g (splice W (k * 64 + n) ws) (M.set k ((n : Int) + m, sy, fu)) ∧ w.grownBy (w3.setCell ⟨g, 256 + k * 3, none⟩ (.int .i64 ((n : Int) + m))) (some g) := by
  have h1 : GB w3 g (splice W (k * 64 + n) ws) M := ⟨by rw [← splice_gcells h.2 _ _ (by omega)]; exact hb, h.2.splice _ _ (by omega)⟩
  exact ⟨h1, h1.set0 hm _ (by omega) (by omega), grown_trans' hg (grown1 _ _ _ _)⟩

set_option maxHeartbeats 3200000 in
theorem implAdd_yes (g k n m d C : Nat) (X : Option Addr) (sy : Int) (ws W : List Int) (M : List Mk) (w : World) (hg : GB w g W M) (hk : k < 4) (hm : M[k]? = some ((n : Int), sy, false)) (hx : Ints w C X m ws) (hnm : n + m ≤ 64) :
    Calls Try.prog 49 #[.pointer (some ⟨g, 0, none⟩), .int .i64 k, .slice X m d] w (AddPost w g (splice W (k * 64 + n) ws) (M.set k ((n : Int) + m, sy, false)) true) := by
  obtain ⟨hc0, hc1, hc2⟩ := hg.mark hm
  have HG := hide hg
  have HX := hide hx
  have HAD := hide fun (w3 : World) => hg.added (w3 := w3) hk hm hx.1 hnm
  have HM := hide hm
  have HL := hide (show k * 64 + n + (ws.map (Value.int .i64)).length ≤ (gcells W M).length by rw [List.length_map, hx.1, gcells_length hg.2]; omega)
  have HN := hide (show (ws.map (Value.int .i64)).length = Nat.min m (64 - n) by rw [List.length_map, hx.1]; exact (Nat.min_eq_left (by omega)).symm)
  have HSZ := hide info1
  clear hg hm hc1 hx
  simp only at hc0 hc2
  have k0 : (0 : Int) ≤ (k : Int) := by omega
  have k2 : (k : Int) < 4 := by omega
  have n64 : (n : Int) ≤ 64 := by omega
  have hm64 : (m : Int) ≤ 64 - (n : Int) := by omega
  have hsub : 64 - (n : Int) = ((64 - n : Nat) : Int) := by omega
  go_enter Try.func49, Try.ntmps49
  have HSUB := hide hsub
  clear hsub
  obtain ⟨D, hD⟩ : ∃ D : Addr, (if 64 = n then ⟨g, k * 64, none⟩ else ⟨g, k * 64 + n, none⟩) = D := ⟨_, rfl⟩
  have HD := hide hD
  have HPOS := hide (show 0 < (ws.map (Value.int .i64)).length → some D = some ⟨g, k * 64 + n, none⟩ ∧ ∃ ad, X = some ad ∧ ∀ j v, (ws.map (Value.int .i64))[j]? = some v → w.cell? (ad.add j) = some v by
    intro hp
    have hp' := hp
    rw [List.length_map, HX.out.1] at hp'
    refine words_src HX.out _ _ _ ?_ hp
    rw [← HD.out, if_neg (by omega)])
  go_upto_region 4 with (fail)
  go_region_law (refine step_copy_blk ?_ (.tmp 36) (.tmp 37) 32 32 ?_ 3 Try.underlying32 ?_ (some D) X (64 - n) (64 - n) m d ?_ ?_ g (k * 64 + n) (gcells W M) 61 HG.out.1 (ws.map (Value.int .i64)) ?_ ?_ ?_ ?_ ?_; rfl; rfl; exact HSZ.out; rfl; rfl; exact HN.out; exact HPOS.out; exact HL.out; exact ints_one _; intro w4 hb4 hg4)
  all_goals
    have HE := hide (HAD.out w4 hb4.out (grown_undrawn hg4))
    have HM4 := hide (HE.out.1.mark HM.out)
    have hy0 := HM4.out.1
    simp only at hy0
    have hf0 := hb4.out.frozen (256 + k * 3)
    clear hg4 hc0 hc2 hD
    go_wp2
    go_ret
    exact ⟨rfl, HE.out.2.1, HE.out.2.2⟩
end Go.Proofs.Ytahpbgaeenclhaa
