/-
  The program's comparison of blocks by their heat; slices.SortFunc with it, on a row of blocks of the call's own.
-/
import Derived.Test.YtnkflcibbhoedaaHeatM
import Derived.Test.YtnkflcibbhoedaaCmpI
import Derived.Test.YtnkflcibbhoedaaLayH
import Derived.Deep.RegionHeld3
import Derived.Handy
import Derived.Shelf.SlSortCmp.Whole1
import Derived.Lib.OwnBridge
namespace Go.Proofs.Ytnkflcibbhoedaa
open Go.RowKit Go.Sort Go.Shelf
set_option linter.unusedVariables false
set_option maxRecDepth 100000

def or2 (x y : Int) : Int := if x = 0 then y else x
def cmpH (h : List Int) (a b : Int) : Int := or2 (cmpI (hAt h a) (hAt h b)) (cmpI a b)
theorem cmpH_lt {h : List Int} {a b : Int} : cmpH h a b < 0 ↔ ltH h a b = true := by
  rw [ltH_iff]
  unfold cmpH or2
  by_cases h1 : hAt h a = hAt h b
  · rw [if_pos (cmpI_eq.2 h1), cmpI_lt]; omega
  · rw [if_neg (fun e => h1 (cmpI_eq.1 e)), cmpI_lt]; omega

theorem or2_any (g : Nat) (x y : Int) (w : World) (hb : Blk w g 3 #[.int .i64 x, .int .i64 y]) :
    Calls Try.prog 49 #[.slice (some ⟨g, 0, none⟩) 2 2] w fun e w' => e = .returned (.int .i64 (or2 x y)) ∧ w' = w := by
  have c0 := hb.cell 0
  have c1 := hb.cell 1
  simp only [List.getElem?_toArray, List.getElem?_cons_zero, List.getElem?_cons_succ] at c0 c1
  clear hb
  unfold or2
  by_cases h1 : x = 0
  · subst h1
    rw [if_pos rfl]
    by_cases h2 : y = 0
    · subst h2
      go_enter Try.func49, Try.ntmps49
      go_wp2
      go_rounds 3
      try simp only [Exit.inBlock, Exit.then]
      go_ret
      exact ⟨rfl, rfl⟩
    · go_enter Try.func49, Try.ntmps49
      go_wp2
      go_rounds 3
      try simp only [Exit.inBlock, Exit.then]
      go_ret
      exact ⟨rfl, rfl⟩
  · rw [if_neg h1]
    go_enter Try.func49, Try.ntmps49
    go_wp2
    go_rounds 3
    try simp only [Exit.inBlock, Exit.then]
    go_ret
    exact ⟨rfl, rfl⟩

set_option maxHeartbeats 3200000 in
theorem byH_any (G c B a b : Nat) (A : Option Addr) (h : List Int) (w : World) (ha : a < 12) (hb : b < 12) (hbox : w.cell? ⟨G, 0, none⟩ = some (.slice A 12 c)) (hG : G < w.heap.size) (hi : Ints w B A 12 h) (hB : B ≤ w.heap.size) :
    Calls Try.prog 48 #[.int .i64 (a : Nat), .int .i64 (b : Nat), .pointer (some ⟨G, 0, none⟩)] w fun e w' => e = .returned (.int .i64 (cmpH h a b)) ∧ ∃ i os, w' = grow (w.drewN i) os := by
  obtain ⟨ad, rfl, hab, hca⟩ := hi.at_ ha
  obtain ⟨_, e1, _, hcb⟩ := hi.at_ hb
  cases e1
  have hadb : ad.block < w.heap.size := by omega
  have hpa : (ad.add a).block < w.heap.size := by rw [block_of_add]; exact hadb
  have hpb : (ad.add b).block < w.heap.size := by rw [block_of_add]; exact hadb
  have hr0 : cmpH h a b = or2 (cmpI (h.getD a 0) (h.getD b 0)) (cmpI a b) := rfl
  rw [hr0]
  generalize h.getD a 0 = x at hca ⊢
  generalize h.getD b 0 = y at hcb ⊢
  clear hi hr0
  have a0 : (0 : Int) ≤ (a : Int) := by omega
  have a1 : (a : Int) < 12 := by omega
  have b0 : (0 : Int) ≤ (b : Int) := by omega
  have b1 : (b : Int) < 12 := by omega
  have HCP := fun x y w => compare_any x y w
  generalize hr1 : cmpI x y = r1 at *
  generalize hr2 : cmpI (a : Int) (b : Int) = r2 at *
  have HOR2 := hide (or2_any w.heap.size r1 r2 (w.alloc (.cells #[.int .i64 r1, .int .i64 r2] 3)).drew (Blk.new w _ _))
  go_enter Try.func48, Try.ntmps48
  go_wp2_with fail
  go_region_held3 (fun W => W.cell? ⟨G, 0, none⟩ = some (.slice (some ad) 12 c) ∧ W.cell? (ad.add a) = some (.int .i64 x) ∧ W.cell? (ad.add b) = some (.int .i64 y))
    (first
      | go_keep)
    ((first
      | (go_at_call 50; refine (compare_any _ _ _).mono ?_; rintro e w' ⟨rfl, rfl⟩)
      | (go_at_call 49; refine HOR2.out.mono ?_; rintro e w' ⟨rfl, rfl⟩)))
  all_goals
    go_wp2
    go_ret
    exact ⟨rfl, grow_of (os := #[]) (by simp) _⟩

/-! ### the sort -/
def enc12 (x : Fin 12) : Value := .int .i64 (x.val : Int)
def nums (fs : List (Fin 12)) : List Int := fs.map fun x => (x.val : Int)
theorem nums_enc (fs : List (Fin 12)) : (nums fs).map (Value.int .i64) = fs.map enc12 := by
  unfold nums
  rw [List.map_map]
  rfl
theorem nums_of : ∀ {ls : List Int}, (∀ x ∈ ls, 0 ≤ x ∧ x ≤ 11) → ∃ fs, ls = nums fs
  | [], _ => ⟨[], rfl⟩
  | x :: ls, h => by
    obtain ⟨fs, e⟩ := nums_of (ls := ls) fun y hy => h y (by simp [hy])
    have hx := h x (by simp)
    refine ⟨⟨x.toNat, by omega⟩ :: fs, ?_⟩
    show x :: ls = ((x.toNat : Nat) : Int) :: nums fs
    rw [← e]
    congr 1
    omega
def cf12 (h : List Int) (x y : Fin 12) : Int := cmpH h (x.val : Int) (y.val : Int)
theorem lt12 (h : List Int) (x y : Fin 12) : ltOf (cf12 h) x y = ltH h (x.val : Int) (y.val : Int) := by
  unfold ltOf cf12
  rw [Bool.eq_iff_iff, decide_eq_true_eq, cmpH_lt]
theorem swo12 (h : List Int) : SWO (ltOf (cf12 h)) where
  irrefl x := by rw [lt12]; exact ltH_irrefl _ _
  trans x y z h1 h2 := by rw [lt12] at *; exact ltH_trans h1 h2
  ntrans x y z h1 h2 := by rw [lt12] at *; exact ltH_ntrans h1 h2
theorem below_growH (w : World) (os : Array Obj) : Go.RowKit.Below w.heap.size w (grow w os) := ⟨rfl, rfl, rfl, by simp, fun k hk => heap_grow_old _ _ hk⟩

set_option maxHeartbeats 3200000 in
/-- slices.SortFunc by heat, on a row of the call's own that is not empty -/
theorem sortH_any (base m d G c B : Nat) (X A : Option Addr) (h ls : List Int) (w : World) (ho : Own w base X m d ls) (hb : base ≤ w.heap.size) (hm : m ≤ 1000000000) (h0 : 0 < m) (hr : ∀ x ∈ ls, 0 ≤ x ∧ x ≤ 11)
    (hbox : w.cell? ⟨G, 0, none⟩ = some (.slice A 12 c)) (hG : G < base) (hi : Ints w B A 12 h) (hB : B ≤ base) :
    Calls Try.prog 47 #[.slice X m d, .func (.func 48) #[] #[.pointer (some ⟨G, 0, none⟩)]] w fun e w' =>
      e = .returned (.tuple #[]) ∧ ∃ rs, Own w' base X m d rs ∧ rs.Perm ls ∧ (rs.Pairwise fun a b => ltH h b a = false) ∧ Go.RowKit.Below base w w' := by
  obtain ⟨fs, rfl⟩ := nums_of hr
  have hrow : w.ownsRow base 3 1 (.slice X m d) m (fs.map enc12) := by rw [← nums_enc]; exact ho.2
  have hnn : (Value.slice X m d) ≠ .slice none 0 0 := by intro e; injection e with _ e; omega
  obtain ⟨g, cap, he, hbg, hgl, hmc, hcm, hlen, hH⟩ := Lib.holds_of_ownsRow hrow hnn
  injection he with e1 _ e3
  subst e1 e3
  have eg : ∀ args w, (callFunc 48 args).run Try.prog w = .ok (.enter 48 args) w := enters_of Try.func48 (by kernel_rfl) rfl
  have hcmp : CmpLays1 Try.prog 48 #[.pointer (some ⟨G, 0, none⟩)] enc12 (cf12 h) g 0 fs.toArray.size w := fun n os dk hs x y => by
    have hbp : Go.RowKit.Below g w (putRow enc12 (Sort.ahead w n) g 0 dk) := Lib.below_putRow (Go.RowKit.Below.refl _ _) (Nat.le_refl _)
    have hbs : Go.RowKit.Below g w (sortWorld enc12 w g 0 n dk os) := hbp.trans ((below_growH _ os).mono (Nat.le_trans (Nat.le_of_lt hgl) hbp.size))
    have hsz := hbs.size
    exact byH_any G c B x.val y.val A h _ x.isLt y.isLt ((hbs.cell (p := ⟨G, 0, none⟩) (show G < g by omega)).trans hbox) (by omega) (hi.below hbs (by omega)) (by omega)
  have hc := Any.slices_SortFunc sortHI enc12 (fun _ => rfl) (cf12 h) (swo12 h) 48 #[.pointer (some ⟨G, 0, none⟩)] g 0 d fs.toArray w eg hcmp hH hgl (by simp; omega)
  have e1 : fs.toArray.size = m := by simpa using hlen
  rw [e1] at hc
  refine hc.mono ?_
  rintro e w' ⟨rfl, d', nn, os, hp, hs, rfl⟩
  obtain ⟨hsz, _, hperm⟩ := hp
  have hpl : d'.toList.Perm fs := by
    rw [e1] at hsz
    have h1 : d'.extract 0 m = d' := by rw [← hsz]; exact Array.extract_size
    have h2 : fs.toArray.extract 0 m = fs.toArray := by rw [← e1]; exact Array.extract_size
    rw [h1, h2] at hperm
    simpa using hperm
  have hdl : d'.toList.length = m := by rw [hpl.length_eq]; exact hlen
  have hp := Lib.ownsRow_putRow (enc := enc12) (q := nn) (k := m) (ys := d'.toList) hrow hdl (Nat.le_refl _)
  rw [List.take_of_length_le (by rw [hdl]; exact Nat.le_refl _), ← nums_enc, Array.toArray_toList] at hp
  have hbp : Go.RowKit.Below base w (putRow enc12 (Sort.ahead w nn) g 0 d') := Lib.below_putRow (Go.RowKit.Below.refl _ _) hbg
  have hg := below_growH (putRow enc12 (Sort.ahead w nn) g 0 d') os
  have hown : Own (putRow enc12 (Sort.ahead w nn) g 0 d') base (some ⟨g, 0, none⟩) m d (nums d'.toList) := ⟨by unfold nums; rw [List.length_map]; exact hdl, hp⟩
  refine ⟨rfl, nums d'.toList, hown.below hg, hpl.map _, ?_, hbp.trans (hg.mono (Nat.le_trans hb hbp.size))⟩
  rw [List.pairwise_iff_getElem]
  intro i j hi hj hij
  have hi' : i < d'.size := by simpa [nums] using hi
  have hj' : j < d'.size := by simpa [nums] using hj
  have hsi := hs i j (Nat.zero_le _) hij (by rw [← hdl]; simpa using hj')
  rw [getElem!_pos d' i hi', getElem!_pos d' j hj', lt12] at hsi
  simpa [nums] using hsi
end Go.Proofs.Ytnkflcibbhoedaa
