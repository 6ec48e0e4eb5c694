/-
  The program's raised, ColumnsCheck, ColumnsGood.
-/
import Derived.Test.YtldbcenipahkfaaImpC4
import Derived.Test.YtldbcenipahkfaaLawK0
import Derived.Test.YtldbcenipahkfaaClone
namespace Go.Proofs.Ytldbcenipahkfaa
open Go.RowKit
set_option linter.unusedVariables false
set_option maxRecDepth 100000

/-- a list of the call's own, and whether it was done -/
def RsPost (w : World) (v : Bool) (xs : List Int) (e : Ending) (w' : World) : Prop :=
  ∃ A2 n2 c2, e = .returned (.tuple #[.slice A2 n2 c2, .bool v]) ∧ Own w' w.heap.size A2 n2 c2 xs ∧ Below w.heap.size w w'
def rsV (xs : List Int) (k : Nat) (y : Int) : Int := (xs.getD k 0 % 101 + y) % 101

def RSc (w W : World) (p : Addr) (x y : Int) : Prop := W.cell? p = some (.int .i64 x) ∧ W.cell? ⟨w.heap.size, 0, none⟩ = some (.int .i64 y)
theorem RSc.call {w W : World} {p : Addr} {x y : Int} {f : FuncId} {args : Array Value} {r : Ending} (h : RSc w W p x y) (hp : p.block < w.heap.size) (hB : Below w.heap.size w W) (hw : w.heap.size < W.heap.size) (hc : Calls Try.prog f args W fun e W' => e = r ∧ Below W.heap.size W W') :
    Calls Try.prog f args W fun e W' => e = r ∧ Hid (RSc w W' p x y) ∧ Hid (Below w.heap.size w W') ∧ w.heap.size < W'.heap.size :=
  hc.mono fun e W' ⟨he, hb⟩ => ⟨he, ⟨(hb.cell (by omega)).trans h.1, (hb.cell (p := ⟨w.heap.size, 0, none⟩) hw).trans h.2⟩, hB.trans (hb.mono hB.size), Nat.lt_of_lt_of_le hw hb.size⟩

theorem run_fieldM (x : Int) (W : World) : Sem.run Try.prog (Instr.field 53 (.agg #[.int .i64 x]) 0) W = .ok (.int .i64 x) W := by kernel_rfl

set_option maxHeartbeats 6400000 in
theorem raised_any (A : Option Addr) (n c B k : Nat) (xs : List Int) (y : Int) (w : World) (hr : Ints w B A n xs) (hB : B ≤ w.heap.size) (hx : colV xs = true) (hk : k < n) (hy0 : 0 ≤ y) (hy1 : y ≤ 100) :
    Calls Try.prog 47 #[.slice A n c, .int .i64 k, .agg #[.int .i64 y]] w (RsPost w (decide (rsV xs k y ≤ 99)) (if rsV xs k y ≤ 99 then xs.set k (rsV xs k y) else [])) := by
  have hn6 : n ≤ 6 := by rw [← hr.1]; exact (colV_iff.1 hx).2.2
  have HR := hide hr
  have hxr := colV_at hx (show k < xs.length by rw [hr.1]; exact hk)
  obtain ⟨ad, rfl, hab, hc⟩ := hr.at_ hk
  have HCL := hide fun (W : World) (hb : Below w.heap.size w W) => clone_any (some ad) n c B xs W (hr.below hb hB) (Nat.le_trans hB hb.size) (by omega) (by intro h; cases h)
  obtain ⟨x, hxe⟩ : ∃ x, xs.getD k 0 = x := ⟨_, rfl⟩
  rw [hxe] at hc hxr
  have eV : rsV xs k y = (x + y) % 101 := by unfold rsV; rw [hxe]; omega
  rw [eV]
  have HXE := hide hxe
  clear hr hx hxe eV
  have hM : ∀ W : World, Calls Try.prog 54 #[.int .i64 x] W fun e w' => e = .returned (.agg #[.int .i64 x]) ∧ Below W.heap.size W w' := fun W => by
    have h := modOf_any x W (by omega) (by omega)
    rwa [show x % 101 = x by omega] at h
  have hP := fun (W : World) => plus_any x y W hxr.1 (by omega) hy0 hy1
  have hv0 : 0 ≤ (x + y) % 101 := by omega
  generalize (x + y) % 101 = v at *
  have HM := hide hM
  have HP := hide hP
  clear hM hP
  have hadw : (ad.add k).block < w.heap.size := by rw [block_of_add]; omega
  obtain ⟨p, hp⟩ : ∃ p, ad.add k = p := ⟨_, rfl⟩
  have HK0 : Hid (RSc w ((w.alloc (.cells #[.int .i64 y] 53)).drewN 1) p x y) :=
    ⟨by rw [← hp]; exact (World.cell?_alloc_lt w _ _ hadw).trans hc, by rw [((Blk.new w 53 #[.int .i64 y]).drewN 1).cell]; rfl⟩
  have HB0 : Hid (Below w.heap.size w ((w.alloc (.cells #[.int .i64 y] 53)).drewN 1)) := below_drewN ((Below.refl _ w).alloc (Nat.le_refl _) _) 1
  have HL0 : Hid (w.heap.size < ((w.alloc (.cells #[.int .i64 y] 53)).drewN 1).heap.size) := by show _ < _; simp [World.drewN]
  rw [hp] at hadw
  have HPB := hide hadw
  have k0 : (0 : Int) ≤ (k : Int) := by omega
  have k1 : (k : Int) < (n : Int) := by omega
  have hfd := run_fieldM
  clear hc
  by_cases hv : v ≤ 99
  · rw [if_pos hv, decide_eq_true hv]
    have hv' : ¬ 99 < v := by omega
    clear hv
    go_enter Try.func47, Try.ntmps47
    go_wp2_with fail
    go_region_held3 (fun W => W.cell? p = some (.int .i64 x) ∧ W.cell? ⟨w.heap.size, 0, none⟩ = some (.int .i64 y))
      (first
        | (exact HK0.out)
        | (exact HK1.out)
        | (exact HK2.out))
      ((first
        | (go_at_call 54; refine (RSc.call HK0.out HPB.out HB0.out HL0.out (HM.out _)).mono ?_; rintro e w1 ⟨rfl, HK1, HB1, hl1⟩)
        | (go_at_call 55; refine (RSc.call HK1.out HPB.out HB1.out hl1 (HP.out _)).mono ?_; rintro e w2 ⟨rfl, HK2, HB2, hl2⟩)))
    clear HK0 HK1 HB0 HL0 HB1 hl1 HM HP
    go_wp2_with fail
    refine (HCL.out _ HB2.out).mono ?_
    rintro e w3 ⟨A3, c3, rfl, ho3, hb3⟩
    obtain ⟨g, rfl, hgb, hgl⟩ := ho3.shape (by omega)
    have hB3 : Below w.heap.size w w3 := HB2.out.trans (hb3.mono HB2.out.size)
    have hcell := ho3.cell (g := g) (j := k) hk
    rw [HXE.out] at hcell
    have hfree := ho3.free (g := g) (j := k)
    have hst := ho3.stored (g := g) (j := k) v
    have HS := hide (hst.1.mono (Nat.le_of_lt hl2))
    have HG := hide (hB3.grown hst.2 hB3.size (by intro q hq; injection hq with hq; omega))
    clear ho3 hst hb3 hB3 HCL
    go_wp2
    go_ret2
    exact ⟨_, _, _, rfl, HS.out, HG.out⟩
  · rw [if_neg hv, decide_eq_false hv]
    have hv' : 99 < v := by omega
    clear hv
    go_enter Try.func47, Try.ntmps47
    go_wp2_with fail
    go_region_held3 (fun W => W.cell? p = some (.int .i64 x) ∧ W.cell? ⟨w.heap.size, 0, none⟩ = some (.int .i64 y))
      (first
        | (exact HK0.out)
        | (exact HK1.out)
        | (exact HK2.out))
      ((first
        | (go_at_call 54; refine (RSc.call HK0.out HPB.out HB0.out HL0.out (HM.out _)).mono ?_; rintro e w1 ⟨rfl, HK1, HB1, hl1⟩)
        | (go_at_call 55; refine (RSc.call HK1.out HPB.out HB1.out hl1 (HP.out _)).mono ?_; rintro e w2 ⟨rfl, HK2, HB2, hl2⟩)))
    clear HK0 HK1 HB0 HL0 HB1 hl1 HM HP
    go_wp2
    go_ret2
    exact ⟨_, _, _, rfl, Own.nil_ _ _, HB2.out⟩

/-- what ColumnsCheck hands back -/
def CkPost (w : World) (v : Bool) (a b : Int) (e : Ending) (w' : World) : Prop := e = .returned (.tuple #[.agg #[.int .i64 a, .int .i64 b], .bool v]) ∧ Below w.heap.size w w'
def ckR (xs : List Int) : Int × Int := if colV xs = true then chk xs else (0, 0)

set_option maxHeartbeats 3200000 in
theorem implCC (A : Option Addr) (n c B : Nat) (xs : List Int) (w : World) (hr : Ints w B A n xs) (hB : B ≤ w.heap.size) (hn : n ≤ 1000000000000) :
    Calls Try.prog 17 #[.slice A n c] w (CkPost w (colV xs) (ckR xs).1 (ckR xs).2) := by
  have HK0 := hide ((Kp.refl w).push 26 #[.int .i64 0, .int .i64 0])
  have HB0 := hide ((Below.refl w.heap.size w).alloc (Nat.le_refl _) (.cells #[.int .i64 0, .int .i64 0] 26))
  have HC := hide fun (W : World) (hb : Below w.heap.size w W) => implCV A n c B xs W (hr.below hb hB) hn
  rcases hx : colV xs with _ | _
  · have e : ckR xs = (0, 0) := by unfold ckR; rw [hx]; rfl
    rw [e]
    rw [hx] at HC
    clear hr hx e
    simp only
    go_enter Try.func17, Try.ntmps17
    go_wp2_with fail
    refine (HC.out _ HB0.out).mono ?_
    rintro e w' ⟨rfl, rfl⟩
    go_wp2
    exact bodyPost_ret (v := .tuple #[.agg #[.int .i64 0, .int .i64 0], .bool false]) (by simp [results, Try.results17, go_sem]) rfl ⟨rfl, HK0.out.below⟩
  · have e : ckR xs = chk xs := by unfold ckR; rw [hx]; rfl
    rw [e]
    have HT := hide fun (W : World) (hb : Below w.heap.size w W) => tally_any A n c B xs W (hr.below hb hB) (Nat.le_trans hB hb.size) hx
    rw [hx] at HC
    clear hr hx e
    generalize (chk xs).1 = s at *
    generalize (chk xs).2 = t at *
    go_enter Try.func17, Try.ntmps17
    go_wp2_with fail
    refine (HC.out _ HB0.out).mono ?_
    rintro e w' ⟨rfl, rfl⟩
    go_wp2_with fail
    refine (HT.out _ HB0.out).mono ?_
    rintro e w2 ⟨rfl, hb2⟩
    have HK2 := hide (HK0.out.step hb2)
    have HK3 := hide (HK2.out.alloc (.cells #[.int .i64 s, .int .i64 t] 55))
    have r0 := HK3.out.hd.cell 0
    have r1 := HK3.out.hd.cell 1
    have f0 := HK3.out.free 0
    have f1 := HK3.out.free 1
    have HF := hide ((HK3.out.put (by intro p hp; cases hp) 0 (.int .i64 s)).put (by intro p hp; cases hp) 1 (.int .i64 t))
    have q0 := HF.out.hd.cell 0
    have q1 := HF.out.hd.cell 1
    simp at r0 r1 q0 q1
    clear hb2 HK0 HK2 HK3
    go_wp2
    exact bodyPost_ret (v := .tuple #[.agg #[.int .i64 s, .int .i64 t], .bool true]) (by simp [results, Try.results17, go_sem, q0, q1]) rfl ⟨rfl, HF.out.below⟩



set_option maxHeartbeats 3200000 in
theorem implCG (A : Option Addr) (n c B : Nat) (xs : List Int) (c1 c2 : Int) (w : World) (hr : Ints w B A n xs) (hB : B ≤ w.heap.size) (hn : n ≤ 1000000000000) :
    Calls Try.prog 19 #[.slice A n c, .agg #[.int .i64 c1, .int .i64 c2]] w fun e w' => e = .returned (.bool (goV xs (c1, c2))) ∧ Below w.heap.size w w' := by
  have HK0 := hide ((Kp.refl w).push 26 #[.int .i64 c1, .int .i64 c2])
  have HC := hide fun (W : World) (hb : Below w.heap.size w W) => implCC A n c B xs W (hr.below hb hB) (Nat.le_trans hB hb.size) hn
  have HB0 := hide ((Below.refl w.heap.size w).alloc (Nat.le_refl _) (.cells #[.int .i64 c1, .int .i64 c2] 26))
  clear hr
  rcases hx : colV xs with _ | _
  · have HE := hide (show goV xs (c1, c2) = false by unfold goV; rw [hx]; rfl)
    rw [HE.out]
    have e : ckR xs = (0, 0) := by unfold ckR; rw [hx]; rfl
    rw [hx, e] at HC
    clear hx e
    simp only at HC
    go_enter Try.func19, Try.ntmps19
    go_wp2_with fail
    refine (HC.out _ HB0.out).mono ?_
    rintro e w2 ⟨rfl, hb2⟩
    have HF := hide (HB0.out.trans (hb2.mono HB0.out.size))
    have HF2 := hide (HF.out.alloc HF.out.size (.cells #[.int .i64 0, .int .i64 0] 26))
    clear hb2
    go_wp2
    go_ret
    exact ⟨rfl, HF2.out⟩
  · have e : ckR xs = chk xs := by unfold ckR; rw [hx]; rfl
    have HE := hide (show goV xs (c1, c2) = (decide ((chk xs).1 = c1) && decide ((chk xs).2 = c2)) by
      unfold goV
      rw [hx, Bool.true_and, Bool.eq_iff_iff, Bool.and_eq_true, decide_eq_true_eq, decide_eq_true_eq, decide_eq_true_eq]
      exact ⟨fun h => by rw [h]; exact ⟨rfl, rfl⟩, fun ⟨p, q⟩ => Prod.ext p q⟩)
    rw [HE.out]
    rw [hx, e] at HC
    clear hx e HE
    generalize (chk xs).1 = s at *
    generalize (chk xs).2 = t at *
    by_cases h1 : s = c1
    · subst h1
      by_cases h2 : t = c2
      · subst h2
        rw [decide_eq_true rfl, decide_eq_true rfl, Bool.and_self]
        go_enter Try.func19, Try.ntmps19
        go_wp2_with fail
        refine (HC.out _ HB0.out).mono ?_
        rintro e w2 ⟨rfl, hb2⟩
        have HK2 := hide ((HK0.out.step hb2).push 26 #[.int .i64 s, .int .i64 t])
        have r0 := HK2.out.tl.hd.cell 0
        have r1 := HK2.out.tl.hd.cell 1
        simp at r0 r1
        clear hb2
        go_wp2
        go_ret
        exact ⟨rfl, HK2.out.below⟩
      · have h2' : (t == c2) = false := by simpa using h2
        rw [decide_eq_false h2, Bool.and_false]
        clear h2
        go_enter Try.func19, Try.ntmps19
        go_wp2_with fail
        refine (HC.out _ HB0.out).mono ?_
        rintro e w2 ⟨rfl, hb2⟩
        have HK2 := hide ((HK0.out.step hb2).push 26 #[.int .i64 s, .int .i64 t])
        have r0 := HK2.out.tl.hd.cell 0
        have r1 := HK2.out.tl.hd.cell 1
        simp at r0 r1
        clear hb2
        go_wp2
        go_ret
        exact ⟨rfl, HK2.out.below⟩
    · have h1' : (s == c1) = false := by simpa using h1
      rw [decide_eq_false h1, Bool.false_and]
      clear h1
      go_enter Try.func19, Try.ntmps19
      go_wp2_with fail
      refine (HC.out _ HB0.out).mono ?_
      rintro e w2 ⟨rfl, hb2⟩
      have HK2 := hide ((HK0.out.step hb2).push 26 #[.int .i64 s, .int .i64 t])
      have r0 := HK2.out.tl.hd.cell 0
      have r1 := HK2.out.tl.hd.cell 1
      simp at r0 r1
      clear hb2
      go_wp2
      go_ret
      exact ⟨rfl, HK2.out.below⟩
end Go.Proofs.Ytldbcenipahkfaa
