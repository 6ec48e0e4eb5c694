/-
  Texts in one: FrameB, SameM, DrawZ1, BoxV, ImpZ1, SmM, SpecM2, ImpM1, SpecH1, ImpH1, SpecM3, ImpM2, IterP, ImplP, IterC, ImplC. Plain.
-/
import Derived.Test.YtfianpjoifcphaaGreatFrame0
import Derived.Test.YtfianpjoifcphaaGreatG1
import Derived.Test.YtfianpjoifcphaaGreatQo
import Derived.Test.YtfianpjoifcphaaGreatDrawP
import Derived.Test.YtfianpjoifcphaaGreatDrawC
import Derived.Test.YtfianpjoifcphaaGreatSpecP
import Derived.Test.YtfianpjoifcphaaGreatSpecC
import Derived.Test.YtfianpjoifcphaaGreatGrid
import Derived.Test.YtfianpjoifcphaaGreatSpecZ1
import Derived.Test.YtfianpjoifcphaaGreatFnd
import Derived.Test.YtfianpjoifcphaaGreatG2
import Derived.Test.YtfianpjoifcphaaGreatClone
import Derived.Test.YtfianpjoifcphaaGreatAsc
/- FrameB -/
namespace Go.Proofs.YtfianpjoifcphaaGreat
open Go.RowKit
set_option linter.unusedVariables false
set_option maxRecDepth 100000

theorem bytes_of {W : World} {x : Addr} {l c : Nat} {zs : List Int} (hl : l ≤ c) (hz : zs.length = c) (hcell : ∀ i, i < zs.length → W.cell? (x.add i) = some (.int .u8 (zs.getD i 0)))
    (hwz : ∀ n ∈ zs, (Lit.int .u8 n).wf = true) : Bytes W W.heap.size (some x) l (fun j => zs.getD j 0) := by
  intro hn
  refine ⟨x, rfl, ?_, fun j hj => ?_⟩
  · have := World.block_lt_of_cell? W _ (hcell 0 (by omega))
    rwa [block_of_add] at this
  · have hj' : j < zs.length := by omega
    have hw : (Lit.int .u8 (zs.getD j 0)).wf = true := hwz _ (by simp [List.getD, hj'])
    exact ⟨(wf_u8 hw).1, (wf_u8 hw).2, hcell j hj'⟩

end Go.Proofs.YtfianpjoifcphaaGreat

/- SameM -/
namespace Go.Proofs.YtfianpjoifcphaaGreat
open Go.RowKit
set_option linter.unusedVariables false
set_option maxRecDepth 100000

set_option maxHeartbeats 1600000 in
theorem sameMap_yes (A A' : Option Addr) (n c d B B' : Nat) (ms : List Wh) (w : World) (hx : MpI w B A n ms) (hy : MpI w B' A' n ms) (hn : n ≤ 1000000000) :
    Calls Tryz.prog 43 #[.slice A n c, .slice A' n d] w fun e w' => e = .returned (.bool true) ∧ ∃ q, w' = w.drewN q := by
  have HX := hide hx
  have HY := hide hy
  clear hx hy
  go_enter Tryz.func43, Tryz.ntmps43
  go_wp2
  go_loopw [5] (fun i wr => ∃ k q : Nat, k ≤ n ∧ i = .int .i64 k ∧ wr = w.drewN q) (fun i _ => n - (intOf i).toNat)
  case atStart => exact ⟨0, 0, Nat.zero_le _, rfl, rfl⟩
  case round =>
    obtain ⟨k, q, hk, rfl, rfl⟩ := hrel
    by_cases hlt : k < n
    · obtain ⟨x, hx⟩ : ∃ x, ms[k]? = some x := ⟨_, List.getElem?_eq_getElem (by rw [HX.out.1]; exact hlt)⟩
      obtain ⟨ad, p, rfl, hp, hb, h0, h1, h2, h3, h4⟩ := (HX.out.drewN q).at_ hx
      obtain ⟨ad', p', rfl, hp', hb', g0, g1, g2, g3, g4⟩ := (HY.out.drewN q).at_ hx
      obtain ⟨t, z, a, i, y⟩ := x
      dsimp only at h0 h1 h2 h3 h4 g0 g1 g2 g3 g4
      have k0 : (0 : Int) ≤ (k : Int) := by omega
      have k1 : (k : Int) < (n : Int) := by omega
      clear hx
      generalize hw : w.drewN q = wz at h0 h1 h2 h3 h4 g0 g1 g2 g3 g4 ⊢
      go_wp2_with fail
      go_quiet (fail)
      go_wp2
      go_roundw
      case rel => exact ⟨k + 1, _, by omega, by go_num, by rw [← hw]; exact World.drewN_drewN _ _ _⟩
      case measure => simp [intOf]; omega
    · obtain rfl : k = n := by omega
      go_wp2
      go_ret
      exact ⟨rfl, q, rfl⟩
end Go.Proofs.YtfianpjoifcphaaGreat

/- DrawZ1 -/
namespace Go.Proofs.YtfianpjoifcphaaGreat
open Go.RowKit
set_option linter.unusedVariables false
set_option maxRecDepth 100000

set_option maxHeartbeats 1600000 in
theorem body91_any (R : Nat) (p : Int) (w : World) (hr : Rd w R p) (hp : p < 19000) :
    Calls Tryz.prog 91 #[.pointer (some ⟨R, 0, none⟩)] w fun e w' => ∃ (kd : Int) (A2 : Option Addr) (m c2 : Nat) (xs : List Int) (p' : Int), e = .returned (.tuple #[.int .i64 kd, .slice A2 m c2]) ∧ Own w' w.heap.size A2 m c2 xs ∧ m ≤ 100 ∧
      p ≤ p' ∧ p' ≤ p + 101 ∧ Rd w' R p' ∧ w.grownBy w' (some R) := by
  have hRw := hr.lt
  go_enter Tryz.func91, Tryz.ntmps91
  go_wp2_with fail
  refine (pick_any R p 3 _ hr (by omega) (by omega)).mono ?_
  rintro e w1 ⟨v, rfl, hv0, hv1, hr1, hg1⟩
  have hs1 := hg1.size
  have HG1 := hide hg1
  clear hg1 hr
  by_cases hv : v = 0
  · subst hv
    go_wp2_with fail
    refine (draw91C_any R (p + 1) _ hr1 (by omega)).mono ?_
    rintro e w2 ⟨A2, k, c2, xs, p', rfl, hown, hk, hrng, hp0, hp1, hr2, hg2⟩
    have hs2 := hg2.size
    have HI2 := hide hown.ints
    have hlen := hown.1
    have HG2 := hide (grown_trans' HG1.out hg2)
    have HR2 := hide hr2
    clear hown hg2 hr1 hr2
    go_wp2_with fail
    refine (specPutC A2 k c2 _ xs _ HI2.out (Nat.le_refl _) (by omega)).mono ?_
    rintro e w3 ⟨A3, m, c3, rfl, ho3, hb3⟩
    have hm : m ≤ 100 := by
      have h1 := ho3.1
      split at h1
      · omega
      · simp at h1; omega
    have HG3 := hide (grown_own HG2.out (grown_of_below hb3 none) (by simp))
    have HR3 := hide (HR2.out.below hb3)
    have HO3 := hide (ho3.mono (show w.heap.size ≤ w2.heap.size by omega))
    clear hb3 ho3
    go_wp2
    go_ret2
    exact ⟨_, _, _, _, _, p', rfl, HO3.out, hm, by omega, by omega, HR3.out, HG3.out⟩
  · have hv' : (v == 0) = false := by simpa using hv
    go_wp2_with fail
    refine (draw91P_any R (p + 1) _ hr1 (by omega)).mono ?_
    rintro e w2 ⟨A2, k, c2, xs, p', rfl, hown, hk, hrng, hp0, hp1, hr2, hg2⟩
    have hs2 := hg2.size
    have HI2 := hide hown.ints
    have hlen := hown.1
    have HG2 := hide (grown_trans' HG1.out hg2)
    have HR2 := hide hr2
    clear hown hg2 hr1 hr2
    go_wp2_with fail
    refine (specPutP A2 k c2 _ xs _ HI2.out (Nat.le_refl _) (by omega)).mono ?_
    rintro e w3 ⟨A3, m, c3, rfl, ho3, hb3⟩
    have hm : m ≤ 100 := by
      have h1 := ho3.1
      split at h1
      · omega
      · simp at h1; omega
    have HG3 := hide (grown_own HG2.out (grown_of_below hb3 none) (by simp))
    have HR3 := hide (HR2.out.below hb3)
    have HO3 := hide (ho3.mono (show w.heap.size ≤ w2.heap.size by omega))
    clear hb3 ho3
    go_wp2
    go_ret2
    exact ⟨_, _, _, _, _, p', rfl, HO3.out, hm, by omega, by omega, HR3.out, HG3.out⟩

theorem cell_facts' {w : World} {g : Nat} {t : TypeId} {a b c : Value} (h : Blk w g t #[a, b, c]) : w.cell? ⟨g, 0, none⟩ = some a ∧ w.cell? ⟨g, 1, none⟩ = some b ∧ w.cell? ⟨g, 2, none⟩ = some c :=
  ⟨by rw [h.cell]; rfl, by rw [h.cell]; rfl, by rw [h.cell]; rfl⟩

end Go.Proofs.YtfianpjoifcphaaGreat

/- BoxV -/
namespace Go.Proofs.YtfianpjoifcphaaGreat
open Go.RowKit
set_option linter.unusedVariables false
set_option maxRecDepth 100000

/-- the cells of a volume that is kept in a block -/
def boxV (q : Vq) : Array Value := #[.slice q.dA q.dn q.dc, .slice q.sA q.sn q.sc, .slice q.mA q.mn q.mc, .slice q.hA q.hn q.hc, .int .i64 q.seq, .int .i64 q.zone]
theorem box_cells {W : World} {g : Nat} {t : TypeId} {q : Vq} (h : Blk W g t (boxV q)) : W.cell? ⟨g, 0, none⟩ = some (.slice q.dA q.dn q.dc) ∧ W.cell? ⟨g, 1, none⟩ = some (.slice q.sA q.sn q.sc) ∧
    W.cell? ⟨g, 2, none⟩ = some (.slice q.mA q.mn q.mc) ∧ W.cell? ⟨g, 3, none⟩ = some (.slice q.hA q.hn q.hc) ∧ W.cell? ⟨g, 4, none⟩ = some (.int .i64 q.seq) ∧ W.cell? ⟨g, 5, none⟩ = some (.int .i64 q.zone) :=
  ⟨by rw [h.cell]; rfl, by rw [h.cell]; rfl, by rw [h.cell]; rfl, by rw [h.cell]; rfl, by rw [h.cell]; rfl, by rw [h.cell]; rfl⟩
/-- six stores: the result -/
def put6 (W : World) (g : Nat) (p : Vq) : World :=
  (((((W.setCell ⟨g, 0, none⟩ (.slice p.dA p.dn p.dc)).setCell ⟨g, 1, none⟩ (.slice p.sA p.sn p.sc)).setCell ⟨g, 2, none⟩ (.slice p.mA p.mn p.mc)).setCell ⟨g, 3, none⟩ (.slice p.hA p.hn p.hc)).setCell ⟨g, 4, none⟩ (.int .i64 p.seq)).setCell ⟨g, 5, none⟩ (.int .i64 p.zone)
theorem grown6 (w : World) (g : Nat) (p : Vq) : w.grownBy (put6 w g p) (some g) := by
  have s : ∀ (w0 w1 : World) (i : Nat) (u : Value), w0.grownBy w1 (some g) → w0.grownBy (w1.setCell ⟨g, i, none⟩ u) (some g) := fun w0 w1 i u h =>
    ⟨h.os, h.tape, h.output, by simpa [World.setCell] using h.size, fun q hq hne => (Below.heap_setCell w1 ⟨g, i, none⟩ u q (fun e => hne (by rw [e]))).trans (h.block q hq hne)⟩
  exact s _ _ _ _ (s _ _ _ _ (s _ _ _ _ (s _ _ _ _ (s _ _ _ _ (s _ _ _ _ (grown_refl w _))))))
theorem blk6 {W : World} {g : Nat} {t : TypeId} {p0 : Vq} (h : Blk W g t (boxV p0)) (p : Vq) : Blk (put6 W g p) g t (boxV p) := (((((h.set_ 0 _).set_ 1 _).set_ 2 _).set_ 3 _).set_ 4 _).set_ 5 _
theorem OwnV.put6 {W : World} {base g : Nat} {p p2 : Vq} (h : OwnV W base p) (hg : g < base) : OwnV (put6 W g p2) base p := by
  have hr := grown6 W g p2
  have ne : ∀ {k : Nat}, some g = some k → k = g := fun e => by injection e with e; exact e.symm
  refine ⟨h.dev.kept hr (fun k hk => ?_), h.sto.kept hr (fun k hk => ?_), h.map.kept hr (fun k hk => ?_), h.heat.kept hr (fun k hk => ?_)⟩
  · have := ne hk; subst this
    exact ⟨fun e2 => by have := (h.dev.block _ e2).1; omega, fun j x hx e2 => by have := (h.dev.wblock hx _ e2).1; omega⟩
  · have := ne hk; subst this
    exact ⟨fun e2 => by have := (h.sto.block _ e2).1; omega, fun j x hx e2 => by have := (h.sto.wblock hx _ e2).1; omega⟩
  · have := ne hk; subst this
    exact fun e2 => by have := (h.map.2.block _ e2).1; omega
  · have := ne hk; subst this
    exact fun e2 => by have := (h.heat.block _ e2).1; omega
theorem boxV_one (q : Vq) : ∀ v ∈ (boxV q).toList, v.oneCell' = true := by
  intro v hv
  simp only [boxV, List.mem_cons, List.not_mem_nil, or_false] at hv
  rcases hv with rfl | rfl | rfl | rfl | rfl | rfl <;> rfl
theorem volInfo : (Tryz.prog.info? 29).map (·.size) = some 6 := by kernel_rfl
/-- a volume stored into its block, and loaded from it -/
theorem wpList_store_vol {ops : Array Oper} {rest : List Oper} {op : Oper} {a : Act} {w : World} {Q : Exit → Act → World → Prop} (hgd : op.guard = none) (x y : Operand) (ho : op.op = .store 29 x y)
    (g : Nat) (hx : a.eval x = .pointer (some ⟨g, 0, none⟩)) (p q : Vq) (hy : a.eval y = q.val) (hg : Blk w g 29 (boxV p))
    (h : ∀ w', Hid (Blk w' g 29 (boxV q)) → w.grownBy w' (some g) → wpList Tryz.prog ops Q rest (a.put op.dst undef) w') : wpList Tryz.prog ops Q (op :: rest) a w :=
  wpList_store_blk hgd 29 x y ho g hx 29 (boxV p).toList (boxV q).toList hy hg rfl volInfo (boxV_one q) h
theorem wpList_load_vol {ops : Array Oper} {rest : List Oper} {op : Oper} {a : Act} {w : World} {Q : Exit → Act → World → Prop} (hgd : op.guard = none) (x : Operand) (ho : op.op = .load 29 x)
    (g : Nat) (hx : a.eval x = .pointer (some ⟨g, 0, none⟩)) (q : Vq) (hg : Blk w g 29 (boxV q))
    (h : wpList Tryz.prog ops Q rest (a.put op.dst q.val) w) : wpList Tryz.prog ops Q (op :: rest) a w :=
  wpList_load_blk hgd 29 x ho g hx 29 (boxV q).toList _ hg Tryz.underlying29 rfl volInfo h
theorem Blk.newV (w : World) : Blk (w.alloc (.cells #[.slice none 0 0, .slice none 0 0, .slice none 0 0, .slice none 0 0, .int .i64 0, .int .i64 0] 29)) w.heap.size 29 (boxV vq0) := Blk.new w 29 (boxV vq0)
end Go.Proofs.YtfianpjoifcphaaGreat

/- ImpZ1 -/
namespace Go.Proofs.YtfianpjoifcphaaGreat
open Go.RowKit
set_option linter.unusedVariables false
set_option maxRecDepth 100000

set_option maxHeartbeats 800000 in
theorem implWords (A : Option Addr) (n c B : Nat) (xs : List Int) (w : World) (hr : Ints w B A n xs) (hn : n ≤ maxLen) :
    Calls Tryz.prog 101 #[.slice A n c] w fun e w' => e = .returned (.bool (allW xs)) ∧ w = w' := by
  have HS := hide (implSum A n c B xs w hr hn)
  have HG := hide (sum_ge xs)
  have hlt := sumFrom_lt xs
  clear hr
  generalize sumFrom 7 xs = s at HS HG hlt
  go_enter Tryz.func101, Tryz.ntmps101
  go_wp2_with fail
  refine HS.out.mono ?_
  rintro e w1 ⟨rfl, rfl⟩
  go_wp2
  go_ret
  exact ⟨ret_bool HG.out, rfl⟩

set_option maxHeartbeats 1600000 in
theorem implZoneV (B m : Nat) (sy : Int) (fu : Bool) (A : Option Addr) (c : Nat) (ws : List Int) (w : World) (hi : Ints w B A m ws) (hB : B ≤ w.heap.size) (hm : m ≤ maxLen) :
    Calls Tryz.prog 45 #[.agg #[.slice A m c, .int .i64 sy, .bool fu]] w fun e w' => e = .returned (.bool (zoneOk (ws, sy, fu))) ∧ Below w.heap.size w w' := by
  have HW := hide fun (o : Obj) => implWords A m c B ws (w.alloc o) (hi.alloc hB o) hm
  have hm' : m ≤ 9223372036854775807 := by unfold maxLen at hm; omega
  have HX : Hid (zoneOk (ws, sy, fu) = (allW ws && decide (m ≤ 64) && inB sy 0 m)) := by show _ = _; unfold zoneOk; simp only [hi.1]
  clear hi hm
  generalize allW ws = v at HW HX
  by_cases h1 : m ≤ 64
  · have h1' : decide (64 < (m : Int)) = false := decide_eq_false (by omega)
    by_cases h2 : sy < 0
    · have hr : zoneOk (ws, sy, fu) = false := by rw [HX.out]; simp [inB]; omega
      have HR := hide hr
      clear hr HX
      go_enter Tryz.func45, Tryz.ntmps45
      go_wp2
      go_ret
      exact ⟨ret_bool HR.out.symm, below_box _ _⟩
    · by_cases h3 : (m : Int) < sy
      · have hr : zoneOk (ws, sy, fu) = false := by rw [HX.out]; simp [inB]; omega
        have HR := hide hr
        clear hr HX
        go_enter Tryz.func45, Tryz.ntmps45
        go_wp2
        go_ret
        exact ⟨ret_bool HR.out.symm, below_box _ _⟩
      · have hr : zoneOk (ws, sy, fu) = v := by
          rw [HX.out, inB_true (by omega) (by omega)]; simp [h1]
        have HR := hide hr
        clear hr HX
        go_enter Tryz.func45, Tryz.ntmps45
        go_wp2_with fail
        refine (HW.out _).mono ?_
        rintro e w1 ⟨rfl, rfl⟩
        go_wp2
        go_ret
        exact ⟨ret_bool HR.out.symm, below_box _ _⟩
  · have h1' : decide (64 < (m : Int)) = true := decide_eq_true (by omega)
    have hr : zoneOk (ws, sy, fu) = false := by rw [HX.out]; simp [h1]
    have HR := hide hr
    clear hr HX
    go_enter Tryz.func45, Tryz.ntmps45
    go_wp2
    go_ret
    exact ⟨ret_bool HR.out.symm, below_box _ _⟩

set_option maxHeartbeats 3200000 in
theorem implDV (A : Option Addr) (n c B : Nat) (qs : List Zq) (w : World) (hr : Zns w B A n qs) (hB : B ≤ w.heap.size) (hn : n ≤ 1000000000000) :
    Calls Tryz.prog 13 #[.slice A n c] w fun e w' => e = .returned (.bool (devV (zns qs))) ∧ Below w.heap.size w w' := by
  have HR := hide hr
  have HBB := hide hB
  have hl : (zns qs).length = n := by unfold zns; rw [List.length_map]; exact hr.1
  have HL := hide hl
  clear hr hl
  by_cases h4 : n = 4
  · subst h4
    have HV : Hid (devV (zns qs) = (zns qs).all zoneOk) := by show _ = _; unfold devV; rw [HL.out]; simp
    go_enter Tryz.func13, Tryz.ntmps13
    go_wp2
    go_loopw [10] (fun i wr => ∃ (k : Nat), k ≤ 4 ∧ i = .int .i64 k ∧ Hid (Below w.heap.size w wr) ∧ Hid ((zns qs).all zoneOk = (zns (qs.drop k)).all zoneOk)) (fun i _ => 4 - (intOf i).toNat)
    case atStart => exact ⟨0, Nat.zero_le _, rfl, Below.refl _ _, rfl⟩
    case round =>
      obtain ⟨k, hk, rfl, HB, HA⟩ := hrel
      have hs := HB.out.size
      by_cases hlt : k < 4
      · obtain ⟨q, hq⟩ : ∃ q, qs[k]? = some q := ⟨_, List.getElem?_eq_getElem (by rw [HR.out.1]; exact hlt)⟩
        have HX := hide (HA.out.trans (zns_all_next hq))
        have hR := HR.out.below HB.out HBB.out
        obtain ⟨ad, p, rfl, hp, hb, hc0, hc1, hc2⟩ := hR.at_ hq
        obtain ⟨hi, hle, hcm⟩ := hR.words hq
        clear HA hq hR
        obtain ⟨ws, sy, fu, qa, qc⟩ := q
        simp only [Zq.sl] at hc0 hc1 hc2 hi hle hcm
        obtain ⟨m, hm⟩ : ∃ m, ws.length = m := ⟨_, rfl⟩
        rw [hm] at hc0 hi hle
        have HZ := hide fun (o : Obj) => implZoneV B m sy fu qa qc ws (wr.alloc o) (hi.alloc (by omega) o) (by simp; omega) (by omega)
        have k0 : (0 : Int) ≤ (k : Int) := by omega
        have k1 : (k : Int) < ((4 : Nat) : Int) := by omega
        clear hm hi hle hcm
        obtain ⟨v, hv⟩ : ∃ v, zoneOk (ws, sy, fu) = v := ⟨_, rfl⟩
        rw [hv] at HZ
        have hz : zoneOk (Zq.zn ⟨ws, sy, fu, qa, qc⟩) = v := hv
        rw [hz] at HX
        clear hz hv
        rcases v with _ | _
        · go_wp2_with fail
          refine (HZ.out _).mono ?_
          rintro e w1 ⟨rfl, hb1⟩
          have HB1 := hide ((HB.out.alloc hs _).trans (hb1.mono (by simp; omega)))
          clear hb1
          go_wp2
          go_ret
          exact ⟨ret_bool (by rw [HV.out, HX.out]; rfl), HB1.out⟩
        · go_wp2_with fail
          refine (HZ.out _).mono ?_
          rintro e w1 ⟨rfl, hb1⟩
          have HB1 := hide ((HB.out.alloc hs _).trans (hb1.mono (by simp; omega)))
          clear hb1
          go_wp2
          go_roundw
          case rel => exact ⟨k + 1, by omega, by go_num, HB1.out, by show _ = _; rw [HX.out]; simp⟩
          case measure => simp [intOf]; omega
      · obtain rfl : k = 4 := by omega
        go_wp2
        go_ret
        exact ⟨ret_bool (by rw [HV.out, HA.out, List.drop_of_length_le (by rw [HR.out.1]; exact Nat.le_refl _)]; rfl), HB.out⟩
  · have HV : Hid (devV (zns qs) = false) := by show _ = _; unfold devV; rw [HL.out]; simp [h4]
    have h4' : ((n : Int) == 4) = false := by simpa using (by omega : ¬ (n : Int) = 4)
    have h4'' : ((n : Int) != 4) = true := by simpa using (by omega : ¬ (n : Int) = 4)
    go_enter Tryz.func13, Tryz.ntmps13
    go_wp2
    go_ret
    exact ⟨ret_bool HV.out.symm, Below.refl _ _⟩
end Go.Proofs.YtfianpjoifcphaaGreat

/- SmM -/
namespace Go.Proofs.YtfianpjoifcphaaGreat
open Go.RowKit
set_option linter.unusedVariables false
set_option maxRecDepth 100000

def okFn (ms : List Wh) (l : Int) (f : Fn) : Bool := apOk ms f.2.2.1 f.2.2.2.1 f.2.2.2.2 f.1 f.2.1 && decide (l < f.2.2.2.1)
def apFn (ms : List Wh) (f : Fn) : List Wh := apM ms f.2.2.1 f.2.2.2.1 f.2.2.2.2 f.1 f.2.1
def smF : List Wh → Int → List Fn → Option (List Wh)
  | ms, _, [] => some ms
  | ms, l, f :: fs => if okFn ms l f then smF (apFn ms f) f.2.2.2.1 fs else none
def smap (fs : List Fn) : Option (List Wh) := smF new12 0 fs
theorem okFn_iff {ms : List Wh} {l : Int} {f : Fn} : okFn ms l f = true ↔ apOk ms f.2.2.1 f.2.2.2.1 f.2.2.2.2 f.1 f.2.1 = true ∧ l < f.2.2.2.1 := by unfold okFn; rw [Bool.and_eq_true, decide_eq_true_iff]
theorem apFn_valid {ms : List Wh} {l : Int} {f : Fn} (h : okFn ms l f = true) : mpV (apFn ms f) = true := apM_valid (okFn_iff.1 h).1
theorem apFn_len {ms : List Wh} {l : Int} {f : Fn} (h : okFn ms l f = true) : (apFn ms f).length = 12 := apM_len (okFn_iff.1 h).1
/-- a frame that is applied has a number above 0 -/
theorem ap_seq {ms : List Wh} {kd sq z a : Int} {xs : List Int} (h : apOk ms kd sq xs z a = true) : 0 < sq := by
  unfold apOk at h
  rw [Bool.and_eq_true, Bool.and_eq_true] at h
  have := (validF_iff.1 h.2.1).2.1.1
  omega
theorem smF_yes {ms : List Wh} {l : Int} {f : Fn} {fs : List Fn} (h : okFn ms l f = true) : smF ms l (f :: fs) = smF (apFn ms f) f.2.2.2.1 fs := by rw [smF, if_pos h]
theorem smF_no {ms : List Wh} {l : Int} {f : Fn} {fs : List Fn} (h : ¬ okFn ms l f = true) : smF ms l (f :: fs) = none := by rw [smF, if_neg h]
/-- the first frames can be applied too -/
theorem smF_take (fs : List Fn) : ∀ (k : Nat) (ms : List Wh) (l : Int) (rs : List Wh), smF ms l fs = some rs → mpV ms = true → ∃ xs, smF ms l (fs.take k) = some xs ∧ mpV xs = true := by
  induction fs with
  | nil => intro k ms l rs _ hv; exact ⟨ms, by simp [smF], hv⟩
  | cons f fs ih =>
    intro k ms l rs h hv
    rcases k with _ | k
    · exact ⟨ms, by simp [smF], hv⟩
    · by_cases hok : okFn ms l f = true
      · rw [smF_yes hok] at h
        obtain ⟨xs, h1, h2⟩ := ih k _ _ rs h (apFn_valid hok)
        exact ⟨xs, by rw [List.take_succ_cons, smF_yes hok]; exact h1, h2⟩
      · rw [smF_no hok] at h; cases h
theorem smap_take {fs : List Fn} {rs : List Wh} (h : smap fs = some rs) (k : Nat) : ∃ xs, smap (fs.take k) = some xs ∧ mpV xs = true := smF_take fs k new12 0 rs h new12_valid
theorem smap_valid {fs : List Fn} {rs : List Wh} (h : smap fs = some rs) : mpV rs = true := by
  obtain ⟨xs, h1, h2⟩ := smap_take h fs.length
  rw [List.take_length, h] at h1
  injection h1 with h1
  rw [h1]; exact h2
theorem smap_len {fs : List Fn} {rs : List Wh} (h : smap fs = some rs) : rs.length = 12 := (mpV_iff.1 (smap_valid h)).2
/-- one frame more -/
theorem smF_snoc (fs : List Fn) (f : Fn) : ∀ (ms : List Wh) (l : Int), smF ms l (fs ++ [f]) = match smF ms l fs with
    | some xs => if okFn xs ((fs.getLast?.map fun g => g.2.2.2.1).getD l) f then some (apFn xs f) else none
    | none => none := by
  induction fs with
  | nil =>
    intro ms l
    show smF ms l [f] = _
    by_cases h : okFn ms l f = true
    · rw [smF_yes h]; simp [smF, h]
    · rw [smF_no h]; simp [smF, h]
  | cons g fs ih =>
    intro ms l
    by_cases h : okFn ms l g = true
    · rw [List.cons_append, smF_yes h, smF_yes h, ih]
      rcases fs with _ | ⟨g2, fs⟩
      · rfl
      · simp [List.getLast?_cons]
    · rw [List.cons_append, smF_no h, smF_no h]
theorem smap_last {fs : List Fn} {f : Fn} {rs : List Wh} (h : smap (fs ++ [f]) = some rs) : ∃ ms, smap fs = some ms ∧ apOk ms f.2.2.1 f.2.2.2.1 f.2.2.2.2 f.1 f.2.1 = true ∧ apFn ms f = rs := by
  unfold smap at h ⊢
  rw [smF_snoc] at h
  rcases hs : smF new12 0 fs with _ | ms
  · rw [hs] at h; cases h
  · rw [hs] at h
    simp only at h
    split at h
    · rename_i hok
      injection h with h
      exact ⟨ms, rfl, (okFn_iff.1 hok).1, h⟩
    · cases h
/-- the same frame twice -/
theorem smap_twice (fs : List Fn) (f : Fn) (h : fs.getLast? = some f) : smap (fs ++ [f]) = none := by
  unfold smap
  rw [smF_snoc, h]
  rcases smF new12 0 fs with _ | ms
  · rfl
  · simp only [Option.map_some, Option.getD_some]
    rw [if_neg]
    intro h2
    have := (okFn_iff.1 h2).2
    omega
theorem tier_new : (tierM new12 0).length = 12 := by decide
/-- what ScanMap hands back -/
def SmPost (w : World) (r : Option (List Wh)) (e : Ending) (w' : World) : Prop :=
  ∃ A2 m2 c2, e = .returned (.tuple #[.slice A2 m2 c2, .bool r.isSome]) ∧ MpR w' w.heap.size A2 m2 c2 (r.getD []) ∧ Below w.heap.size w w'
end Go.Proofs.YtfianpjoifcphaaGreat

/- SpecM2 -/
namespace Go.Proofs.YtfianpjoifcphaaGreat
open Go.RowKit
set_option linter.unusedVariables false
set_option maxRecDepth 100000

theorem allV_drop {ms : List Wh} {k : Nat} {x : Wh} (h : ms[k]? = some x) : (ms.drop k).all whV = (whV x && (ms.drop (k + 1)).all whV) := by
  have hl : k < ms.length := (List.getElem?_eq_some_iff.1 h).1
  have e2 : ms[k] = x := (List.getElem?_eq_some_iff.1 h).2
  rw [List.drop_eq_getElem_cons hl, e2, List.all_cons]

set_option maxHeartbeats 3200000 in
theorem specMV (A : Option Addr) (n c B : Nat) (ms : List Wh) (w : World) (hr : MpI w B A n ms) (hB : B ≤ w.heap.size) (hn : n ≤ 1000000000) :
    Calls Tryz.prog 120 #[.slice A n c] w fun e w' => e = .returned (.bool (mpV ms)) ∧ Below w.heap.size w w' := by
  have HR := hide hr
  have HL := hide hr.1
  clear hr
  go_enter Tryz.func120, Tryz.ntmps120
  go_wp2
  go_loopw [3] (fun i wr => ∃ (k : Nat), k ≤ n ∧ i = .int .i64 k ∧ Hid (ms.all whV = (ms.drop k).all whV) ∧ Hid (Below w.heap.size w wr)) (fun i _ => n - (intOf i).toNat)
  case atStart => exact ⟨0, Nat.zero_le _, rfl, rfl, Below.refl _ _⟩
  case round =>
    obtain ⟨k, hk, rfl, HA, HB⟩ := hrel
    by_cases hlt : k < n
    · obtain ⟨x, hx⟩ : ∃ x, ms[k]? = some x := ⟨_, List.getElem?_eq_getElem (by rw [HL.out]; exact hlt)⟩
      obtain ⟨ad, p, rfl, hp, hb, h0, h1, h2, h3, h4⟩ := (HR.out.below HB.out hB).at_ hx
      have HX := hide (HA.out.trans (allV_drop hx))
      clear HA hx
      obtain ⟨t, z, a, i, y⟩ := x
      dsimp only at h0 h1 h2 h3 h4
      have hsz := HB.out.size
      rcases hv : whV (t, z, a, i, y) with _ | _
      · have HC := hide (hv ▸ where_any t z a i y wr)
        rw [hv] at HX
        clear hv
        go_wp2_with fail
        refine HC.out.mono ?_
        rintro e w1 ⟨rfl, hb1⟩
        have HB1 := hide (HB.out.trans (hb1.mono hsz))
        clear hb1
        go_wp2
        go_ret
        exact ⟨ret_bool (by unfold mpV; rw [HX.out]; rfl), HB1.out⟩
      · have HC := hide (hv ▸ where_any t z a i y wr)
        rw [hv, Bool.true_and] at HX
        clear hv
        go_wp2_with fail
        refine HC.out.mono ?_
        rintro e w1 ⟨rfl, hb1⟩
        have HB1 := hide (HB.out.trans (hb1.mono hsz))
        clear hb1
        go_wp2
        go_roundw
        case rel => exact ⟨k + 1, by omega, by go_num, HX.out, HB1.out⟩
        case measure => simp [intOf]; omega
    · obtain rfl : k = n := by omega
      have HD : Hid (mpV ms = ((k : Int) == 12)) := by
        show _ = _
        unfold mpV
        rw [HA.out, List.drop_of_length_le (by rw [HL.out]; exact Nat.le_refl _), List.all_nil, Bool.true_and, HL.out]
        by_cases h : k = 12
        · subst h; rfl
        · rw [decide_eq_false h]; symm; simp; omega
      go_wp2
      go_ret
      exact ⟨ret_bool HD.out.symm, HB.out⟩

theorem one_int (w : World) (k : Int) : Ints (w.alloc (.cells #[.int .i64 k] 3)) (w.heap.size + 1) (some ⟨w.heap.size, 0, none⟩) 1 [k] := by
  refine ⟨rfl, fun _ => ⟨_, rfl, by simp, fun j hj => ?_⟩⟩
  rw [add_plain']
  have h := (Blk.new w 3 #[.int .i64 k]).cell j
  rw [h]
  rcases j with _ | j
  · rfl
  · omega
theorem blkP_le (p : Int → Bool) : ∀ k : Nat, (blkP p k).length ≤ k := by
  intro k
  induction k with
  | zero => exact Nat.le_refl _
  | succ k ih =>
    rw [blkP_succ]
    split
    · simp; omega
    · omega

/-- what a list of blocks or of objects answers -/
def ListPost (w : World) (ys : List Int) (e : Ending) (w' : World) : Prop :=
  ∃ A2 m c2, e = .returned (.slice A2 m c2) ∧ Own w' w.heap.size A2 m c2 ys ∧ Below w.heap.size w w'
end Go.Proofs.YtfianpjoifcphaaGreat

/- ImpM1 -/
namespace Go.Proofs.YtfianpjoifcphaaGreat
open Go.RowKit
set_option linter.unusedVariables false
set_option maxRecDepth 100000

set_option maxHeartbeats 800000 in
theorem zoneHas_any (z a s : Int) (w : World) (hs : 0 ≤ s ∧ s ≤ 1000) :
    Calls Tryz.prog 195 #[.int .i64 z, .int .i64 a, .int .i64 s] w fun e w' => e = .returned (.bool (inB z 0 3 && inB a 0 (64 - s))) ∧ w = w' := by
  obtain ⟨s0, s1⟩ := hs
  have w1 : IntKind.i64.wrap (64 - s) = 64 - s := IntWalk.i64_in _ (by omega)
  by_cases z0 : z < 0
  · have H := hide (show (inB z 0 3 && inB a 0 (64 - s)) = false by rw [show inB z 0 3 = false by simp [inB]; omega]; rfl)
    go_enter Tryz.func195, Tryz.ntmps195
    go_wp2
    go_ret
    exact ⟨ret_bool H.out.symm, rfl⟩
  by_cases z1 : 4 ≤ z
  · have H := hide (show (inB z 0 3 && inB a 0 (64 - s)) = false by rw [show inB z 0 3 = false by simp [inB]; omega]; rfl)
    have z1' : decide (z ≥ 4) = true := by simpa using z1
    go_enter Tryz.func195, Tryz.ntmps195
    go_wp2
    go_ret
    exact ⟨ret_bool H.out.symm, rfl⟩
  have z1' : decide (z ≥ 4) = false := by simpa using z1
  by_cases a0 : 0 ≤ a
  · have H := hide (show (inB z 0 3 && inB a 0 (64 - s)) = decide (a ≤ 64 - s) by rw [show inB z 0 3 = true by simp [inB]; omega]; unfold inB; rw [decide_eq_true a0]; rfl)
    go_enter Tryz.func195, Tryz.ntmps195
    go_wp2
    all_goals
      go_ret
      exact ⟨ret_bool (by rw [H.out] <;> first | rfl | simp_all), rfl⟩
  · have a0' : decide (a ≥ 0) = false := by simpa using a0
    have H := hide (show (inB z 0 3 && inB a 0 (64 - s)) = false by rw [show inB a 0 (64 - s) = false by simp [inB]; omega]; simp)
    go_enter Tryz.func195, Tryz.ntmps195
    go_wp2
    go_ret
    exact ⟨ret_bool H.out.symm, rfl⟩
theorem zoneHas_1 (z a : Int) (w : World) (v : Bool) (h : (inB z 0 3 && inB a 0 63) = v) :
    Calls Tryz.prog 195 #[.int .i64 z, .int .i64 a, .int .i64 1] w fun e w' => e = .returned (.bool v) ∧ w = w' := h ▸ zoneHas_any z a 1 w (by omega)

set_option maxHeartbeats 3200000 in
theorem wValid_any (t z a i x : Int) (w : World) :
    Calls Tryz.prog 160 #[.agg #[.int .i64 t, .int .i64 z, .int .i64 a, .int .i64 i, .int .i64 x]] w fun e w' => e = .returned (.bool (whV (t, z, a, i, x))) ∧ Below w.heap.size w w' := by
  by_cases t0 : t = 0
  · subst t0
    have HV := hide (show whV (0, z, a, i, x) = decide ((0, z, a, i, x) = wh0) from rfl)
    go_enter Tryz.func160, Tryz.ntmps160
    go_wp2
    all_goals
      go_ret
      exact ⟨ret_bool (by rw [HV.out]; simp_all [wh0]), below_new w _⟩
  by_cases t1 : t = 1
  · subst t1
    have HV := hide (show whV (1, z, a, i, x) = ((inB z 0 3 && inB a 0 63) && (decide (i = 0) && decide (x = 0))) by rw [Bool.and_assoc]; rfl)
    clear t0
    rcases h1 : (inB z 0 3 && inB a 0 63) with _ | _
    · have H1 := hide h1
      clear h1
      go_enter Tryz.func160, Tryz.ntmps160
      go_wp2_with fail
      refine (zoneHas_1 _ _ _ _ H1.out).mono ?_
      rintro e w' ⟨rfl, rfl⟩
      go_wp2
      go_ret
      exact ⟨ret_bool (by rw [HV.out, H1.out]; rfl), below_new w _⟩
    · have H1 := hide h1
      clear h1
      go_enter Tryz.func160, Tryz.ntmps160
      go_wp2_with fail
      refine (zoneHas_1 _ _ _ _ H1.out).mono ?_
      rintro e w' ⟨rfl, rfl⟩
      go_wp2
      all_goals
        go_ret
        exact ⟨ret_bool (by rw [HV.out, H1.out]; by_cases hi : i = 0 <;> by_cases hx : x = 0 <;> simp_all), below_new w _⟩
  by_cases t2 : t = 2
  · subst t2
    have HV := hide (show whV (2, z, a, i, x) = ((inB z 0 3 && inB a 0 63) && (inB i 1 999 && inB x 0 5)) by rw [Bool.and_assoc]; rfl)
    clear t0 t1
    rcases h1 : (inB z 0 3 && inB a 0 63) with _ | _
    · have H1 := hide h1
      clear h1
      go_enter Tryz.func160, Tryz.ntmps160
      go_wp2_with fail
      refine (zoneHas_1 _ _ _ _ H1.out).mono ?_
      rintro e w' ⟨rfl, rfl⟩
      go_wp2
      go_ret
      exact ⟨ret_bool (by rw [HV.out, H1.out]; rfl), below_new w _⟩
    have H1 := hide h1
    clear h1
    by_cases i0 : 1 ≤ i
    · have i0' : decide (i ≥ 1) = true := by simpa using i0
      by_cases i1 : i ≤ 999
      · have HI := hide (show (inB i 1 999 && inB x 0 5) = inB x 0 5 by rw [show inB i 1 999 = true by simp [inB]; omega]; rfl)
        by_cases x0 : 0 ≤ x
        · have x0' : decide (x ≥ 0) = true := by simpa using x0
          have HX := hide (show inB x 0 5 = decide (x < 6) by unfold inB; rw [decide_eq_true x0, Bool.true_and, decide_eq_decide]; omega)
          go_enter Tryz.func160, Tryz.ntmps160
          go_wp2_with fail
          refine (zoneHas_1 _ _ _ _ H1.out).mono ?_
          rintro e w' ⟨rfl, rfl⟩
          go_wp2
          go_ret
          exact ⟨ret_bool (by rw [HV.out, H1.out, HI.out, HX.out]; first | rfl | simp), below_new w _⟩
        · have x0' : decide (x ≥ 0) = false := by simpa using x0
          have HX := hide (show inB x 0 5 = false by simp [inB]; omega)
          go_enter Tryz.func160, Tryz.ntmps160
          go_wp2_with fail
          refine (zoneHas_1 _ _ _ _ H1.out).mono ?_
          rintro e w' ⟨rfl, rfl⟩
          go_wp2
          go_ret
          exact ⟨ret_bool (by rw [HV.out, H1.out, HI.out, HX.out]; first | rfl | simp), below_new w _⟩
      · have i1' : decide (i ≤ 999) = false := by simpa using i1
        have HI := hide (show (inB i 1 999 && inB x 0 5) = false by rw [show inB i 1 999 = false by simp [inB]; omega]; rfl)
        go_enter Tryz.func160, Tryz.ntmps160
        go_wp2_with fail
        refine (zoneHas_1 _ _ _ _ H1.out).mono ?_
        rintro e w' ⟨rfl, rfl⟩
        go_wp2
        go_ret
        exact ⟨ret_bool (by rw [HV.out, H1.out, HI.out]; first | rfl | simp), below_new w _⟩
    · have i0' : decide (i ≥ 1) = false := by simpa using i0
      have HI := hide (show (inB i 1 999 && inB x 0 5) = false by rw [show inB i 1 999 = false by simp [inB]; omega]; rfl)
      go_enter Tryz.func160, Tryz.ntmps160
      go_wp2_with fail
      refine (zoneHas_1 _ _ _ _ H1.out).mono ?_
      rintro e w' ⟨rfl, rfl⟩
      go_wp2
      go_ret
      exact ⟨ret_bool (by rw [HV.out, H1.out, HI.out]; first | rfl | simp), below_new w _⟩
  · have HV := hide (show whV (t, z, a, i, x) = false by unfold whV; rw [if_neg t0, if_neg t1, if_neg t2])
    have g0 : (t == 0) = false := by simpa using t0
    have g1 : (t == 1) = false := by simpa using t1
    have g2 : (t == 2) = false := by simpa using t2
    go_enter Tryz.func160, Tryz.ntmps160
    go_wp2
    go_ret
    exact ⟨ret_bool HV.out.symm, below_new w _⟩

set_option maxHeartbeats 3200000 in
theorem implMV (A : Option Addr) (n c B : Nat) (ms : List Wh) (w : World) (hr : MpI w B A n ms) (hB : B ≤ w.heap.size) (hn : n ≤ 1000000000) :
    Calls Tryz.prog 106 #[.slice A n c] w fun e w' => e = .returned (.bool (mpV ms)) ∧ Below w.heap.size w w' := by
  have HR := hide hr
  have HL := hide hr.1
  clear hr
  by_cases hn12 : n = 12
  · subst hn12
    go_enter Tryz.func106, Tryz.ntmps106
    go_wp2
    go_loopw [10] (fun i wr => ∃ (k : Nat), k ≤ 12 ∧ i = .int .i64 k ∧ Hid (ms.all whV = (ms.drop k).all whV) ∧ Hid (Below w.heap.size w wr)) (fun i _ => 12 - (intOf i).toNat)
    case atStart => exact ⟨0, Nat.zero_le _, rfl, rfl, Below.refl _ _⟩
    case round =>
      obtain ⟨k, hk, rfl, HA, HB⟩ := hrel
      by_cases hlt : k < 12
      · obtain ⟨x, hx⟩ : ∃ x, ms[k]? = some x := ⟨_, List.getElem?_eq_getElem (by rw [HL.out]; exact hlt)⟩
        obtain ⟨ad, p, rfl, hp, hb, h0, h1, h2, h3, h4⟩ := (HR.out.below HB.out hB).at_ hx
        have HX := hide (HA.out.trans (allV_drop hx))
        clear HA hx
        obtain ⟨t, z, a, i, y⟩ := x
        dsimp only at h0 h1 h2 h3 h4
        have hsz := HB.out.size
        have k0 : (0 : Int) ≤ (k : Int) := by omega
        have k1 : (k : Int) < 12 := by omega
        have HBA := hide (HB.out.alloc hsz (.cells #[.int .i64 t, .int .i64 z, .int .i64 a, .int .i64 i, .int .i64 y] 141))
        rcases hv : whV (t, z, a, i, y) with _ | _
        · have HC := hide (fun W => hv ▸ wValid_any t z a i y W)
          rw [hv] at HX
          clear hv
          go_wp2_with fail
          refine (HC.out _).mono ?_
          rintro e w1 ⟨rfl, hb1⟩
          have HB1 := hide (HBA.out.trans (hb1.mono HBA.out.size))
          clear hb1
          go_wp2
          go_ret
          exact ⟨ret_bool (by unfold mpV; rw [HX.out]; rfl), HB1.out⟩
        · have HC := hide (fun W => hv ▸ wValid_any t z a i y W)
          rw [hv, Bool.true_and] at HX
          clear hv
          go_wp2_with fail
          refine (HC.out _).mono ?_
          rintro e w1 ⟨rfl, hb1⟩
          have HB1 := hide (HBA.out.trans (hb1.mono HBA.out.size))
          clear hb1
          go_wp2
          go_roundw
          case rel => exact ⟨k + 1, by omega, by go_num, HX.out, HB1.out⟩
          case measure => simp [intOf]; omega
      · obtain rfl : k = 12 := by omega
        have HD : Hid (mpV ms = true) := by
          show _ = _
          unfold mpV
          rw [HA.out, List.drop_of_length_le (by rw [HL.out]; exact Nat.le_refl _), List.all_nil, Bool.true_and, HL.out]
          rfl
        go_wp2
        go_ret
        exact ⟨ret_bool HD.out.symm, HB.out⟩
  · have HD := hide (show mpV ms = false by unfold mpV; rw [HL.out, decide_eq_false hn12, Bool.and_false])
    have hne : ((n : Int) != 12) = true := by simp; omega
    go_enter Tryz.func106, Tryz.ntmps106
    go_wp2
    go_ret
    exact ⟨ret_bool HD.out.symm, Below.refl _ _⟩
end Go.Proofs.YtfianpjoifcphaaGreat

/- SpecH1 -/
namespace Go.Proofs.YtfianpjoifcphaaGreat
open Go.RowKit
set_option linter.unusedVariables false
set_option maxRecDepth 100000

/-- a list of the call's own -/
def LPost (w : World) (xs : List Int) (e : Ending) (w' : World) : Prop :=
  ∃ A2 n2 c2, e = .returned (.slice A2 n2 c2) ∧ Own w' w.heap.size A2 n2 c2 xs ∧ Below w.heap.size w w'
/-- .. and whether it was done -/
def UsePost (w : World) (v : Bool) (xs : List Int) (e : Ending) (w' : World) : Prop :=
  ∃ A2 n2 c2, e = .returned (.tuple #[.slice A2 n2 c2, .bool v]) ∧ Own w' w.heap.size A2 n2 c2 xs ∧ Below w.heap.size w w'
def useV (h : List Int) (b : Int) : Bool := hV h && inB b 0 11
def useS (h : List Int) (b : Int) : List Int := if useV h b then useH h b.toNat else []

set_option maxHeartbeats 1600000 in
theorem specHV (A : Option Addr) (n c B : Nat) (h : List Int) (w : World) (hr : Ints w B A n h) (hn : n ≤ 1000000000000) :
    Calls Tryz.prog 121 #[.slice A n c] w fun e w' => e = .returned (.bool (hV h)) ∧ w = w' := by
  have HR := hide hr
  clear hr
  go_enter Tryz.func121, Tryz.ntmps121
  go_wp2
  go_loop [3] (fun i => ∃ k : Nat, k ≤ n ∧ i = .int .i64 k ∧ Hid ((h.take k).all (fun x => inB x 0 100) = true)) (fun i => n - (intOf i).toNat)
  case atStart => exact ⟨0, Nat.zero_le _, rfl, rfl⟩
  case round =>
    obtain ⟨k, hk, rfl, HA⟩ := hrel
    by_cases hlt : k < n
    · have HT := hide (hV_take (h := h) (k := k) (by rw [HR.out.1]; exact hlt))
      have HN := hide fun hx => hV_no (h := h) (k := k) (by rw [HR.out.1]; exact hlt) hx
      obtain ⟨ad, rfl, hb, hc⟩ := HR.out.at_ hlt
      generalize h.getD k 0 = x at hc HT HN
      rcases h1 : inB x 0 100 with _ | _
      · have H1 := hide h1
        clear h1
        go_wp2_with (go_at_call 60; refine (in_no _ _ _ _ H1.out).mono ?_; rintro e w' ⟨rfl, rfl⟩)
        go_ret
        exact ⟨ret_bool (HN.out H1.out).symm, rfl⟩
      · have H1 := hide h1
        clear h1
        go_wp2_with (go_at_call 60; refine (in_yes _ _ _ _ H1.out).mono ?_; rintro e w' ⟨rfl, rfl⟩)
        go_round
        case rel => exact ⟨k + 1, by omega, by go_num, by show _ = _; rw [HT.out, HA.out, H1.out]; rfl⟩
        case measure => simp [intOf]; omega
    · obtain rfl : k = n := by omega
      have HD := hide (show h.all (fun x => inB x 0 100) = true by have := HA.out; rwa [List.take_of_length_le (by rw [HR.out.1]; exact Nat.le_refl _)] at this)
      go_wp2
      go_ret
      exact ⟨ret_bool (by unfold hV; rw [HD.out, HR.out.1, Bool.true_and, Bool.eq_iff_iff]; simp; omega), rfl⟩

set_option maxHeartbeats 3200000 in
theorem specUse (A : Option Addr) (c B b : Nat) (h : List Int) (w : World) (hr : Ints w B A 12 h) (hB : B ≤ w.heap.size) (hv : hV h = true) (hb : b < 12) :
    Calls Tryz.prog 62 #[.slice A 12 c, .int .i64 (b : Nat)] w fun e w' => ∃ A2 c2, e = .returned (.slice A2 12 c2) ∧ Own w' w.heap.size A2 12 c2 (useH h b) ∧ Below w.heap.size w w' := by
  have HI := hide hr
  have hx := hV_at hv hb
  obtain ⟨x, hxe⟩ : ∃ x, h.getD b 0 = x := ⟨_, rfl⟩
  rw [hxe] at hx
  have HX := hide hxe
  have wx : IntKind.i64.wrap (x + 10) = x + 10 := IntWalk.i64_in _ (by omega)
  clear hr hv hxe
  go_enter Tryz.func62, Tryz.ntmps62
  go_wp2_with (at_builtin; refine wpList_append_ints rfl _ _ rfl w.heap.size 0 0 B 12 c _ _ [] h rfl (Own.lit0 w _ (Nat.le_refl _)) rfl (HI.out.alloc hB _) (by omega) (by simp) ?_; intro A2 c2 w3 ho3 hg3 hat3; clear hat3; simp only [Nat.zero_add, List.nil_append] at ho3 ⊢; obtain ⟨g, rfl, hgb, hgl⟩ := ho3.shape (by omega); have HB3 := hide (below_app0 (Below.refl _ _) (Nat.le_refl _) hg3); have HO3 := hide ho3; obtain ⟨ad, rfl, hab, hc0⟩ := (HI.out.below HB3.out hB).at_ hb; rw [HX.out] at hc0; have hcell := ho3.cell (g := g) (j := b) hb; have hfree := ho3.free (g := g) (j := b); clear ho3 hg3; generalize h.getD b 0 = y at hcell; by_cases hm : x + 10 ≤ 100)
  · have hst := HO3.out.stored (g := g) (j := b) (x + 10)
    have HS := hide hst.1
    have HG := hide (HB3.out.grown hst.2 HB3.out.size (by intro q hq; injection hq with hq; omega))
    clear hst
    go_wp2
    go_ret
    refine ⟨_, _, rfl, ?_, HG.out⟩
    unfold useH
    rw [HX.out, show min (x + 10) 100 = x + 10 by omega]
    exact HS.out
  · have hst := HO3.out.stored (g := g) (j := b) 100
    have HS := hide hst.1
    have HG := hide (HB3.out.grown hst.2 HB3.out.size (by intro q hq; injection hq with hq; omega))
    clear hst
    go_wp2
    go_ret
    refine ⟨_, _, rfl, ?_, HG.out⟩
    unfold useH
    rw [HX.out, show min (x + 10) 100 = 100 by omega]
    exact HS.out


set_option maxHeartbeats 3200000 in
theorem specHD (A : Option Addr) (n c B : Nat) (h : List Int) (w : World) (hr : Ints w B A n h) (hB : B ≤ w.heap.size) (hn : n ≤ 1000000000000) :
    Calls Tryz.prog 230 #[.slice A n c] w (LPost w (decS h)) := by
  have HI := hide hr
  have HV := hide fun (W : World) (hb : Below w.heap.size w W) => specHV A n c B h W (hr.below hb hB) hn
  clear hr
  rcases hv : hV h with _ | _
  · have E2 := hide (decS_no hv)
    rw [hv] at HV
    clear hv
    go_enter Tryz.func230, Tryz.ntmps230
    go_wp2
    have HB0 := hide ((Below.refl w.heap.size w).alloc (Nat.le_refl _) (.cells #[] 3))
    have HO0 := hide (Own.lit0 w w.heap.size (Nat.le_refl _))
    go_loopw [3, 4] (fun o i wr => i = .int .i64 0 ∧ o = .slice (some ⟨w.heap.size, 0, none⟩) 0 0 ∧ w.alloc (.cells #[] 3) = wr) (fun _ _ _ => 0)
    case atStart => exact ⟨rfl, rfl, rfl⟩
    case round =>
      obtain ⟨rfl, rfl, rfl⟩ := hrel
      generalize w.alloc (.cells #[] 3) = w0 at HB0 HO0 ⊢
      by_cases h0 : n = 0
      · subst h0
        go_wp2
        go_ret
        exact ⟨_, _, _, rfl, by rw [E2.out]; exact HO0.out, HB0.out⟩
      · have hp : decide ((0 : Int) < (n : Int)) = true := by simp; omega
        have hp2 : 0 < n := by omega
        go_wp2_with (go_at_call 121; refine (HV.out _ HB0.out).mono ?_; rintro e w' ⟨rfl, rfl⟩)
        go_ret
        exact ⟨_, _, _, rfl, by rw [E2.out]; exact HO0.out, HB0.out⟩
  · have HVV := hide hv
    have E2 := hide (decS_yes hv)
    have hn12 : n = 12 := HI.out.1.symm.trans (hV_len hv)
    subst hn12
    rw [hv] at HV
    clear hv
    go_enter Tryz.func230, Tryz.ntmps230
    go_wp2
    go_loopw [3, 4] (fun o i wr => ∃ (k co : Nat) (Ao : Option Addr), k ≤ 12 ∧ i = .int .i64 k ∧ o = .slice Ao k co ∧ Hid (Own wr w.heap.size Ao k co (decH (h.take k))) ∧ Hid (Below w.heap.size w wr)) (fun _ i _ => 12 - (intOf i).toNat)
    case atStart => exact ⟨0, 0, _, by omega, rfl, rfl, Own.lit0 w w.heap.size (Nat.le_refl _), (Below.refl w.heap.size w).alloc (Nat.le_refl _) _⟩
    case round =>
      obtain ⟨k, co, Ao, hk, rfl, rfl, HO, HB⟩ := hrel
      have hsz := HB.out.size
      by_cases hlt : k < 12
      · have hx := hV_at HVV.out hlt
        have HS := hide (decH_snoc (h := h) (k := k) (by rw [HI.out.1]; exact hlt))
        obtain ⟨ad, rfl, hab, hc⟩ := (HI.out.below HB.out hB).at_ hlt
        generalize h.getD k 0 = x at hx hc HS
        have hp : decide ((k : Int) < 12) = true := by simp; omega
        have hk1 : (k : Int) < 12 := by omega
        have hx0 : 0 ≤ x := hx.1
        go_wp2_with (first
          | (go_at_call 121; refine (HV.out _ HB.out).mono ?_; rintro e w' ⟨rfl, rfl⟩)
          | (at_builtin; refine wpList_append_ints rfl _ _ rfl w.heap.size k co _ 1 _ Ao _ (decH (h.take k)) [x / 2] rfl (HO.out.alloc _) rfl (Ints.one _ (x / 2)) (by omega) (by simp; omega) ?_; intro A2 c2 w3 ho3 hg3 hat3; clear hat3; have HO3 := hide ho3; have HB3 := hide (below_app HB.out hsz HO.out (Nat.le_refl _) hg3); clear ho3 hg3))
        go_roundw
        case rel => exact ⟨k + 1, _, _, by omega, by go_num, rfl, by rw [HS.out]; exact HO3.out, HB3.out⟩
        case measure => simp [intOf]; omega
      · obtain rfl : k = 12 := by omega
        have HD := hide (show h.take 12 = h from List.take_of_length_le (by rw [HI.out.1]; exact Nat.le_refl _))
        go_wp2
        go_ret
        exact ⟨_, _, _, rfl, by rw [E2.out]; have := HO.out; rwa [HD.out] at this, HB.out⟩
end Go.Proofs.YtfianpjoifcphaaGreat

/- ImpH1 -/
namespace Go.Proofs.YtfianpjoifcphaaGreat
open Go.RowKit
set_option linter.unusedVariables false
set_option maxRecDepth 100000

set_option maxHeartbeats 1600000 in
theorem implHV (A : Option Addr) (n c B : Nat) (h : List Int) (w : World) (hr : Ints w B A n h) (hn : n ≤ 1000000000000) :
    Calls Tryz.prog 107 #[.slice A n c] w fun e w' => e = .returned (.bool (hV h)) ∧ w = w' := by
  have HR := hide hr
  clear hr
  by_cases hn12 : n = 12
  · subst hn12
    go_enter Tryz.func107, Tryz.ntmps107
    go_wp2
    go_loop [10] (fun i => ∃ k : Nat, k ≤ 12 ∧ i = .int .i64 k ∧ Hid ((h.take k).all (fun x => inB x 0 100) = true)) (fun i => 12 - (intOf i).toNat)
    case atStart => exact ⟨0, Nat.zero_le _, rfl, rfl⟩
    case round =>
      obtain ⟨k, hk, rfl, HA⟩ := hrel
      by_cases hlt : k < 12
      · have HT := hide (hV_take (h := h) (k := k) (by rw [HR.out.1]; exact hlt))
        have HN := hide fun hx => hV_no (h := h) (k := k) (by rw [HR.out.1]; exact hlt) hx
        obtain ⟨ad, rfl, hb, hc⟩ := HR.out.at_ hlt
        generalize h.getD k 0 = x at hc HT HN
        have hk1 : (k : Int) < 12 := by omega
        by_cases h1 : x < 0
        · have H1 := hide (show inB x 0 100 = false by unfold inB; rw [decide_eq_false (by omega)]; rfl)
          go_wp2
          go_ret
          exact ⟨ret_bool (HN.out H1.out).symm, rfl⟩
        · by_cases h2 : 100 < x
          · have H1 := hide (show inB x 0 100 = false by unfold inB; rw [decide_eq_false (p := x ≤ 100) (by omega), Bool.and_false])
            go_wp2
            go_ret
            exact ⟨ret_bool (HN.out H1.out).symm, rfl⟩
          · have H1 := hide (show inB x 0 100 = true from inB_iff.2 (by omega))
            go_wp2
            go_round
            case rel => exact ⟨k + 1, by omega, by go_num, by show _ = _; rw [HT.out, HA.out, H1.out]; rfl⟩
            case measure => simp [intOf]; omega
      · obtain rfl : k = 12 := by omega
        have HD := hide (show h.all (fun x => inB x 0 100) = true by have := HA.out; rwa [List.take_of_length_le (by rw [HR.out.1]; exact Nat.le_refl _)] at this)
        go_wp2
        go_ret
        exact ⟨ret_bool (by unfold hV; rw [HD.out, HR.out.1]; rfl), rfl⟩
  · have hne : ((n : Int) != 12) = true := by simp; omega
    have HN := hide (show hV h = false by unfold hV; rw [HR.out.1, decide_eq_false hn12, Bool.and_false])
    clear hn12
    go_enter Tryz.func107, Tryz.ntmps107
    go_wp2
    go_ret
    exact ⟨ret_bool HN.out.symm, rfl⟩

set_option maxHeartbeats 3200000 in
theorem implHU (A : Option Addr) (n c B : Nat) (h : List Int) (b : Int) (w : World) (hr : Ints w B A n h) (hB : B ≤ w.heap.size) (hn : n ≤ 1000000000000) :
    Calls Tryz.prog 133 #[.slice A n c, .int .i64 b] w (UsePost w (useV h b) (useS h b)) := by
  have HI := hide hr
  have HV := hide (implHV A n c B h w hr hn)
  clear hr
  rcases hv : hV h with _ | _
  · have E1 := hide (show useV h b = false by unfold useV; rw [hv]; rfl)
    have E2 := hide (show useS h b = [] by unfold useS; rw [E1.out]; rfl)
    rw [hv] at HV
    clear hv
    rw [E1.out, E2.out]
    go_enter Tryz.func133, Tryz.ntmps133
    go_wp2_with (go_at_call 107; refine HV.out.mono ?_; rintro e w' ⟨rfl, rfl⟩)
    go_ret2
    exact ⟨_, _, _, rfl, Own.nil_ _ _, Below.refl _ _⟩
  · rw [hv] at HV
    by_cases hb0 : b < 0
    · have E1 := hide (show useV h b = false by unfold useV inB; rw [decide_eq_false (p := 0 ≤ b) (by omega)]; simp)
      have E2 := hide (show useS h b = [] by unfold useS; rw [E1.out]; rfl)
      clear hv
      rw [E1.out, E2.out]
      go_enter Tryz.func133, Tryz.ntmps133
      go_wp2_with (go_at_call 107; refine HV.out.mono ?_; rintro e w' ⟨rfl, rfl⟩)
      go_ret2
      exact ⟨_, _, _, rfl, Own.nil_ _ _, Below.refl _ _⟩
    · by_cases hb1 : 12 ≤ b
      · have E1 := hide (show useV h b = false by unfold useV inB; rw [decide_eq_false (p := b ≤ 11) (by omega)]; simp)
        have E2 := hide (show useS h b = [] by unfold useS; rw [E1.out]; rfl)
        clear hv
        rw [E1.out, E2.out]
        go_enter Tryz.func133, Tryz.ntmps133
        go_wp2_with (go_at_call 107; refine HV.out.mono ?_; rintro e w' ⟨rfl, rfl⟩)
        go_ret2
        exact ⟨_, _, _, rfl, Own.nil_ _ _, Below.refl _ _⟩
      · have E1 := hide (show useV h b = true by unfold useV; rw [hv, inB_iff.2 (by omega)]; rfl)
        have E2 := hide (show useS h b = useH h b.toNat by unfold useS; rw [E1.out]; rfl)
        have hn12 : n = 12 := HI.out.1.symm.trans (hV_len hv)
        subst hn12
        obtain ⟨k, rfl⟩ := Int.eq_ofNat_of_zero_le (show 0 ≤ b by omega)
        rw [Int.toNat_natCast] at E2
        have hk : k < 12 := by omega
        have hx := hV_at hv hk
        obtain ⟨x, hxe⟩ : ∃ x, h.getD k 0 = x := ⟨_, rfl⟩
        rw [hxe] at hx
        have HX := hide hxe
        have wx : IntKind.i64.wrap (x + 10) = x + 10 := IntWalk.i64_in _ (by omega)
        have HCL := hide (clone_any A 12 c B h w HI.out hB (by omega) (by rintro rfl; obtain ⟨_, e, _⟩ := HI.out.2 (by omega); cases e))
        have HU : Hid (useH h k = h.set k (min (x + 10) 100)) := by show _ = _; unfold useH; rw [hxe]
        clear hv hxe
        rw [E1.out, E2.out, HU.out]
        go_enter Tryz.func133, Tryz.ntmps133
        by_cases hm : x + 10 ≤ 100
        · rw [show min (x + 10) 100 = x + 10 by omega]
          go_wp2_with (first
            | (go_at_call 107; refine HV.out.mono ?_; rintro e w' ⟨rfl, rfl⟩)
            | (go_at_call 136; refine HCL.out.mono ?_; rintro e w3 ⟨A2, c2, rfl, ho3, hb3⟩; obtain ⟨g, rfl, hgb, hgl⟩ := ho3.shape (by omega); have hcell := ho3.cell (g := g) (j := k) hk; rw [HX.out] at hcell; have hfree := ho3.free (g := g) (j := k); have hst := ho3.stored (g := g) (j := k) (x + 10); have HS := hide hst.1; have HG := hide (hb3.grown hst.2 hb3.size (by intro q hq; injection hq with hq; omega)); clear ho3 hst hb3))
          go_ret2
          exact ⟨_, _, _, rfl, HS.out, HG.out⟩
        · rw [show min (x + 10) 100 = 100 by omega]
          go_wp2_with (first
            | (go_at_call 107; refine HV.out.mono ?_; rintro e w' ⟨rfl, rfl⟩)
            | (go_at_call 136; refine HCL.out.mono ?_; rintro e w3 ⟨A2, c2, rfl, ho3, hb3⟩; obtain ⟨g, rfl, hgb, hgl⟩ := ho3.shape (by omega); have hcell := ho3.cell (g := g) (j := k) hk; rw [HX.out] at hcell; have hfree := ho3.free (g := g) (j := k); have hst := ho3.stored (g := g) (j := k) 100; have HS := hide hst.1; have HG := hide (hb3.grown hst.2 hb3.size (by intro q hq; injection hq with hq; omega)); clear ho3 hst hb3))
          go_ret2
          exact ⟨_, _, _, rfl, HS.out, HG.out⟩

end Go.Proofs.YtfianpjoifcphaaGreat

/- SpecM3 -/
namespace Go.Proofs.YtfianpjoifcphaaGreat
open Go.RowKit
set_option linter.unusedVariables false
set_option maxRecDepth 100000

theorem inZ_at {ms : List Wh} {k : Nat} {x : Wh} (h : ms[k]? = some x) (z : Int) : inZ ms z (k : Int) = (decide (x.1 ≠ 0) && decide (x.2.1 = z)) := by unfold inZ; rw [Int.toNat_natCast, h]
theorem inT_at {ms : List Wh} {k : Nat} {x : Wh} (h : ms[k]? = some x) (t : Int) : inT ms t (k : Int) = decide (x.1 = t) := by unfold inT; rw [Int.toNat_natCast, h]
theorem blk_no {p : Int → Bool} {k : Nat} (h : p k = false) : blkP p (k + 1) = blkP p k := by rw [blkP_succ, h]; rfl
theorem blk_yes {p : Int → Bool} {k : Nat} (h : p k = true) : blkP p (k + 1) = blkP p k ++ [(k : Int)] := by rw [blkP_succ, h]; rfl

set_option maxHeartbeats 3200000 in
theorem specMI (A : Option Addr) (n c B : Nat) (ms : List Wh) (q : Int) (w : World) (hr : MpI w B A n ms) (hB : B ≤ w.heap.size) (hn : n ≤ 1000000000) :
    Calls Tryz.prog 250 #[.slice A n c, .int .i64 q] w (ListPost w (inM ms q)) := by
  have HR := hide hr
  have HL := hide hr.1
  have HV := hide fun (W : World) (h : Below w.heap.size w W) => specMV A n c B ms W (hr.below h hB) (Nat.le_trans hB h.size) hn
  clear hr
  rcases hv : mpV ms with _ | _
  · rw [hv] at HV
    have HM : Hid (inM ms q = []) := by show _ = _; unfold inM; rw [hv]; rfl
    clear hv
    have HO0 := hide (Own.lit0 w w.heap.size (Nat.le_refl _))
    have HB0 := hide (below_new w (.cells #[] 3))
    go_enter Tryz.func250, Tryz.ntmps250
    go_wp2
    go_loopw [5, 6] (fun o i wr => i = .int .i64 0 ∧ o = .slice (some ⟨w.heap.size, 0, none⟩) 0 0 ∧ wr = w.alloc (.cells #[] 3)) (fun _ _ _ => 0)
    case atStart => exact ⟨rfl, rfl, rfl⟩
    case round =>
      obtain ⟨rfl, rfl, rfl⟩ := hrel
      by_cases hlt : 0 < n
      · have k1 : (0 : Int) < (n : Int) := by omega
        go_wp2_with fail
        refine (HV.out _ HB0.out).mono ?_
        rintro e w1 ⟨rfl, hb1⟩
        have HO1 := hide (HO0.out.below hb1)
        have HB1 := hide (HB0.out.trans (hb1.mono HB0.out.size))
        clear hb1
        go_wp2
        go_ret
        exact ⟨_, _, _, rfl, by rw [HM.out]; exact HO1.out, HB1.out⟩
      · obtain rfl : n = 0 := by omega
        go_wp2
        go_ret
        exact ⟨_, _, _, rfl, by rw [HM.out]; exact HO0.out, HB0.out⟩
  · rw [hv] at HV
    have HM : Hid (inM ms q = blkP (inZ ms q) 12) := by show _ = _; unfold inM; rw [hv]; rfl
    have hn12 : n = 12 := HL.out.symm.trans (mpV_iff.1 hv).2
    subst hn12
    clear hv
    have HO0 := hide (Own.lit0 w w.heap.size (Nat.le_refl _))
    have HB0 := hide (below_new w (.cells #[] 3))
    go_enter Tryz.func250, Tryz.ntmps250
    go_wp2
    go_loopw [5, 6] (fun o i wr => ∃ (k m d : Nat) (X : Option Addr), k ≤ 12 ∧ m ≤ k ∧ i = .int .i64 k ∧ o = .slice X m d ∧ Hid (Own wr w.heap.size X m d (blkP (inZ ms q) k)) ∧ Hid (Below w.heap.size w wr)) (fun _ i _ => 12 - (intOf i).toNat)
    case atStart => exact ⟨0, 0, 0, _, by omega, by omega, rfl, rfl, HO0.out, HB0.out⟩
    case round =>
      clear HO0 HB0
      obtain ⟨k, m, d, X, hk, hmk, rfl, rfl, HO, HB⟩ := hrel
      by_cases hlt : k < 12
      · obtain ⟨x, hx⟩ : ∃ x, ms[k]? = some x := ⟨_, List.getElem?_eq_getElem (by rw [HL.out]; exact hlt)⟩
        have HP := hide (inZ_at hx q)
        have HAT := hide fun (W : World) (h : Below w.heap.size w W) => (HR.out.below h hB).at_ hx
        clear hx
        have k0 : (0 : Int) ≤ (k : Int) := by omega
        have k1 : (k : Int) < 12 := by omega
        have hsz := HB.out.size
        go_wp2_with fail
        refine (HV.out _ HB.out).mono ?_
        rintro e w1 ⟨rfl, hb1⟩
        have HO1 := hide (HO.out.below hb1)
        have HB1 := hide (HB.out.trans (hb1.mono hsz))
        have hsz1 := HB1.out.size
        clear hb1 HO HB hsz
        obtain ⟨ad, p, rfl, hp, hb, h0, h1, h2, h3, h4⟩ := HAT.out _ HB1.out
        obtain ⟨t, z, a, i, y⟩ := x
        dsimp only at h0 h1 h2 h3 h4 HP
        clear HAT h2 h3 h4
        by_cases ht : t = 0
        · subst ht
          have HN := hide (blk_no (p := inZ ms q) (k := k) (by rw [HP.out]; simp []))
          go_wp2
          go_roundw
          case rel => exact ⟨k + 1, _, _, _, by omega, by omega, by go_num, rfl, by show Own _ _ _ _ _ _; rw [HN.out]; exact HO1.out, HB1.out⟩
          case measure => simp [intOf]; omega
        · have ht' : (t != 0) = true := by simpa using ht
          by_cases hz : q = z
          · subst hz
            have HN := hide (blk_yes (p := inZ ms q) (k := k) (by rw [HP.out]; simp [ht]))
            go_wp2_with (at_builtin; refine wpList_append_ints rfl (.tmp 33) (.tmp 35) rfl w.heap.size m d (w1.heap.size + 1) 1 1 X (some ⟨w1.heap.size, 0, none⟩) (blkP (inZ ms q) k) [(k : Int)] rfl (HO1.out.alloc _) rfl (Ints.one w1 (k : Int)) (by omega) (by simp; omega) ?_; intro A8 c8 w8 ho8 hg8 hat8; have HB8 := hide (below_app HB1.out hsz1 HO1.out (Nat.le_refl _) hg8); have HO8 := hide ho8; clear ho8 hg8 hat8)
            go_roundw
            case rel => exact ⟨k + 1, m + 1, _, _, by omega, by omega, by go_num, rfl, by show Own _ _ _ _ _ _; rw [HN.out]; exact HO8.out, HB8.out⟩
            case measure => simp [intOf]; omega
          · have hz' : (z == q) = false := by simpa using fun e => hz e.symm
            have HN := hide (blk_no (p := inZ ms q) (k := k) (by rw [HP.out]; simp [show ¬ z = q from fun e => hz e.symm]))
            go_wp2
            go_roundw
            case rel => exact ⟨k + 1, _, _, _, by omega, by omega, by go_num, rfl, by show Own _ _ _ _ _ _; rw [HN.out]; exact HO1.out, HB1.out⟩
            case measure => simp [intOf]; omega
      · obtain rfl : k = 12 := by omega
        go_wp2
        go_ret
        exact ⟨_, _, _, rfl, by rw [HM.out]; exact HO.out, HB.out⟩

set_option maxHeartbeats 3200000 in
theorem specMT (A : Option Addr) (n c B : Nat) (ms : List Wh) (q : Int) (w : World) (hr : MpI w B A n ms) (hB : B ≤ w.heap.size) (hn : n ≤ 1000000000) :
    Calls Tryz.prog 254 #[.slice A n c, .int .i64 q] w (ListPost w (tierM ms q)) := by
  have HR := hide hr
  have HL := hide hr.1
  have HV := hide fun (W : World) (h : Below w.heap.size w W) => specMV A n c B ms W (hr.below h hB) (Nat.le_trans hB h.size) hn
  clear hr
  rcases hv : mpV ms with _ | _
  · rw [hv] at HV
    have HM : Hid (tierM ms q = []) := by show _ = _; unfold tierM; rw [hv]; rfl
    clear hv
    have HO0 := hide (Own.lit0 w w.heap.size (Nat.le_refl _))
    have HB0 := hide (below_new w (.cells #[] 3))
    go_enter Tryz.func254, Tryz.ntmps254
    go_wp2
    go_loopw [5, 6] (fun o i wr => i = .int .i64 0 ∧ o = .slice (some ⟨w.heap.size, 0, none⟩) 0 0 ∧ wr = w.alloc (.cells #[] 3)) (fun _ _ _ => 0)
    case atStart => exact ⟨rfl, rfl, rfl⟩
    case round =>
      obtain ⟨rfl, rfl, rfl⟩ := hrel
      by_cases hlt : 0 < n
      · have k1 : (0 : Int) < (n : Int) := by omega
        go_wp2_with fail
        refine (HV.out _ HB0.out).mono ?_
        rintro e w1 ⟨rfl, hb1⟩
        have HO1 := hide (HO0.out.below hb1)
        have HB1 := hide (HB0.out.trans (hb1.mono HB0.out.size))
        clear hb1
        go_wp2
        go_ret
        exact ⟨_, _, _, rfl, by rw [HM.out]; exact HO1.out, HB1.out⟩
      · obtain rfl : n = 0 := by omega
        go_wp2
        go_ret
        exact ⟨_, _, _, rfl, by rw [HM.out]; exact HO0.out, HB0.out⟩
  · rw [hv] at HV
    have HM : Hid (tierM ms q = blkP (inT ms q) 12) := by show _ = _; unfold tierM; rw [hv]; rfl
    have hn12 : n = 12 := HL.out.symm.trans (mpV_iff.1 hv).2
    subst hn12
    clear hv
    have HO0 := hide (Own.lit0 w w.heap.size (Nat.le_refl _))
    have HB0 := hide (below_new w (.cells #[] 3))
    go_enter Tryz.func254, Tryz.ntmps254
    go_wp2
    go_loopw [5, 6] (fun o i wr => ∃ (k m d : Nat) (X : Option Addr), k ≤ 12 ∧ m ≤ k ∧ i = .int .i64 k ∧ o = .slice X m d ∧ Hid (Own wr w.heap.size X m d (blkP (inT ms q) k)) ∧ Hid (Below w.heap.size w wr)) (fun _ i _ => 12 - (intOf i).toNat)
    case atStart => exact ⟨0, 0, 0, _, by omega, by omega, rfl, rfl, HO0.out, HB0.out⟩
    case round =>
      clear HO0 HB0
      obtain ⟨k, m, d, X, hk, hmk, rfl, rfl, HO, HB⟩ := hrel
      by_cases hlt : k < 12
      · obtain ⟨x, hx⟩ : ∃ x, ms[k]? = some x := ⟨_, List.getElem?_eq_getElem (by rw [HL.out]; exact hlt)⟩
        have HP := hide (inT_at hx q)
        have HAT := hide fun (W : World) (h : Below w.heap.size w W) => (HR.out.below h hB).at_ hx
        clear hx
        have k0 : (0 : Int) ≤ (k : Int) := by omega
        have k1 : (k : Int) < 12 := by omega
        have hsz := HB.out.size
        go_wp2_with fail
        refine (HV.out _ HB.out).mono ?_
        rintro e w1 ⟨rfl, hb1⟩
        have HO1 := hide (HO.out.below hb1)
        have HB1 := hide (HB.out.trans (hb1.mono hsz))
        have hsz1 := HB1.out.size
        clear hb1 HO HB hsz
        obtain ⟨ad, p, rfl, hp, hb, h0, h1, h2, h3, h4⟩ := HAT.out _ HB1.out
        obtain ⟨t, z, a, i, y⟩ := x
        dsimp only at h0 h1 h2 h3 h4 HP
        clear HAT h2 h3 h4
        by_cases ht : q = t
        · subst ht
          have HN := hide (blk_yes (p := inT ms q) (k := k) (by rw [HP.out]; simp []))
          go_wp2_with (at_builtin; refine wpList_append_ints rfl (.tmp 25) (.tmp 27) rfl w.heap.size m d (w1.heap.size + 1) 1 1 X (some ⟨w1.heap.size, 0, none⟩) (blkP (inT ms q) k) [(k : Int)] rfl (HO1.out.alloc _) rfl (Ints.one w1 (k : Int)) (by omega) (by simp; omega) ?_; intro A8 c8 w8 ho8 hg8 hat8; have HB8 := hide (below_app HB1.out hsz1 HO1.out (Nat.le_refl _) hg8); have HO8 := hide ho8; clear ho8 hg8 hat8)
          go_roundw
          case rel => exact ⟨k + 1, m + 1, _, _, by omega, by omega, by go_num, rfl, by show Own _ _ _ _ _ _; rw [HN.out]; exact HO8.out, HB8.out⟩
          case measure => simp [intOf]; omega
        · have ht' : (t == q) = false := by simpa using fun e => ht e.symm
          have HN := hide (blk_no (p := inT ms q) (k := k) (by rw [HP.out]; simp [show ¬ t = q from fun e => ht e.symm]))
          go_wp2
          go_roundw
          case rel => exact ⟨k + 1, _, _, _, by omega, by omega, by go_num, rfl, by show Own _ _ _ _ _ _; rw [HN.out]; exact HO1.out, HB1.out⟩
          case measure => simp [intOf]; omega
      · obtain rfl : k = 12 := by omega
        go_wp2
        go_ret
        exact ⟨_, _, _, rfl, by rw [HM.out]; exact HO.out, HB.out⟩
end Go.Proofs.YtfianpjoifcphaaGreat

/- ImpM2 -/
namespace Go.Proofs.YtfianpjoifcphaaGreat
open Go.RowKit
set_option linter.unusedVariables false
set_option maxRecDepth 100000

set_option maxHeartbeats 800000 in
theorem wantTier_any (x : Wh) (q : Int) (b : Nat) (w : World) (hb : w.cell? ⟨b, 0, none⟩ = some (.int .i64 q)) (hbw : b < w.heap.size) :
    Calls Tryz.prog 214 #[.agg #[.int .i64 x.1, .int .i64 x.2.1, .int .i64 x.2.2.1, .int .i64 x.2.2.2.1, .int .i64 x.2.2.2.2], .pointer (some ⟨b, 0, none⟩)] w fun e w' => e = .returned (.bool (decide (x.1 = q))) ∧ Below w.heap.size w w' := by
  obtain ⟨t, z, a, i, y⟩ := x
  dsimp only
  obtain ⟨W0, hW0⟩ : ∃ W0, w.alloc (.cells #[.int .i64 t, .int .i64 z, .int .i64 a, .int .i64 i, .int .i64 y] 141) = W0 := ⟨_, rfl⟩
  have HB := hide (show Below w.heap.size w W0 by rw [← hW0]; exact below_new w _)
  have hbk : Blk W0 w.heap.size 141 #[.int .i64 t, .int .i64 z, .int .i64 a, .int .i64 i, .int .i64 y] := by rw [← hW0]; exact Blk.new w _ _
  have c0 : W0.cell? ⟨w.heap.size, 0, none⟩ = some (.int .i64 t) := by rw [hbk.cell]; rfl
  have c2 : W0.cell? ⟨b, 0, none⟩ = some (.int .i64 q) := (HB.out.cell (p := ⟨b, 0, none⟩) hbw).trans hb
  clear hbk hb
  by_cases hz : q = t
  · subst hz
    go_enter Tryz.func214, Tryz.ntmps214
    go_wp2
    go_ret
    exact ⟨ret_bool (by simp), HB.out⟩
  · have hz' : (t == q) = false := by simpa using fun e => hz e.symm
    have HZ := hide fun e : t = q => hz e.symm
    clear hz
    go_enter Tryz.func214, Tryz.ntmps214
    go_wp2
    go_ret
    exact ⟨ret_bool (by simp [show ¬ t = q from HZ.out]), HB.out⟩
theorem inM_le (ms : List Wh) (z : Int) : (inM ms z).length ≤ 12 := by
  unfold inM
  split
  · exact blkP_le _ _
  · exact Nat.zero_le _
theorem tierM_le (ms : List Wh) (t : Int) : (tierM ms t).length ≤ 12 := by
  unfold tierM
  split
  · exact blkP_le _ _
  · exact Nat.zero_le _

set_option maxHeartbeats 3200000 in
theorem thatTier_any (A : Option Addr) (n c B b : Nat) (ms : List Wh) (q : Int) (w : World) (hr : MpI w B A n ms) (hB : B ≤ w.heap.size) (hn : n ≤ 1000000000) (hb : w.cell? ⟨b, 0, none⟩ = some (.int .i64 q)) (hbw : b < w.heap.size) :
    Calls Tryz.prog 213 #[.slice A n c, .func (.func 214) #[] #[.pointer (some ⟨b, 0, none⟩)]] w (ListPost w (tierM ms q)) := by
  have HR := hide hr
  have HL := hide hr.1
  have HV := hide (implMV A n c B ms w hr hB hn)
  have HBX := hide fun (W : World) (h : Below w.heap.size w W) => (h.cell (p := ⟨b, 0, none⟩) hbw).trans hb
  clear hr hb
  rcases hv : mpV ms with _ | _
  · rw [hv] at HV
    have HM : Hid (tierM ms q = []) := by show _ = _; unfold tierM; rw [hv]; rfl
    clear hv
    go_enter Tryz.func213, Tryz.ntmps213
    go_wp2_with fail
    refine HV.out.mono ?_
    rintro e w1 ⟨rfl, hb1⟩
    have HB1 := hide hb1
    clear hb1
    go_wp2
    go_ret
    exact ⟨_, _, _, rfl, by rw [HM.out]; exact Own.nil_ _ _, HB1.out⟩
  · rw [hv] at HV
    have HM : Hid (tierM ms q = blkP (inT ms q) 12) := by show _ = _; unfold tierM; rw [hv]; rfl
    have hn12 : n = 12 := HL.out.symm.trans (mpV_iff.1 hv).2
    subst hn12
    clear hv
    go_enter Tryz.func213, Tryz.ntmps213
    go_wp2_with fail
    refine HV.out.mono ?_
    rintro e w0 ⟨rfl, hb0⟩
    have HB0 := hide hb0
    clear hb0
    go_wp2
    go_loopw [5, 13] (fun o i wr => ∃ (k m d : Nat) (X : Option Addr), k ≤ 12 ∧ m ≤ k ∧ i = .int .i64 k ∧ o = .slice X m d ∧ Hid (Own wr w.heap.size X m d (blkP (inT ms q) k)) ∧ Hid (Below w.heap.size w wr)) (fun _ i _ => 12 - (intOf i).toNat)
    case atStart => exact ⟨0, 0, 0, none, by omega, by omega, rfl, rfl, Own.nil_ _ _, HB0.out⟩
    case round =>
      clear HB0
      obtain ⟨k, m, d, X, hk, hmk, rfl, rfl, HO, HB⟩ := hrel
      by_cases hlt : k < 12
      · obtain ⟨x, hx⟩ : ∃ x, ms[k]? = some x := ⟨_, List.getElem?_eq_getElem (by rw [HL.out]; exact hlt)⟩
        have HP := hide (inT_at hx q)
        obtain ⟨ad, p, rfl, hp, hpb, h0, h1, h2, h3, h4⟩ := (HR.out.below HB.out hB).at_ hx
        clear hx
        have k0 : (0 : Int) ≤ (k : Int) := by omega
        have k1 : (k : Int) < 12 := by omega
        have hsz := HB.out.size
        have HC := hide fun (W : World) (h : Below w.heap.size w W) => wantTier_any x q b W (HBX.out W h) (by have := h.size; omega)
        obtain ⟨t, z, a, i, y⟩ := x
        dsimp only at h0 h1 h2 h3 h4 HP HC
        have HOA := hide (HO.out.alloc (.cells #[.int .i64 t, .int .i64 z, .int .i64 a, .int .i64 i, .int .i64 y] 141))
        have HBA := hide (HB.out.alloc hsz (.cells #[.int .i64 t, .int .i64 z, .int .i64 a, .int .i64 i, .int .i64 y] 141))
        go_wp2_with fail
        refine (HC.out _ HBA.out).mono ?_
        rintro e w1 ⟨rfl, hb1⟩
        have HO1 := hide (HOA.out.below hb1)
        have HB1 := hide (HBA.out.trans (hb1.mono HBA.out.size))
        have hsz1 := HB1.out.size
        clear hb1 HO HB hsz HOA HBA HC h0 h1 h2 h3 h4
        rcases hw : (decide (t = q)) with _ | _
        · have HN := hide (blk_no (p := inT ms q) (k := k) (by rw [HP.out]; exact hw))
          clear hw HP
          go_wp2
          go_roundw
          case rel => exact ⟨k + 1, _, _, _, by omega, by omega, by go_num, rfl, by show Own _ _ _ _ _ _; rw [HN.out]; exact HO1.out, HB1.out⟩
          case measure => simp [intOf]; omega
        · have HN := hide (blk_yes (p := inT ms q) (k := k) (by rw [HP.out]; exact hw))
          clear hw HP
          go_wp2_with (at_builtin; refine wpList_append_ints rfl (.tmp 21) (.tmp 23) rfl w.heap.size m d (w1.heap.size + 1) 1 1 X (some ⟨w1.heap.size, 0, none⟩) (blkP (inT ms q) k) [(k : Int)] rfl (HO1.out.alloc _) rfl (Ints.one w1 (k : Int)) (by omega) (by simp; omega) ?_; intro A8 c8 w8 ho8 hg8 hat8; have HB8 := hide (below_app HB1.out hsz1 HO1.out (Nat.le_refl _) hg8); have HO8 := hide ho8; clear ho8 hg8 hat8)
          go_roundw
          case rel => exact ⟨k + 1, m + 1, _, _, by omega, by omega, by go_num, rfl, by show Own _ _ _ _ _ _; rw [HN.out]; exact HO8.out, HB8.out⟩
          case measure => simp [intOf]; omega
      · obtain rfl : k = 12 := by omega
        go_wp2
        go_ret
        exact ⟨_, _, _, rfl, by rw [HM.out]; exact HO.out, HB.out⟩

set_option maxHeartbeats 800000 in
theorem implMT (A : Option Addr) (n c B : Nat) (ms : List Wh) (q : Int) (w : World) (hr : MpI w B A n ms) (hB : B ≤ w.heap.size) (hn : n ≤ 1000000000) :
    Calls Tryz.prog 169 #[.slice A n c, .int .i64 q] w (ListPost w (tierM ms q)) := by
  have HB := hide (below_new w (.cells #[.int .i64 q] 3))
  have HC := hide (thatTier_any A n c B w.heap.size ms q (w.alloc (.cells #[.int .i64 q] 3)) (hr.alloc hB _) (Nat.le_trans hB HB.out.size) hn (by rw [(Blk.new w 3 #[.int .i64 q]).cell]; rfl) (by simp))
  clear hr
  go_enter Tryz.func169, Tryz.ntmps169
  go_wp2_with fail
  refine HC.out.mono ?_
  rintro e w1 ⟨A2, m, c2, rfl, ho, hb⟩
  have HO := hide (ho.mono HB.out.size)
  have HB1 := hide (HB.out.trans (hb.mono HB.out.size))
  clear ho hb
  go_wp2
  go_ret
  exact ⟨_, _, _, rfl, HO.out, HB1.out⟩
end Go.Proofs.YtfianpjoifcphaaGreat

/- IterP -/
namespace Go.Proofs.YtfianpjoifcphaaGreat
open Go.RowKit Go.Shelf
set_option linter.unusedVariables false
set_option maxRecDepth 100000

attribute [local go_sem] Oper.semAt_some

set_option maxHeartbeats 400000 in
theorem pairBlocks_any (A : Option Addr) (n c : Nat) (w : World) :
    Calls Tryz.prog 277 #[.slice A n c] w fun e w' => e = .returned (.func (.func 284) #[] #[.pointer (some ⟨w.heap.size, 0, none⟩)]) ∧ w' = w.alloc (.cells #[.slice A n c] 115) := by
  go_enter Tryz.func277, Tryz.ntmps277
  go_wp2
  go_ret
  exact ⟨rfl, rfl⟩

set_option maxHeartbeats 4000000 in
theorem pairBlocks_stops (A : Option Addr) (n c m Bs n₀ : Nat) (xs : List Int) (w : World) (hm : 1 ≤ m) (hBs : Bs < w.heap.size) (hn₀ : n₀ ≤ w.heap.size) (hc : w.cell? ⟨Bs, 0, none⟩ = some (.slice A n c)) (hI : Ints w n₀ A (n * 2) xs) (hn : n ≤ 1000000000) :
    SeqStopsK Fence.wide m Tryz.prog 284 #[.pointer (some ⟨Bs, 0, none⟩)] (fun x : Int => #[Value.int .i64 x]) (Below n₀) (fun ys => ys = blocksOf 2 xs n) (fun pre => pre <+: blocksOf 2 xs n) n w := fun l J Jx W hW hJ hJx hY h0 => by
  have hc' := (hW.cell (p := ⟨Bs, 0, none⟩) hBs).trans hc
  have HI := hide (hI.below (hW.mono hn₀) (Nat.le_refl _))
  have hn1 : n₀ ≤ W.heap.size := Nat.le_trans hn₀ hW.size
  clear hI hc
  refine callsIn_of_wp Tryz.func284 rfl trivial ?_ rfl
  simp only [Tryz.ntmps284, List.size_toArray, List.length_cons, List.length_nil, Nat.reduceAdd, Nat.reduceSub, Array.replicate_succ, Array.replicate_zero, List.push_toArray, List.append_toArray, List.nil_append, List.cons_append]
  gi_wp2
  gi_loopw [7] (fun i wr => ∃ k : Nat, k ≤ n ∧ i = .int .i64 k ∧ J (blocksOf 2 xs k) wr ∧ Below n₀ W wr) (fun i _ => n - (intOf i).toNat)
  case atStart => exact ⟨0, Nat.zero_le _, rfl, h0, Below.refl _ _⟩
  case round =>
    obtain ⟨k, hk, rfl, hJs, hB⟩ := hrel
    by_cases hlt : k < n
    · obtain ⟨ad, q, rfl, hq, hb, hc0, hc1⟩ := ints_at2 (HI.out.below hB (Nat.le_refl _)) hlt
      obtain ⟨x0, hx0⟩ : ∃ x, xs.getD (k * 2) 0 = x := ⟨_, rfl⟩
      rw [hx0] at hc0
      obtain ⟨x1, hx1⟩ : ∃ x, xs.getD (k * 2 + 1) 0 = x := ⟨_, rfl⟩
      rw [hx1] at hc1
      have hJa := hJ _ wr (wr.alloc (.cells #[.int .i64 x0, .int .i64 x1] 221)) none hJs (World.grownBy_alloc _ _ _) (by simp)
      obtain ⟨fn, tmps, assign, body, hy, hR⟩ := hY _ x0 _ hJa (by rw [blocksOf_length]; exact hlt)
      have HBA := hide (hB.alloc (Nat.le_trans hn1 hB.size) (.cells #[.int .i64 x0, .int .i64 x1] 221))
      have HX := hide hx0
      clear hx0 hx1 hB hJs
      gi_wp2
      refine hR.mono ?_
      rintro e W3 (⟨rfl, hJ3, hk3⟩ | ⟨rfl, hJx3⟩)
      · gi_wp2
        go_roundw
        case rel => exact ⟨k + 1, by omega, by go_num, by rw [blocksOf_succ, HX.out]; exact hJ3, HBA.out.trans hk3⟩
        case measure => simp [intOf]; omega
      · gi_wp2
        refine bodyPost_ret (results_none rfl _ _ _) rfl ?_
        exact ⟨⟨_, rfl⟩, .inr ⟨_, by rw [← HX.out, ← blocksOf_succ]; exact blocksOf_prefix _ _ (by omega), hJx3⟩⟩
    · obtain rfl : k = n := by omega
      gi_wp2
      go_end0
      exact ⟨⟨_, rfl⟩, .inl ⟨_, rfl, hJs⟩⟩
end Go.Proofs.YtfianpjoifcphaaGreat

/- ImplP -/
namespace Go.Proofs.YtfianpjoifcphaaGreat
open Go.RowKit Go.Shelf
set_option linter.unusedVariables false
set_option maxRecDepth 100000

set_option maxHeartbeats 3200000 in
theorem implValidP (A : Option Addr) (n c B : Nat) (xs : List Int) (w : World) (hr : Ints w B A (n * 2) xs) (hB : B ≤ w.heap.size) (hn : n ≤ 1000000000) :
    Calls Tryz.prog 261 #[.slice A n c] w fun e w' => e = .returned (.bool (validP xs n)) ∧ Below w.heap.size w w' := by
  have HR := hide hr
  have HB := hide hB
  clear hr
  by_cases h0 : n < 1
  · have HV := hide (validR_len (s := 2) (f := fldP) (xs := xs) (n := n) (mx := 9) (by simp [inB]; omega))
    go_enter Tryz.func261, Tryz.ntmps261
    go_wp2
    go_ret
    exact ⟨ret_bool HV.out.symm, Below.refl _ _⟩
  by_cases h9 : 9 < n
  · have HV := hide (validR_len (s := 2) (f := fldP) (xs := xs) (n := n) (mx := 9) (by simp [inB]; omega))
    go_enter Tryz.func261, Tryz.ntmps261
    go_wp2
    go_ret
    exact ⟨ret_bool HV.out.symm, Below.refl _ _⟩
  have HN := hide (inB_true (n := n) (lo := 1) (hi := 9) (by omega) (by omega))
  go_enter Tryz.func261, Tryz.ntmps261
  go_wp2_with fail
  go_loopw [15] (fun i wr => ∃ k : Nat, k ≤ n ∧ i = .int .i64 k ∧ Hid (vals fldP xs k = true) ∧ Hid (Below w.heap.size w wr)) (fun i _ => n - (intOf i).toNat)
  case atStart => exact ⟨0, Nat.zero_le _, rfl, rfl, Below.refl _ _⟩
  case round =>
    obtain ⟨k, hk, rfl, HV, HW⟩ := hrel
    by_cases hlt : k < n
    · obtain ⟨ad, q, rfl, hq, hb, hc0, hc1⟩ := ints_at2 (HR.out.below HW.out HB.out) hlt
      have hf := fldP_in xs k
      obtain ⟨x0, hx0⟩ : ∃ x, xs.getD (k * 2) 0 = x := ⟨_, rfl⟩
      rw [hx0] at hc0
      obtain ⟨x1, hx1⟩ : ∃ x, xs.getD (k * 2 + 1) 0 = x := ⟨_, rfl⟩
      rw [hx1] at hc1
      rw [hx1] at hf
      have HF := hide hf
      have hsz := HW.out.size
      have HBA := hide (HW.out.alloc hsz (.cells #[.int .i64 x0, .int .i64 x1] 221))
      clear hf hx0 hx1
      by_cases t0 : x1 < 0
      · have hbad : fldP xs k = false := by rw [HF.out]; simp [inB]; omega
        have HBAD := hide (validR_fld (s := 2) (mx := 9) (f := fldP) hlt hbad)
        clear hbad
        go_wp2
        go_ret
        exact ⟨ret_bool HBAD.out.symm, HBA.out⟩
      · by_cases t1 : 99 < x1
        · have hbad : fldP xs k = false := by rw [HF.out]; simp [inB]; omega
          have HBAD := hide (validR_fld (s := 2) (mx := 9) (f := fldP) hlt hbad)
          clear hbad
          go_wp2
          go_ret
          exact ⟨ret_bool HBAD.out.symm, HBA.out⟩
        · have hgood : fldP xs k = true := by rw [HF.out]; simp [inB]; omega
          have HG := hide (vals_succ HV.out hgood)
          clear hgood
          go_wp2
          go_roundw
          case rel => exact ⟨k + 1, by omega, by go_num, HG.out, HBA.out⟩
          case measure => simp [intOf]; omega
    · obtain rfl : k = n := by omega
      have HVA := hide (validR_asc (s := 2) HN.out HV.out)
      have HI := hide (HR.out.below HW.out HB.out)
      have hsz := HW.out.size
      go_wp2_with fail
      refine (pairBlocks_any A k c _).mono ?_
      rintro e w1 ⟨rfl, rfl⟩
      have HAS := hide (callsIn_wide.1 (ascend_in _ _ (blocksOf 2 xs k) wr.heap.size k 4 (Nat.le_refl _) (wr.alloc (.cells #[.slice A k c] 115)) (by simp) (enters_of Tryz.func284 (by kernel_rfl) rfl)
        (pairBlocks_stops A k c 3 wr.heap.size wr.heap.size xs _ (by omega) (by simp) (by simp) ((Blk.new wr 115 #[.slice A k c]).cell 0) ((HI.out.more (by omega)).alloc (Nat.le_refl _) _) (by omega))))
      rw [blocksOf_length, asc_blocks] at HAS
      go_wp2_with fail
      refine HAS.out.mono ?_
      rintro e w2 ⟨rfl, hb2⟩
      go_wp2
      go_ret
      exact ⟨ret_bool HVA.out.symm, (HW.out.alloc hsz _).trans (hb2.mono (by simp; omega))⟩

end Go.Proofs.YtfianpjoifcphaaGreat

/- IterC -/
namespace Go.Proofs.YtfianpjoifcphaaGreat
open Go.RowKit Go.Shelf
set_option linter.unusedVariables false
set_option maxRecDepth 100000

attribute [local go_sem] Oper.semAt_some

set_option maxHeartbeats 400000 in
theorem coldBlocks_any (A : Option Addr) (n c : Nat) (w : World) :
    Calls Tryz.prog 280 #[.slice A n c] w fun e w' => e = .returned (.func (.func 285) #[] #[.pointer (some ⟨w.heap.size, 0, none⟩)]) ∧ w' = w.alloc (.cells #[.slice A n c] 186) := by
  go_enter Tryz.func280, Tryz.ntmps280
  go_wp2
  go_ret
  exact ⟨rfl, rfl⟩

set_option maxHeartbeats 4000000 in
theorem coldBlocks_stops (A : Option Addr) (n c m Bs n₀ : Nat) (xs : List Int) (w : World) (hm : 1 ≤ m) (hBs : Bs < w.heap.size) (hn₀ : n₀ ≤ w.heap.size) (hc : w.cell? ⟨Bs, 0, none⟩ = some (.slice A n c)) (hI : Ints w n₀ A (n * 3) xs) (hn : n ≤ 1000000000) :
    SeqStopsK Fence.wide m Tryz.prog 285 #[.pointer (some ⟨Bs, 0, none⟩)] (fun x : Int => #[Value.int .i64 x]) (Below n₀) (fun ys => ys = blocksOf 3 xs n) (fun pre => pre <+: blocksOf 3 xs n) n w := fun l J Jx W hW hJ hJx hY h0 => by
  have hc' := (hW.cell (p := ⟨Bs, 0, none⟩) hBs).trans hc
  have HI := hide (hI.below (hW.mono hn₀) (Nat.le_refl _))
  have hn1 : n₀ ≤ W.heap.size := Nat.le_trans hn₀ hW.size
  clear hI hc
  refine callsIn_of_wp Tryz.func285 rfl trivial ?_ rfl
  simp only [Tryz.ntmps285, List.size_toArray, List.length_cons, List.length_nil, Nat.reduceAdd, Nat.reduceSub, Array.replicate_succ, Array.replicate_zero, List.push_toArray, List.append_toArray, List.nil_append, List.cons_append]
  gi_wp2
  gi_loopw [7] (fun i wr => ∃ k : Nat, k ≤ n ∧ i = .int .i64 k ∧ J (blocksOf 3 xs k) wr ∧ Below n₀ W wr) (fun i _ => n - (intOf i).toNat)
  case atStart => exact ⟨0, Nat.zero_le _, rfl, h0, Below.refl _ _⟩
  case round =>
    obtain ⟨k, hk, rfl, hJs, hB⟩ := hrel
    by_cases hlt : k < n
    · obtain ⟨ad, q, rfl, hq, hb, hc0, hc1, hc2⟩ := ints_at3 (HI.out.below hB (Nat.le_refl _)) hlt
      obtain ⟨x0, hx0⟩ : ∃ x, xs.getD (k * 3) 0 = x := ⟨_, rfl⟩
      rw [hx0] at hc0
      obtain ⟨x1, hx1⟩ : ∃ x, xs.getD (k * 3 + 1) 0 = x := ⟨_, rfl⟩
      rw [hx1] at hc1
      obtain ⟨x2, hx2⟩ : ∃ x, xs.getD (k * 3 + 2) 0 = x := ⟨_, rfl⟩
      rw [hx2] at hc2
      have hJa := hJ _ wr (wr.alloc (.cells #[.int .i64 x0, .int .i64 x1, .int .i64 x2] 228)) none hJs (World.grownBy_alloc _ _ _) (by simp)
      obtain ⟨fn, tmps, assign, body, hy, hR⟩ := hY _ x0 _ hJa (by rw [blocksOf_length]; exact hlt)
      have HBA := hide (hB.alloc (Nat.le_trans hn1 hB.size) (.cells #[.int .i64 x0, .int .i64 x1, .int .i64 x2] 228))
      have HX := hide hx0
      clear hx0 hx1 hx2 hB hJs
      gi_wp2
      refine hR.mono ?_
      rintro e W3 (⟨rfl, hJ3, hk3⟩ | ⟨rfl, hJx3⟩)
      · gi_wp2
        go_roundw
        case rel => exact ⟨k + 1, by omega, by go_num, by rw [blocksOf_succ, HX.out]; exact hJ3, HBA.out.trans hk3⟩
        case measure => simp [intOf]; omega
      · gi_wp2
        refine bodyPost_ret (results_none rfl _ _ _) rfl ?_
        exact ⟨⟨_, rfl⟩, .inr ⟨_, by rw [← HX.out, ← blocksOf_succ]; exact blocksOf_prefix _ _ (by omega), hJx3⟩⟩
    · obtain rfl : k = n := by omega
      gi_wp2
      go_end0
      exact ⟨⟨_, rfl⟩, .inl ⟨_, rfl, hJs⟩⟩
end Go.Proofs.YtfianpjoifcphaaGreat

/- ImplC -/
namespace Go.Proofs.YtfianpjoifcphaaGreat
open Go.RowKit Go.Shelf
set_option linter.unusedVariables false
set_option maxRecDepth 100000

set_option maxHeartbeats 3200000 in
theorem implValidC (A : Option Addr) (n c B : Nat) (xs : List Int) (w : World) (hr : Ints w B A (n * 3) xs) (hB : B ≤ w.heap.size) (hn : n ≤ 1000000000) :
    Calls Tryz.prog 264 #[.slice A n c] w fun e w' => e = .returned (.bool (validC xs n)) ∧ Below w.heap.size w w' := by
  have HR := hide hr
  have HB := hide hB
  clear hr
  by_cases h0 : n < 1
  · have HV := hide (validR_len (s := 3) (f := fldC) (xs := xs) (n := n) (mx := 6) (by simp [inB]; omega))
    go_enter Tryz.func264, Tryz.ntmps264
    go_wp2
    go_ret
    exact ⟨ret_bool HV.out.symm, Below.refl _ _⟩
  by_cases h9 : 6 < n
  · have HV := hide (validR_len (s := 3) (f := fldC) (xs := xs) (n := n) (mx := 6) (by simp [inB]; omega))
    go_enter Tryz.func264, Tryz.ntmps264
    go_wp2
    go_ret
    exact ⟨ret_bool HV.out.symm, Below.refl _ _⟩
  have HN := hide (inB_true (n := n) (lo := 1) (hi := 6) (by omega) (by omega))
  go_enter Tryz.func264, Tryz.ntmps264
  go_wp2_with fail
  go_loopw [15] (fun i wr => ∃ k : Nat, k ≤ n ∧ i = .int .i64 k ∧ Hid (vals fldC xs k = true) ∧ Hid (Below w.heap.size w wr)) (fun i _ => n - (intOf i).toNat)
  case atStart => exact ⟨0, Nat.zero_le _, rfl, rfl, Below.refl _ _⟩
  case round =>
    obtain ⟨k, hk, rfl, HV, HW⟩ := hrel
    by_cases hlt : k < n
    · obtain ⟨ad, q, rfl, hq, hb, hc0, hc1, hc2⟩ := ints_at3 (HR.out.below HW.out HB.out) hlt
      have hf := fldC_in xs k
      obtain ⟨x0, hx0⟩ : ∃ x, xs.getD (k * 3) 0 = x := ⟨_, rfl⟩
      rw [hx0] at hc0
      obtain ⟨x1, hx1⟩ : ∃ x, xs.getD (k * 3 + 1) 0 = x := ⟨_, rfl⟩
      rw [hx1] at hc1
      obtain ⟨x2, hx2⟩ : ∃ x, xs.getD (k * 3 + 2) 0 = x := ⟨_, rfl⟩
      rw [hx2] at hc2
      rw [hx1, hx2] at hf
      have HF := hide hf
      have hsz := HW.out.size
      have HBA := hide (HW.out.alloc hsz (.cells #[.int .i64 x0, .int .i64 x1, .int .i64 x2] 228))
      clear hf hx0 hx1 hx2
      by_cases t0 : x1 < 1
      · have hbad : fldC xs k = false := by rw [HF.out]; simp [inB]; omega
        have HBAD := hide (validR_fld (s := 3) (mx := 6) (f := fldC) hlt hbad)
        clear hbad
        go_wp2
        go_ret
        exact ⟨ret_bool HBAD.out.symm, HBA.out⟩
      · by_cases t1 : 999 < x1
        · have hbad : fldC xs k = false := by rw [HF.out]; simp [inB]; omega
          have HBAD := hide (validR_fld (s := 3) (mx := 6) (f := fldC) hlt hbad)
          clear hbad
          go_wp2
          go_ret
          exact ⟨ret_bool HBAD.out.symm, HBA.out⟩
        · by_cases t2 : x2 < 0
          · have hbad : fldC xs k = false := by rw [HF.out]; simp [inB]; omega
            have HBAD := hide (validR_fld (s := 3) (mx := 6) (f := fldC) hlt hbad)
            clear hbad
            go_wp2
            go_ret
            exact ⟨ret_bool HBAD.out.symm, HBA.out⟩
          · by_cases t3 : 6 ≤ x2
            · have hbad : fldC xs k = false := by rw [HF.out]; simp [inB]; omega
              have HBAD := hide (validR_fld (s := 3) (mx := 6) (f := fldC) hlt hbad)
              clear hbad
              go_wp2
              go_ret
              exact ⟨ret_bool HBAD.out.symm, HBA.out⟩
            · have hgood : fldC xs k = true := by rw [HF.out]; simp [inB]; omega
              have HG := hide (vals_succ HV.out hgood)
              clear hgood
              go_wp2
              go_roundw
              case rel => exact ⟨k + 1, by omega, by go_num, HG.out, HBA.out⟩
              case measure => simp [intOf]; omega
    · obtain rfl : k = n := by omega
      have HVA := hide (validR_asc (s := 3) HN.out HV.out)
      have HI := hide (HR.out.below HW.out HB.out)
      have hsz := HW.out.size
      go_wp2_with fail
      refine (coldBlocks_any A k c _).mono ?_
      rintro e w1 ⟨rfl, rfl⟩
      have HAS := hide (callsIn_wide.1 (ascend_in _ _ (blocksOf 3 xs k) wr.heap.size k 4 (Nat.le_refl _) (wr.alloc (.cells #[.slice A k c] 186)) (by simp) (enters_of Tryz.func285 (by kernel_rfl) rfl)
        (coldBlocks_stops A k c 3 wr.heap.size wr.heap.size xs _ (by omega) (by simp) (by simp) ((Blk.new wr 186 #[.slice A k c]).cell 0) ((HI.out.more (by omega)).alloc (Nat.le_refl _) _) (by omega))))
      rw [blocksOf_length, asc_blocks] at HAS
      go_wp2_with fail
      refine HAS.out.mono ?_
      rintro e w2 ⟨rfl, hb2⟩
      go_wp2
      go_ret
      exact ⟨ret_bool HVA.out.symm, (HW.out.alloc hsz _).trans (hb2.mono (by simp; omega))⟩

end Go.Proofs.YtfianpjoifcphaaGreat
