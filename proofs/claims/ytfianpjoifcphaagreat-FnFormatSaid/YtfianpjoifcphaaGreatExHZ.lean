/-
  The exact laws' helpers on zones: a count, copies, equality.
-/
import Derived.Test.YtfianpjoifcphaaGreatG1
import Derived.Deep.RegionHeld3
import Derived.Deep.DeepCutAuto
import Derived.Deep.CutBlock
namespace Go.Proofs.YtfianpjoifcphaaGreat
open Go.RowKit
set_option linter.unusedVariables false
set_option maxRecDepth 100000

theorem cells3 {w : World} {g : Nat} {t : TypeId} {a b c : Value} (h : Blk w g t #[a, b, c]) : w.cell? ⟨g, 0, none⟩ = some a ∧ w.cell? ⟨g, 1, none⟩ = some b ∧ w.cell? ⟨g, 2, none⟩ = some c :=
  ⟨by rw [h.cell]; rfl, by rw [h.cell]; rfl, by rw [h.cell]; rfl⟩
theorem undrewB {w w' : World} {i : Nat} (h : Below (w.drewN i).heap.size (w.drewN i) w') : Below w.heap.size w w' := ⟨h.os, h.tape, h.output, h.size, h.block⟩

set_option maxHeartbeats 800000 in
/-- a count: what is left, or -1 -/
theorem szInt_any (A : Option Addr) (n c : Nat) (l : Int) (w : World) (hn : n ≤ 9223372036854775807) (h0 : 0 ≤ l) (h1 : l ≤ 1048576) :
    Calls Tryz.prog 58 #[.slice A n c, .int .i64 l] w fun e w' => (∃ r : Int, e = .returned (.int .i64 r) ∧ r ≤ l ∧ -1 ≤ r ∧ (0 ≤ r → (n : Int) ≤ l)) ∧ w = w' := by
  by_cases h : l - (n : Int) < 0
  · go_enter Tryz.func58, Tryz.ntmps58
    go_wp2
    go_ret
    exact ⟨⟨-1, rfl, by omega, by omega, fun h2 => absurd h2 (by omega)⟩, rfl⟩
  · go_enter Tryz.func58, Tryz.ntmps58
    go_wp2
    go_ret
    exact ⟨⟨l - n, rfl, by omega, by omega, fun _ => by omega⟩, rfl⟩

set_option maxHeartbeats 1600000 in
theorem szZone_any (A : Option Addr) (n c : Nat) (sy : Int) (fu : Bool) (l : Int) (w : World) (hn : n ≤ 9223372036854775807) (h0 : 0 ≤ l) (h1 : l ≤ 1048576) :
    Calls Tryz.prog 117 #[.agg #[.slice A n c, .int .i64 sy, .bool fu], .int .i64 l] w fun e w' => ∃ r : Int, e = .returned (.int .i64 r) ∧ r ≤ l ∧ -1 ≤ r ∧ (0 ≤ r → (n : Int) ≤ l) ∧ Below w.heap.size w w' := by
  have HS := hide fun (W : World) => szInt_any A n c l W hn h0 h1
  go_enter Tryz.func117, Tryz.ntmps117
  go_wp2_with fail
  refine (HS.out _).mono ?_
  rintro e w1 ⟨⟨r, rfl, hr1, hr2, hr3⟩, rfl⟩
  by_cases h : r < 0
  · go_wp2
    go_ret
    exact ⟨-1, rfl, by omega, by omega, fun h2 => absurd h2 (by omega), below_box _ _⟩
  · go_wp2
    go_ret
    exact ⟨r, rfl, by omega, by omega, hr3, below_box _ _⟩

set_option maxHeartbeats 3200000 in
theorem szZoneS_any (A : Option Addr) (n c B : Nat) (qs : List Zq) (w : World) (hr : Zns w B A n qs) (hB : B ≤ w.heap.size) (hn : n ≤ c) (hc : c ≤ maxLen) :
    Calls Tryz.prog 55 #[.slice A n c, .int .i64 1048576] w fun e w' => ∃ r : Int, e = .returned (.int .i64 r) ∧ -1 ≤ r ∧ (0 ≤ r → n ≤ 1048576 ∧ ∀ q ∈ qs, q.words.length ≤ 1048576) ∧ Below w.heap.size w w' := by
  have hn' : n ≤ 9223372036854775807 := by unfold maxLen at hc; omega
  have HR := hide hr
  clear hr
  by_cases h : (1048576 : Int) - (n : Int) < 0
  · go_enter Tryz.func55, Tryz.ntmps55
    go_wp2
    go_ret
    exact ⟨-1, rfl, by omega, fun h2 => absurd h2 (by omega), Below.refl _ _⟩
  · go_enter Tryz.func55, Tryz.ntmps55
    go_wp2
    go_loopw [1, 5] (fun s i wr => ∃ (k : Nat) (l : Int), k ≤ n ∧ i = .int .i64 k ∧ s = .int .i64 l ∧ 0 ≤ l ∧ l ≤ 1048576 ∧ Hid (∀ q ∈ qs.take k, q.words.length ≤ 1048576) ∧ Hid (Below w.heap.size w wr)) (fun _ i _ => n - (intOf i).toNat)
    case atStart => exact ⟨0, _, Nat.zero_le _, rfl, rfl, by omega, by omega, (fun q hq => absurd hq (by simp)), Below.refl _ _⟩
    case round =>
      obtain ⟨k, l, hk, rfl, rfl, hl0, hl1, HQ, HB⟩ := hrel
      have hs := HB.out.size
      by_cases hlt : k < n
      · obtain ⟨q, hq⟩ : ∃ q, qs[k]? = some q := ⟨_, List.getElem?_eq_getElem (by rw [HR.out.1]; exact hlt)⟩
        have hR := HR.out.below HB.out hB
        obtain ⟨ad, p, rfl, hp, hb, hc0, hc1, hc2⟩ := hR.at_ hq
        obtain ⟨hi, hle, hcm⟩ := hR.words hq
        have HT := hide (show qs.take (k + 1) = qs.take k ++ [q] by rw [List.take_add_one, hq]; rfl)
        have hqm : q.words.length ≤ 9223372036854775807 := by have := hcm; unfold maxLen at this; omega
        have HSZ := hide fun (W : World) => szZone_any q.addr q.words.length q.cap q.synced q.full l W hqm hl0 hl1
        simp only [Zq.sl] at hc0
        have k0 : (0 : Int) ≤ (k : Int) := by omega
        have k1 : (k : Int) < (n : Int) := by omega
        clear hq hR hi hle hcm
        go_wp2_with fail
        refine (HSZ.out _).mono ?_
        rintro e w1 ⟨r, rfl, hr1, hr2, hr3, hb1⟩
        have HB1 := hide (HB.out.trans (hb1.mono hs))
        clear hb1
        by_cases hneg : r < 0
        · go_wp2
          go_ret
          exact ⟨-1, rfl, by omega, fun h2 => absurd h2 (by omega), HB1.out⟩
        · have HQ1 : Hid (∀ q ∈ qs.take (k + 1), q.words.length ≤ 1048576) := by
            intro z hz
            rw [HT.out] at hz
            rcases List.mem_append.1 hz with hz | hz
            · exact HQ.out z hz
            · simp at hz
              subst hz
              have := hr3 (by omega)
              omega
          go_wp2
          go_roundw
          case rel => exact ⟨k + 1, _, by omega, by go_num, rfl, by omega, by omega, HQ1.out, HB1.out⟩
          case measure => simp [intOf]; omega
      · obtain rfl : k = n := by omega
        have HF := hide (show ∀ q ∈ qs, q.words.length ≤ 1048576 from fun q hq => HQ.out q (by rw [List.take_of_length_le (by rw [HR.out.1]; exact Nat.le_refl _)]; exact hq))
        go_wp2
        go_ret
        exact ⟨l, rfl, by omega, fun _ => ⟨by omega, HF.out⟩, HB.out⟩

/-- a zone by value, its words in a new row -/
def ZonePost (w : World) (n : Nat) (ws : List Int) (sy : Int) (fu : Bool) (e : Ending) (w' : World) : Prop :=
  ∃ A2 c2, e = .returned (.agg #[.slice A2 n c2, .int .i64 sy, .bool fu]) ∧ Own w' w.heap.size A2 n c2 ws ∧ Below w.heap.size w w'

theorem alloc_size1 (w : World) (o : Obj) : (w.alloc o).heap.size = w.heap.size + 1 := by simp
theorem gr3 (w : World) (g i j k : Nat) (a b c : Value) : w.grownBy (((w.setCell ⟨g, i, none⟩ a).setCell ⟨g, j, none⟩ b).setCell ⟨g, k, none⟩ c) (some g) := by
  have s : ∀ (w0 w1 : World) (i : Nat) (u : Value), w0.grownBy w1 (some g) → w0.grownBy (w1.setCell ⟨g, i, none⟩ u) (some g) := fun w0 w1 i u h =>
    ⟨h.os, h.tape, h.output, by simpa [World.setCell] using h.size, fun q hq hne => (Below.heap_setCell w1 ⟨g, i, none⟩ u q (fun e => hne (by rw [e]))).trans (h.block q hq hne)⟩
  exact s _ _ _ _ (s _ _ _ _ (s _ _ _ _ (grown_refl w _)))

set_option maxHeartbeats 3200000 in
theorem toZone_any (A : Option Addr) (n c B : Nat) (sy : Int) (fu : Bool) (ws : List Int) (w : World) (hi : Ints w B A n ws) (hB : B ≤ w.heap.size) (hn : n ≤ 17592186044416) :
    Calls Tryz.prog 130 #[.agg #[.slice A n c, .int .i64 sy, .bool fu]] w (ZonePost w n ws sy fu) := by
  have HI := hide hi
  have HL := hide hi.1
  have HTI := hide fun (W : World) (h : Below w.heap.size w W) => toInts_any A n c B ws W (hi.below h hB) (by have := h.size; omega) hn
  clear hi
  go_enter Tryz.func130, Tryz.ntmps130
  have HB3 := hide ((((below_box w (.cells #[.slice A n c, .int .i64 sy, .bool fu] 165)).alloc (by simp) (.cells #[.slice none 0 0, .int .i64 0, .bool false] 69)).alloc (by simp; omega) (.cells #[.slice none 0 0, .int .i64 0, .bool false] 69)))
  have HK0 := hide (((Blk.new w 165 #[.slice A n c, .int .i64 sy, .bool fu]).alloc (.cells #[.slice none 0 0, .int .i64 0, .bool false] 69)).alloc (.cells #[.slice none 0 0, .int .i64 0, .bool false] 69))
  go_wp2_with fail
  refine (HTI.out _ HB3.out).mono ?_
  rintro e w1 ⟨A2, c2, rfl, ho1, hb1⟩
  have hn0 : ws.length = n := HL.out
  have HBa := hide (((((Blk.new w 165 #[.slice A n c, .int .i64 sy, .bool fu]).alloc (.cells #[.slice none 0 0, .int .i64 0, .bool false] 69)).alloc (.cells #[.slice none 0 0, .int .i64 0, .bool false] 69))).below hb1 (by simp; omega))
  have HBr := hide ((((Blk.new (w.alloc (.cells #[.slice A n c, .int .i64 sy, .bool fu] 165)) 69 #[.slice none 0 0, .int .i64 0, .bool false]).alloc (.cells #[.slice none 0 0, .int .i64 0, .bool false] 69))).below hb1 (by simp))
  have HBo := hide ((Blk.new ((w.alloc (.cells #[.slice A n c, .int .i64 sy, .bool fu] 165)).alloc (.cells #[.slice none 0 0, .int .i64 0, .bool false] 69)) 69 #[.slice none 0 0, .int .i64 0, .bool false]).below hb1 (by simp))
  simp only [alloc_size1] at HBr HBo
  obtain ⟨a0, a1, a2⟩ := cells3 HBa.out
  obtain ⟨r0, r1, r2⟩ := cells3 HBr.out
  obtain ⟨o0, o1, o2⟩ := cells3 HBo.out
  have fo0 := HBo.out.frozen 0
  have fo1 := HBo.out.frozen 1
  have fo2 := HBo.out.frozen 2
  have fr0 := HBr.out.frozen 0
  have fr1 := HBr.out.frozen 1
  have fr2 := HBr.out.frozen 2
  have HEND : Hid (∀ (x y z x' y' z' : Value), Own ((((((w1.setCell ⟨w.heap.size + 1 + 1, 0, none⟩ x).setCell ⟨w.heap.size + 1 + 1, 1, none⟩ y).setCell ⟨w.heap.size + 1 + 1, 2, none⟩ z).setCell ⟨w.heap.size + 1, 0, none⟩ x').setCell ⟨w.heap.size + 1, 1, none⟩ y').setCell ⟨w.heap.size + 1, 2, none⟩ z') w.heap.size A2 n c2 ws ∧
      Below w.heap.size w ((((((w1.setCell ⟨w.heap.size + 1 + 1, 0, none⟩ x).setCell ⟨w.heap.size + 1 + 1, 1, none⟩ y).setCell ⟨w.heap.size + 1 + 1, 2, none⟩ z).setCell ⟨w.heap.size + 1, 0, none⟩ x').setCell ⟨w.heap.size + 1, 1, none⟩ y').setCell ⟨w.heap.size + 1, 2, none⟩ z')) := by
    intro x y z x' y' z'
    have g1 := gr3 w1 (w.heap.size + 1 + 1) 0 1 2 x y z
    have g2 := gr3 (((w1.setCell ⟨w.heap.size + 1 + 1, 0, none⟩ x).setCell ⟨w.heap.size + 1 + 1, 1, none⟩ y).setCell ⟨w.heap.size + 1 + 1, 2, none⟩ z) (w.heap.size + 1) 0 1 2 x' y' z'
    have hbl := fun g e => (ho1.block g e).1
    simp only [alloc_size1] at hbl
    have k1 := ho1.kept g1 (fun b hb => by injection hb with hb; subst hb; intro e; have := hbl _ e; omega)
    have k2 := k1.kept g2 (fun b hb => by injection hb with hb; subst hb; intro e; have := hbl _ e; omega)
    have hB1 := HB3.out.trans (hb1.mono (by simp; omega))
    have s1 := hB1.size
    exact ⟨k2.mono (by simp; omega), (hB1.grown g1 s1 (fun b hb => by injection hb with hb; omega)).grown g2 (Nat.le_trans s1 g1.size) (fun b hb => by injection hb with hb; omega)⟩
  clear ho1 hb1 HTI HI HB3 HK0 HL HBa HBr HBo hn0
  go_wp2
  refine bodyPost_ret (v := .agg #[.slice A2 n c2, .int .i64 sy, .bool fu]) (by simp [results, Tryz.results130, go_sem, r0, r1, r2]) rfl ?_
  exact ⟨A2, c2, rfl, (HEND.out _ _ _ _ _ _).1, (HEND.out _ _ _ _ _ _).2⟩

set_option maxHeartbeats 1600000 in
theorem eqZone_yes (A A' : Option Addr) (n c d B B' : Nat) (sy : Int) (fu : Bool) (ws : List Int) (w : World) (hx : Ints w B A n ws) (hy : Ints w B' A' n ws) (hB : B ≤ w.heap.size) (hB' : B' ≤ w.heap.size) (hn : n ≤ maxLen) :
    Calls Tryz.prog 137 #[.agg #[.slice A n c, .int .i64 sy, .bool fu], .agg #[.slice A' n d, .int .i64 sy, .bool fu]] w fun e w' => e = .returned (.bool true) ∧ Below w.heap.size w w' := by
  have HX := hide fun (o o' : Obj) => (hx.alloc hB o).alloc (by simp; omega) o'
  have HY := hide fun (o o' : Obj) => (hy.alloc hB' o).alloc (by simp; omega) o'
  have HB := hide fun (o o' : Obj) => ((below_box w o).alloc (by simp) o' : Below w.heap.size w ((w.alloc o).alloc o'))
  have HA := hide (Blk.new w 69 #[.slice A n c, .int .i64 sy, .bool fu])
  clear hx hy
  go_enter Tryz.func137, Tryz.ntmps137
  go_wp2_with fail
  refine (eqIntS_yes A A' n c n d B B' ws ws _ (HX.out _ _) (HY.out _ _) hn hn rfl).mono ?_
  rintro e w1 ⟨rfl, q, rfl⟩
  rcases fu with _ | _
  all_goals
    go_wp2
    go_ret
    exact ⟨rfl, below_drewN (HB.out _ _) q⟩

set_option maxHeartbeats 3200000 in
theorem eqZoneS_yes (A A' : Option Addr) (n c d B B' : Nat) (qs rs : List Zq) (w : World) (hx : Zns w B A n qs) (hy : Zns w B' A' n rs) (hB : B ≤ w.heap.size) (hB' : B' ≤ w.heap.size) (hn : n ≤ maxLen) (h : zns qs = zns rs) :
    Calls Tryz.prog 70 #[.slice A n c, .slice A' n d] w fun e w' => e = .returned (.bool true) ∧ Below w.heap.size w w' := by
  have HX := hide hx
  have HY := hide hy
  have HE := hide h
  unfold maxLen at hn
  clear hx hy h
  go_enter Tryz.func70, Tryz.ntmps70
  go_wp2
  go_loopw [5] (fun i wr => ∃ (k : Nat), k ≤ n ∧ i = .int .i64 k ∧ Hid (Below w.heap.size w wr)) (fun i _ => n - (intOf i).toNat)
  case atStart => exact ⟨0, Nat.zero_le _, rfl, Below.refl _ _⟩
  case round =>
    obtain ⟨k, hk, rfl, HB⟩ := hrel
    have hs := HB.out.size
    by_cases hlt : k < n
    · obtain ⟨q, hq⟩ : ∃ q, qs[k]? = some q := ⟨_, List.getElem?_eq_getElem (by rw [HX.out.1]; exact hlt)⟩
      obtain ⟨r, hr⟩ : ∃ r, rs[k]? = some r := ⟨_, List.getElem?_eq_getElem (by rw [HY.out.1]; exact hlt)⟩
      have her : r.zn = q.zn := by
        have h1 : (zns qs)[k]? = some q.zn := by unfold zns; rw [List.getElem?_map, hq]; rfl
        have h2 : (zns rs)[k]? = some r.zn := by unfold zns; rw [List.getElem?_map, hr]; rfl
        rw [HE.out, h2] at h1
        injection h1
      have hX := HX.out.below HB.out hB
      have hY := HY.out.below HB.out hB'
      obtain ⟨ad, p, rfl, hp, hb, hc0, hc1, hc2⟩ := hX.at_ hq
      obtain ⟨ad', p', rfl, hp', hb', hd0, hd1, hd2⟩ := hY.at_ hr
      obtain ⟨hi, hle, hcm⟩ := hX.words hq
      obtain ⟨hi', hle', hcm'⟩ := hY.words hr
      clear hq hr hX hY
      obtain ⟨ws, sy, fu, qa, qc⟩ := q
      obtain ⟨ws', sy', fu', ra, rc⟩ := r
      unfold Zq.zn at her
      injection her with h1 h2
      injection h2 with h2 h3
      subst h1
      subst h2
      subst h3
      simp only [Zq.sl] at hc0 hc1 hc2 hi hle hcm hd0 hd1 hd2 hi' hle' hcm'
      generalize ws'.length = m at hc0 hi hle hd0 hi' hle'
      have HSZ := hide fun (i : Nat) => eqZone_yes qa ra m qc rc B B' sy' fu' ws' (wr.drewN i) (hi.drewN i) (hi'.drewN i) (Nat.le_trans hB hs) (Nat.le_trans hB' hs) (by omega)
      have k0 : (0 : Int) ≤ (k : Int) := by omega
      have k1 : (k : Int) < (n : Int) := by omega
      clear hi hi' hle hle' hcm hcm'
      have hbp : p.block < wr.heap.size := by omega
      have hbp' : p'.block < wr.heap.size := by omega
      go_upto_region 6 with (fail)
      go_region_held3 (fun W => W.cell? p = some (.slice qa m qc) ∧ W.cell? ⟨p.block, p.off + 1, none⟩ = some (.int .i64 sy') ∧ W.cell? ⟨p.block, p.off + 2, none⟩ = some (.bool fu') ∧
          W.cell? p' = some (.slice ra m rc) ∧ W.cell? ⟨p'.block, p'.off + 1, none⟩ = some (.int .i64 sy') ∧ W.cell? ⟨p'.block, p'.off + 2, none⟩ = some (.bool fu'))
        (first
          | go_keep
          | (exact ⟨(hb1.cell (p := p) hbp).trans hc0, (hb1.cell (p := ⟨p.block, p.off + 1, none⟩) hbp).trans hc1, (hb1.cell (p := ⟨p.block, p.off + 2, none⟩) hbp).trans hc2,
              (hb1.cell (p := p') hbp').trans hd0, (hb1.cell (p := ⟨p'.block, p'.off + 1, none⟩) hbp').trans hd1, (hb1.cell (p := ⟨p'.block, p'.off + 2, none⟩) hbp').trans hd2⟩))
        ((first
          | (go_at_call 137; refine (HSZ.out 1).mono ?_; rintro e w1 ⟨rfl, hb1'⟩; have hb1 := undrewB (i := 1) hb1'; clear hb1')))
      all_goals
        have HB1 := hide (HB.out.trans (hb1.mono hs))
        clear hb1
        go_wp2
        go_roundw
        case rel => exact ⟨k + 1, by omega, by go_num, HB1.out⟩
        case measure => simp [intOf]; omega
    · obtain rfl : k = n := by omega
      go_wp2
      go_ret
      exact ⟨rfl, HB.out⟩
end Go.Proofs.YtfianpjoifcphaaGreat
