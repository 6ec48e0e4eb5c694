/-
  Drawn layers: l93Layers; the drawn arguments of the laws on layers.
-/
import Derived.Test.YtapfbkjgmfmepaaDrawY1
namespace Go.Proofs.Ytapfbkjgmfmepaa
open Go.RowKit
set_option linter.unusedVariables false
set_option maxRecDepth 100000

/-- what l93Layers knows at each step -/
structure KM2 (w0 w : World) (R : Nat) (p : Int) (A : Option Addr) (n c : Nat) (qs : List Lq) : Prop where
  rd : Rd w R p
  rlt : R < w0.heap.size
  own : OwnL w w0.heap.size A n c qs
  len : ∀ q ∈ qs, q.ps.length ≤ 12
  grown : w0.grownBy w (some R)
theorem KM2.pick {w0 w w' : World} {R n c : Nat} {p p' : Int} {A : Option Addr} {qs : List Lq} (h : KM2 w0 w R p A n c qs) (hr : Rd w' R p') (hg : w.grownBy w' (some R)) : KM2 w0 w' R p' A n c qs :=
  { rd := hr, rlt := h.rlt, len := h.len, own := h.own.old hg h.rlt, grown := grown_trans' h.grown hg }
/-- what is handed back -/
def DrawnLys (w0 : World) (R : Nat) (p : Int) (e : Ending) (w' : World) : Prop :=
  ∃ (A : Option Addr) (n c : Nat) (qs : List Lq) (p' : Int), e = .returned (.slice A n c) ∧ n ≤ 6 ∧ p ≤ p' ∧ p' ≤ p + 300 ∧ KM2 w0 w' R p' A n c qs

set_option maxHeartbeats 6400000 in
theorem layers93_any (R : Nat) (p : Int) (w : World) (hr : Rd w R p) (hp : p < 10000) :
    Calls Try.prog 45 #[.pointer (some ⟨R, 0, none⟩)] w (DrawnLys w R p) := by
  have HK0 : Hid (KM2 w (w.alloc (.cells #[] 27)) R p (some ⟨w.heap.size, 0, none⟩) 0 0 []) :=
    { rd := hr.alloc _, rlt := hr.lt, own := OwnL.lit0 w _ (Nat.le_refl _), len := by simp, grown := grown_alloc (grown_refl w _) _ }
  have hp0 := hr.1
  clear hr
  go_enter Try.func45, Try.ntmps45
  go_wp2_with fail
  refine (pick_any R p 5 _ HK0.out.rd (by omega) (by omega)).mono ?_
  rintro e w1 ⟨v1, rfl, hv10, hv11, hr1, hg1⟩
  have HK1 := hide (HK0.out.pick hr1 hg1)
  obtain ⟨M, hM⟩ : ∃ M : Nat, 1 + v1 = (M : Int) := ⟨(1 + v1).toNat, by omega⟩
  have y1 : IntKind.i64.wrap (1 + v1) = (M : Int) := by rw [hM]; exact IntWalk.i64_in _ (by omega)
  clear hr1 hg1 HK0
  go_wp2_with fail
  refine (pick_any R _ 20 _ HK1.out.rd (by omega) (by omega)).mono ?_
  rintro e w2 ⟨v2, rfl, hv20, hv21, hr2, hg2⟩
  have HK2 := hide (HK1.out.pick hr2 hg2)
  clear hr2 hg2 HK1
  by_cases h2 : v2 = 0
  · subst h2
    go_wp2_with fail
    refine (pick_any R _ 2 _ HK2.out.rd (by omega) (by omega)).mono ?_
    rintro e w3 ⟨v3, rfl, hv30, hv31, hr3, hg3⟩
    have HK3 := hide (HK2.out.pick hr3 hg3)
    obtain ⟨M3, hM3⟩ : ∃ M : Nat, v3 * 6 = (M : Int) := ⟨(v3 * 6).toNat, by omega⟩
    have y3 : IntKind.i64.wrap (v3 * 6) = (M3 : Int) := by rw [hM3]; exact IntWalk.i64_in _ (by omega)
    clear hr3 hg3 HK2 y1
    go_wp2_with fail
    go_loopw [3, 5] (fun s i wr => ∃ (k c : Nat) (Ao : Option Addr) (qs : List Lq) (q : Int), k ≤ M3 ∧ i = .int .i64 k ∧ s = .slice Ao k c ∧ p ≤ q ∧ q ≤ p + 5 + 40 * k ∧ Hid (KM2 w wr R q Ao k c qs)) (fun _ i _ => M3 - (intOf i).toNat)
    case atStart => exact ⟨0, 0, _, [], _, by omega, rfl, rfl, by omega, by omega, HK3.out⟩
    case round =>
      obtain ⟨k, c, Ao, qs, q, hk, rfl, rfl, hq0, hq1, HK⟩ := hrel
      by_cases hlt : k < M3
      · have k0 : (0 : Int) ≤ (k : Int) := by omega
        have k1 : (k : Int) < (M3 : Int) := by omega
        go_wp2_with fail
        refine (layer93_any R q wr HK.out.rd (by omega)).mono ?_
        rintro e w7 ⟨A7, m, c7, ps, q7, rfl, hm, hq70, hq71, hk7⟩
        have hs7 := HK.out.grown.size
        have ho7 := HK.out.own.old hk7.grown HK.out.rlt
        obtain rfl := hk7.own.1
        have HNEW := hide (NewL.one ho7 (q := ⟨ps, A7, c7⟩) (hk7.own.mono hs7) (fun j r hj g2 hg hg' => by
          have h1 := (HK.out.own.wblock hj g2 hg).2
          have h2 := (hk7.own.block g2 hg').1
          omega))
        have HR7 := hide hk7.rd
        have HG7 := hide (grown_trans' HK.out.grown hk7.grown)
        have HB7 := hide fun g hg => (HK.out.own.block g hg).1
        have HLT := hide HK.out.rlt
        have HLN := hide HK.out.len
        have hs8 := HG7.out.size
        clear ho7 hk7 HK
        go_wp2_with (at_builtin; refine wpList_append_lys rfl (.tmp 21) (.tmp 24) rfl w.heap.size k c 1 1 Ao (some ⟨w7.heap.size, 0, none⟩) qs [⟨ps, A7, c7⟩] rfl rfl HNEW.out (by omega) (by simp; omega) ?_; intro A8 c8 w8 ho8 hg8 hat8; clear hat8)
        have HK8 := hide (show KM2 w w8 R q7 A8 (k + 1) c8 (qs ++ [⟨ps, A7, c7⟩]) from
          { rd := (HR7.out.alloc _).grown hg8 (fun b hb => by have := HB7.out b hb; have := HLT.out; omega), rlt := HLT.out, own := ho8, len := fun r hr => by
              rcases List.mem_append.1 hr with hr | hr
              · exact HLN.out r hr
              · rw [List.mem_singleton] at hr; subst hr; exact hm
            grown := grown_own (grown_alloc HG7.out _) hg8 (fun b hb => HB7.out b hb) })
        clear ho8 hg8
        go_wp2
        go_roundw
        case rel => exact ⟨k + 1, c8, A8, _, q7, by omega, by go_num, rfl, by omega, by omega, HK8.out⟩
        case measure => simp [intOf]; omega
      · obtain rfl : k = M3 := by omega
        go_wp2
        go_ret
        exact ⟨_, _, _, _, _, rfl, by omega, by omega, by omega, HK.out⟩
  · have h2' : (v2 == 0) = false := by simpa using h2
    go_wp2_with fail
    go_loopw [3, 5] (fun s i wr => ∃ (k c : Nat) (Ao : Option Addr) (qs : List Lq) (q : Int), k ≤ M ∧ i = .int .i64 k ∧ s = .slice Ao k c ∧ p ≤ q ∧ q ≤ p + 5 + 40 * k ∧ Hid (KM2 w wr R q Ao k c qs)) (fun _ i _ => M - (intOf i).toNat)
    case atStart => exact ⟨0, 0, _, [], _, by omega, rfl, rfl, by omega, by omega, HK2.out⟩
    case round =>
      obtain ⟨k, c, Ao, qs, q, hk, rfl, rfl, hq0, hq1, HK⟩ := hrel
      by_cases hlt : k < M
      · have k0 : (0 : Int) ≤ (k : Int) := by omega
        have k1 : (k : Int) < (M : Int) := by omega
        go_wp2_with fail
        refine (layer93_any R q wr HK.out.rd (by omega)).mono ?_
        rintro e w7 ⟨A7, m, c7, ps, q7, rfl, hm, hq70, hq71, hk7⟩
        have hs7 := HK.out.grown.size
        have ho7 := HK.out.own.old hk7.grown HK.out.rlt
        obtain rfl := hk7.own.1
        have HNEW := hide (NewL.one ho7 (q := ⟨ps, A7, c7⟩) (hk7.own.mono hs7) (fun j r hj g2 hg hg' => by
          have h1 := (HK.out.own.wblock hj g2 hg).2
          have h2 := (hk7.own.block g2 hg').1
          omega))
        have HR7 := hide hk7.rd
        have HG7 := hide (grown_trans' HK.out.grown hk7.grown)
        have HB7 := hide fun g hg => (HK.out.own.block g hg).1
        have HLT := hide HK.out.rlt
        have HLN := hide HK.out.len
        have hs8 := HG7.out.size
        clear ho7 hk7 HK
        go_wp2_with (at_builtin; refine wpList_append_lys rfl (.tmp 21) (.tmp 24) rfl w.heap.size k c 1 1 Ao (some ⟨w7.heap.size, 0, none⟩) qs [⟨ps, A7, c7⟩] rfl rfl HNEW.out (by omega) (by simp; omega) ?_; intro A8 c8 w8 ho8 hg8 hat8; clear hat8)
        have HK8 := hide (show KM2 w w8 R q7 A8 (k + 1) c8 (qs ++ [⟨ps, A7, c7⟩]) from
          { rd := (HR7.out.alloc _).grown hg8 (fun b hb => by have := HB7.out b hb; have := HLT.out; omega), rlt := HLT.out, own := ho8, len := fun r hr => by
              rcases List.mem_append.1 hr with hr | hr
              · exact HLN.out r hr
              · rw [List.mem_singleton] at hr; subst hr; exact hm
            grown := grown_own (grown_alloc HG7.out _) hg8 (fun b hb => HB7.out b hb) })
        clear ho8 hg8
        go_wp2
        go_roundw
        case rel => exact ⟨k + 1, c8, A8, _, q7, by omega, by go_num, rfl, by omega, by omega, HK8.out⟩
        case measure => simp [intOf]; omega
      · obtain rfl : k = M := by omega
        go_wp2
        go_ret
        exact ⟨_, _, _, _, _, rfl, by omega, by omega, by omega, HK.out⟩

theorem grown_after_DrawY2 {w w1 w2 : World} (hb : Below w.heap.size w w1) (hg : w1.grownBy w2 (some w.heap.size)) : Below w.heap.size w w2 :=
  hb.trans (below_of_grown' hg hb.size (by intro q hq; injection hq with hq; omega))
/-- drawn layers -/
structure LyDrawn (w0 w' : World) (A : Option Addr) (n c : Nat) (qs : List Lq) : Prop where
  lyi : LyI w' w'.heap.size A n qs
  num : n ≤ 6
  len : ∀ q ∈ qs, q.ps.length ≤ 12
  nc : n ≤ c
  cm : c ≤ maxLen
  below : Below w0.heap.size w0 w'
theorem KM2.drawn {w0 w1 w' : World} {R n c : Nat} {p : Int} {A : Option Addr} {qs : List Lq} (h : KM2 w1 w' R p A n c qs) (hn : n ≤ 6) (hR : R = w0.heap.size) (hb : Below w0.heap.size w0 w1) : LyDrawn w0 w' A n c qs :=
  { lyi := h.own.lyi, num := hn, len := h.len, nc := h.own.cap.1, cm := h.own.cap.2, below := grown_after_DrawY2 hb (hR ▸ h.grown) }

set_option maxHeartbeats 800000 in
theorem drawLyV_any (A : Option Addr) (n c : Nat) (bs : Nat → Int) (w : World) (hb : Bytes w w.heap.size A n bs) (hn : n ≤ c) (hc : c ≤ maxLen) :
    Calls Try.prog 33 #[.slice A n c] w fun e w' => ∃ A2 m c2 qs, e = .returned (.slice A2 m c2) ∧ LyDrawn w w' A2 m c2 qs := by
  go_enter Try.func33, Try.ntmps33
  go_wp2_with fail
  refine (open_any A n c bs _ hb hn hc).mono ?_
  rintro e w1 ⟨rfl, hr, hB⟩
  have HB1 := hide hB
  clear hB hb
  go_wp2_with fail
  refine (layers93_any _ 0 _ hr (by omega)).mono ?_
  rintro e w2 ⟨A2, m, c2, qs, p', rfl, hm, hp0, hp1, ho⟩
  have HO := hide (ho.drawn hm rfl HB1.out)
  clear ho hr
  go_wp2
  go_ret
  exact ⟨_, _, _, _, rfl, HO.out⟩
set_option maxHeartbeats 800000 in
theorem drawLyS_any (A : Option Addr) (n c : Nat) (bs : Nat → Int) (w : World) (hb : Bytes w w.heap.size A n bs) (hn : n ≤ c) (hc : c ≤ maxLen) :
    Calls Try.prog 23 #[.slice A n c] w fun e w' => ∃ A2 m c2 qs, e = .returned (.slice A2 m c2) ∧ LyDrawn w w' A2 m c2 qs := by
  go_enter Try.func23, Try.ntmps23
  go_wp2_with fail
  refine (open_any A n c bs _ hb hn hc).mono ?_
  rintro e w1 ⟨rfl, hr, hB⟩
  have HB1 := hide hB
  clear hB hb
  go_wp2_with fail
  refine (layers93_any _ 0 _ hr (by omega)).mono ?_
  rintro e w2 ⟨A2, m, c2, qs, p', rfl, hm, hp0, hp1, ho⟩
  have HO := hide (ho.drawn hm rfl HB1.out)
  clear ho hr
  go_wp2
  go_ret
  exact ⟨_, _, _, _, rfl, HO.out⟩

set_option maxHeartbeats 800000 in
theorem drawLyR_any (A : Option Addr) (n c : Nat) (bs : Nat → Int) (w : World) (hb : Bytes w w.heap.size A n bs) (hn : n ≤ c) (hc : c ≤ maxLen) :
    Calls Try.prog 15 #[.slice A n c] w fun e w' => ∃ A2 m c2 qs b, e = .returned (.tuple #[.slice A2 m c2, .int .i64 b]) ∧ LyDrawn w w' A2 m c2 qs := by
  go_enter Try.func15, Try.ntmps15
  go_wp2_with fail
  refine (open_any A n c bs _ hb hn hc).mono ?_
  rintro e w1 ⟨rfl, hr, hB⟩
  have HB1 := hide hB
  clear hB hb
  go_wp2_with fail
  refine (layers93_any _ 0 _ hr (by omega)).mono ?_
  rintro e w2 ⟨A2, m, c2, qs, p', rfl, hm, hp0, hp1, ho⟩
  have HO := hide ho
  clear ho hr
  go_wp2_with fail
  refine (pick_any _ _ 14 _ HO.out.rd (by omega) (by omega)).mono ?_
  rintro e w3 ⟨v, rfl, hv0, hv1, hr3, hg3⟩
  have HO3 := hide ((HO.out.pick hr3 hg3).drawn hm rfl HB1.out)
  clear hr3 hg3 HO
  go_wp2
  go_ret2
  exact ⟨_, _, _, _, _, rfl, HO3.out⟩
set_option maxHeartbeats 800000 in
theorem drawLyW_any (A : Option Addr) (n c : Nat) (bs : Nat → Int) (w : World) (hb : Bytes w w.heap.size A n bs) (hn : n ≤ c) (hc : c ≤ maxLen) :
    Calls Try.prog 18 #[.slice A n c] w fun e w' => ∃ A2 m c2 qs A3 k c3 ps, e = .returned (.tuple #[.slice A2 m c2, .slice A3 k c3]) ∧ LyDrawn w w' A2 m c2 qs ∧ PrI w' w'.heap.size A3 k ps ∧ k ≤ 12 := by
  go_enter Try.func18, Try.ntmps18
  go_wp2_with fail
  refine (open_any A n c bs _ hb hn hc).mono ?_
  rintro e w1 ⟨rfl, hr, hB⟩
  have HB1 := hide hB
  clear hB hb
  go_wp2_with fail
  refine (layers93_any _ 0 _ hr (by omega)).mono ?_
  rintro e w2 ⟨A2, m, c2, qs, p', rfl, hm, hp0, hp1, ho⟩
  have HO := hide ho
  clear ho hr
  go_wp2_with fail
  refine (layer93_any _ p' _ HO.out.rd (by omega)).mono ?_
  rintro e w3 ⟨A3, k, c3, ps, p3, rfl, hk, hp30, hp31, hk3⟩
  have HO3 := hide ((HO.out.pick hk3.rd hk3.grown).drawn hm rfl HB1.out)
  have HP3 := hide hk3.own.pri
  clear hk3 HO
  go_wp2
  go_ret2
  exact ⟨_, _, _, _, _, _, _, _, rfl, HO3.out, HP3.out, hk⟩
set_option maxHeartbeats 800000 in
theorem drawLyF_any (A : Option Addr) (n c : Nat) (bs : Nat → Int) (w : World) (hb : Bytes w w.heap.size A n bs) (hn : n ≤ c) (hc : c ≤ maxLen) :
    Calls Try.prog 28 #[.slice A n c] w fun e w' => ∃ A2 m c2 qs b, e = .returned (.tuple #[.slice A2 m c2, .int .i64 b]) ∧ LyDrawn w w' A2 m c2 qs := by
  go_enter Try.func28, Try.ntmps28
  go_wp2_with fail
  refine (open_any A n c bs _ hb hn hc).mono ?_
  rintro e w1 ⟨rfl, hr, hB⟩
  have HB1 := hide hB
  clear hB hb
  go_wp2_with fail
  refine (layers93_any _ 0 _ hr (by omega)).mono ?_
  rintro e w2 ⟨A2, m, c2, qs, p', rfl, hm, hp0, hp1, ho⟩
  have HO := hide ho
  have wm : IntKind.i64.wrap ((m : Int) + 1) = (m : Int) + 1 := IntWalk.i64_in _ (by omega)
  clear ho hr
  go_wp2_with fail
  refine (pick_any _ _ ((m : Int) + 1) _ HO.out.rd (by omega) (by omega)).mono ?_
  rintro e w3 ⟨v, rfl, hv0, hv1, hr3, hg3⟩
  have HO3 := hide (HO.out.pick hr3 hg3)
  clear hr3 hg3 HO
  go_wp2_with fail
  refine (pick_any _ _ 16 _ HO3.out.rd (by omega) (by omega)).mono ?_
  rintro e w4 ⟨v4, rfl, hv40, hv41, hr4, hg4⟩
  have HO4 := hide ((HO3.out.pick hr4 hg4).drawn hm rfl HB1.out)
  clear hr4 hg4 HO3
  go_wp2
  go_ret2
  exact ⟨_, _, _, _, _, rfl, HO4.out⟩
set_option maxHeartbeats 800000 in
theorem drawLyD_any (A : Option Addr) (n c : Nat) (bs : Nat → Int) (w : World) (hb : Bytes w w.heap.size A n bs) (hn : n ≤ c) (hc : c ≤ maxLen) :
    Calls Try.prog 31 #[.slice A n c] w fun e w' => ∃ A2 m c2 qs a b, e = .returned (.tuple #[.slice A2 m c2, .int .i64 a, .int .i64 b]) ∧ LyDrawn w w' A2 m c2 qs := by
  go_enter Try.func31, Try.ntmps31
  go_wp2_with fail
  refine (open_any A n c bs _ hb hn hc).mono ?_
  rintro e w1 ⟨rfl, hr, hB⟩
  have HB1 := hide hB
  clear hB hb
  go_wp2_with fail
  refine (layers93_any _ 0 _ hr (by omega)).mono ?_
  rintro e w2 ⟨A2, m, c2, qs, p', rfl, hm, hp0, hp1, ho⟩
  have HO := hide ho
  have wm : IntKind.i64.wrap ((m : Int) + 2) = (m : Int) + 2 := IntWalk.i64_in _ (by omega)
  have wm1 : IntKind.i64.wrap ((m : Int) + 1) = (m : Int) + 1 := IntWalk.i64_in _ (by omega)
  clear ho hr
  go_wp2_with fail
  refine (pick_any _ _ ((m : Int) + 2) _ HO.out.rd (by omega) (by omega)).mono ?_
  rintro e w3 ⟨v, rfl, hv0, hv1, hr3, hg3⟩
  have HO3 := hide (HO.out.pick hr3 hg3)
  clear hr3 hg3 HO
  go_wp2_with fail
  refine (pick_any _ _ 16 _ HO3.out.rd (by omega) (by omega)).mono ?_
  rintro e w4 ⟨v4, rfl, hv40, hv41, hr4, hg4⟩
  have HO4 := hide (HO3.out.pick hr4 hg4)
  clear hr4 hg4 HO3
  go_wp2_with fail
  refine (pick_any _ _ ((m : Int) + 1) _ HO4.out.rd (by omega) (by omega)).mono ?_
  rintro e w5 ⟨v5, rfl, hv50, hv51, hr5, hg5⟩
  have HO5 := hide ((HO4.out.pick hr5 hg5).drawn hm rfl HB1.out)
  clear hr5 hg5 HO4
  go_wp2
  go_ret3
  exact ⟨_, _, _, _, _, _, rfl, HO5.out⟩
end Go.Proofs.Ytapfbkjgmfmepaa
