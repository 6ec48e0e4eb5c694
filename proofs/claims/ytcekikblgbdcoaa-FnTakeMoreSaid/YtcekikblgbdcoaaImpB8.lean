/-
  The program's BucketWait: the walk.
-/
import Derived.Test.YtcekikblgbdcoaaImpB7
namespace Go.Proofs.Ytcekikblgbdcoaa
open Go.RowKit
set_option linter.unusedVariables false
set_option maxRecDepth 100000

/-- the first bucket -/
theorem WT.first {w W W2 : World} {Q g n c1 h : Nat} {b : Bk} {many : Int} (hrow : OwnR W (w.heap.size + 1) 24 4 (some ⟨g, 0, none⟩) n c1 (lvs b n)) (hn : 1 ≤ n) (hb : Below w.heap.size w W) (hQ : Q = W.heap.size)
    (ht : TakeP (W.alloc (.cells #[.slice (some ⟨g, 0, none⟩) n c1] 50)) W2 Q g 0 (n - 1)) (hh : h = W2.heap.size) :
    ∃ A2 c2, WT w (W2.alloc (.cells #[.int .i64 (lvl b 0), .int .i64 b.m, .int .i64 b.r, .int .i64 (b.t + 0)] 24)) Q g b n 1 c2 A2 many h (lvl b 0) b.m b.r (b.t + 0) true := by
  have hs := hb.size
  obtain ⟨g', e, hg1, hg2⟩ := hrow.shape (by omega)
  injection e with e
  injection e with e
  subst e
  have hi := hrow.ints
  have hcap := hrow.cap
  have hq0 : QW w (W.alloc (.cells #[.slice (some ⟨g, 0, none⟩) n c1] 50)) Q g b n 0 c1 (some ⟨g, 0, none⟩) := by
    subst hQ
    exact ⟨Blk.new W _ _, (hi.alloc (Nat.le_refl _) _).more (by simp), by omega, ⟨by omega, hcap.2⟩, fun _ => by rw [Nat.zero_mul], by omega, by omega, by omega, by simp; omega, hb.alloc hs _⟩
  obtain ⟨A2, c2, hq1⟩ := hq0.step hn (by rw [Nat.zero_mul]; exact ht)
  have hQl := hq1.q.lt
  have hgl := hq1.glt
  have hwl := hq1.below.size
  subst hh
  exact ⟨A2, c2, hq1.alloc _, Blk.new W2 _ _, by omega, by omega, by omega, fun _ => ⟨by omega, by congr 1, by omega⟩, (fun e => by cases e), fun i hi => by rcases hi with hi | ⟨e, _⟩; omega; cases e⟩

theorem WT.found {w W : World} {Q g n j c h : Nat} {b : Bk} {A : Option Addr} {many x0 x1 x2 x3 : Int} (hw : WT w W Q g b n j c A many h x0 x1 x2 x3 true) (hok : okK b) (hm : mayT many) (he : lvEnd b n) (hle : many ≤ x0) : waitB b many x3 := by
  obtain ⟨y1, y2, y3⟩ := hw.yes rfl
  have hk := hw.q.hk
  obtain ⟨e1, e2, e3⟩ := he
  refine .inr ⟨hok, hm, .inr ⟨by omega, by omega, by rw [show x3 - b.t = (j : Int) - 1 from by omega, ← y2]; exact hle, fun T h1 h2 => ?_⟩⟩
  obtain ⟨i, hi⟩ := Int.eq_ofNat_of_zero_le (show 0 ≤ T - b.t by omega)
  rw [hi]
  exact hw.less i (.inl (by omega))
theorem WT.never {w W : World} {Q g n j c h : Nat} {b : Bk} {A : Option Addr} {many x0 x1 x2 x3 : Int} (hw : WT w W Q g b n j c A many h x0 x1 x2 x3 false) (hok : okK b) (hm : mayT many) (he : lvEnd b n) : waitB b many (-1) :=
  .inr ⟨hok, hm, .inl ⟨rfl, fun T h1 h2 => lvEnd_no hok he (fun i hi => hw.less i (.inr ⟨rfl, hi⟩)) T h1 h2⟩⟩

set_option maxHeartbeats 6400000 in
theorem implBW (l m r t many : Int) (w : World) :
    Calls Try.prog 23 #[.agg #[.int .i64 l, .int .i64 m, .int .i64 r, .int .i64 t], .int .i64 many] w fun e w' => ∃ W, e = .returned (.int .i64 W) ∧ waitB ⟨l, m, r, t⟩ many W ∧ Below w.heap.size w w' := by
  have HK0 := hide ((Kp.refl w).push 24 #[.int .i64 l, .int .i64 m, .int .i64 r, .int .i64 t])
  have HO := hide (bkV_iff ⟨l, m, r, t⟩)
  have HV := hide fun (W : World) => implBV l m r t W
  have HL := hide fun (W : World) (h : okK ⟨l, m, r, t⟩) => implLevels l m r t W h
  have HM := hide fun (W : World) => takeable_any many W
  go_enter Try.func23, Try.ntmps23
  go_wp2_with fail
  refine (HV.out _).mono ?_
  rintro e w1 ⟨rfl, hb1⟩
  have HK1 := hide (HK0.out.step hb1)
  clear HK0 hb1
  rcases hv : bkV ⟨l, m, r, t⟩ with _ | _
  · have HN := hide (show waitB ⟨l, m, r, t⟩ many (-1) from .inl ⟨(fun h => by have := HO.out.2 h.1; rw [hv] at this; cases this), rfl⟩)
    clear hv HV HL HO HM
    go_wp2
    go_ret
    exact ⟨_, rfl, HN.out, HK1.out.below⟩
  have HOK := hide (HO.out.1 hv)
  clear hv HV HO
  rcases hm : decide (mayT many) with _ | _
  · have HN := hide (show waitB ⟨l, m, r, t⟩ many (-1) from .inl ⟨(fun h => by have := decide_eq_true h.2; rw [hm] at this; cases this), rfl⟩)
    rw [hm] at HM
    clear hm HL
    go_wp2_with fail
    refine (HM.out _).mono ?_
    rintro e w' ⟨rfl, rfl⟩
    go_wp2
    go_ret
    exact ⟨_, rfl, HN.out, HK1.out.below⟩
  have HMT := hide (of_decide_eq_true hm)
  rw [hm] at HM
  clear hm
  go_wp2_with fail
  refine (HM.out _).mono ?_
  rintro e w' ⟨rfl, rfl⟩
  obtain ⟨⟨b0, b1, b2, b3⟩, -⟩ := HK1.out.cells4
  go_wp2_with fail
  refine (HL.out _ HOK.out).mono ?_
  rintro e w2 ⟨A, n, c, rfl, he, hrow, hb2⟩
  clear HM HL b0 b1 b2 b3
  obtain ⟨g, rfl, hg1, hg2⟩ := hrow.shape (by have := he.1; omega)
  have hn1 := he.1
  have HE := hide he
  have hw1 := HK1.out.below.size
  have HB2 := hide (HK1.out.step hb2).below
  have HROW := hide (hrow.mono (b' := w.heap.size + 1) (by have := HK1.out.lt; omega))
  have hcap := hrow.cap
  obtain ⟨n', rfl⟩ : ∃ n', n = n' + 1 := ⟨n - 1, by omega⟩
  obtain ⟨c0, c1, c2, c3⟩ : w2.cell? ⟨g, 0, none⟩ = some (.int .i64 (lvl ⟨l, m, r, t⟩ 0)) ∧ w2.cell? ⟨g, 1, none⟩ = some (.int .i64 m) ∧ w2.cell? ⟨g, 2, none⟩ = some (.int .i64 r) ∧ w2.cell? ⟨g, 3, none⟩ = some (.int .i64 (t + 0)) := by
    obtain ⟨v0, v1, v2, v3⟩ := lvs_at ⟨l, m, r, t⟩ (show 0 < n' + 1 by omega)
    have k0 := hrow.cell (g := g) (j := 0 * 4) (by omega)
    have k1 := hrow.cell (g := g) (j := 0 * 4 + 1) (by omega)
    have k2 := hrow.cell (g := g) (j := 0 * 4 + 2) (by omega)
    have k3 := hrow.cell (g := g) (j := 0 * 4 + 3) (by omega)
    rw [v0] at k0
    rw [v1] at k1
    rw [v2] at k2
    rw [v3] at k3
    exact ⟨k0, k1, k2, k3⟩
  have ka : ∀ (o : Obj) (i : Nat), (w2.alloc o).cell? ⟨g, i, none⟩ = w2.cell? ⟨g, i, none⟩ := fun o i => World.cell?_alloc_lt w2 o _ hg2
  have HT := hide (take_yes w2.heap.size g 0 n' c (lvl ⟨l, m, r, t⟩ 0) m r (t + 0) (w2.alloc (.cells #[.slice (some ⟨g, 0, none⟩) (n' + 1) c] 50)) (Blk.new w2 _ _) hcap.1 hcap.2
    ((ka _ 0).trans c0) ((ka _ 1).trans c1) ((ka _ 2).trans c2) ((ka _ 3).trans c3) (by simp; omega))
  have ht0 : lvl ⟨l, m, r, t⟩ 0 = lvl ⟨l, m, r, t⟩ 0 := rfl
  clear c0 c1 c2 c3 ka hb2 hrow ht0
  have HF := hide fun (W2 : World) (ht : TakeP (w2.alloc (.cells #[.slice (some ⟨g, 0, none⟩) (n' + 1) c] 50)) W2 w2.heap.size g 0 n') => WT.first (w := w) (many := many) (h := W2.heap.size) HROW.out (by omega) HB2.out rfl ht rfl
  generalize lvl ⟨l, m, r, t⟩ 0 = K0 at HT HF
  simp only at HF
  generalize hx3 : t + (0 : Int) = X3 at HT HF
  clear hx3
  clear HROW HB2 HK1
  go_wp2_with fail
  refine HT.out.mono ?_
  rintro e w3 ⟨rfl, ht⟩
  obtain ⟨A2, c2, hwt⟩ := HF.out w3 ht
  have HW := hide hwt
  clear HT HF ht hwt hg1 hg2 hcap hw1
  generalize w2.heap.size = Q at HW ⊢
  go_wp2_with fail
  go_loopg [6, 7] (n' + 1) (fun gk s6 s7 wr => ∃ (j c : Nat) (A : Option Addr) (h : Nat) (x0 x1 x2 x3 : Int) (ok : Bool), s6 = .pointer (some ⟨h, 0, none⟩) ∧ s7 = .bool ok ∧ ((ok = true ∧ gk + j = n' + 2) ∨ (ok = false ∧ gk = 0)) ∧ Hid (WT w wr Q g ⟨l, m, r, t⟩ (n' + 1) j c A many h x0 x1 x2 x3 ok))
  case atStart => exact ⟨1, c2, A2, w3.heap.size, K0, m, r, X3, true, rfl, rfl, .inl ⟨rfl, by omega⟩, HW.out⟩
  case round =>
    clear HW
    obtain ⟨j, cj, Aj, h, x0, x1, x2, x3, ok, rfl, rfl, hgk, HT⟩ := hrel
    rcases ok with _ | _
    · have HN := hide (HT.out.never HOK.out HMT.out HE.out)
      have HB := hide HT.out.q.below
      go_wp2
      go_ret
      exact ⟨_, rfl, HN.out, HB.out⟩
    · have hgk' : gk + j = n' + 2 := by
        rcases hgk with h | h
        · exact h.2
        · cases h.1
      clear hgk
      obtain ⟨⟨a0, a1, a2, a3⟩, -⟩ := HT.out.at_.cells4
      by_cases hle : many ≤ x0
      · have hd : decide (many ≤ x0) = true := by simpa using hle
        have HN := hide (HT.out.found HOK.out HMT.out HE.out hle)
        have HB := hide HT.out.q.below
        go_wp2
        go_ret
        exact ⟨_, rfl, HN.out, HB.out⟩
      · have hd : decide (many ≤ x0) = false := by simpa using hle
        have hqa := HT.out.q.alloc (.cells #[.int .i64 x0, .int .i64 x1, .int .i64 x2, .int .i64 x3] 24)
        have hQx : Q < wr.heap.size := HT.out.q.q.lt
        have hbn := Blk.new wr 24 #[.int .i64 x0, .int .i64 x1, .int .i64 x2, .int .i64 x3]
        by_cases hj : j < n' + 1
        · have hA := hqa.ha hj
          subst hA
          obtain ⟨k0, k1, k2, k3⟩ := hqa.at_ hj
          have hqb := hqa.q
          rw [show n' + 1 - j = (n' - j) + 1 from by omega] at hqb
          have HTK := hide (take_yes Q g (j * 4) (n' - j) cj _ _ _ _ _ hqb (by have := hqa.hc.1; omega) hqa.hc.2 k0 k1 k2 k3 hqa.glt)
          have HNX := hide fun (W2 : World) (ht : TakeP (wr.alloc (.cells #[.int .i64 x0, .int .i64 x1, .int .i64 x2, .int .i64 x3] 24)) W2 Q g (j * 4) (n' - j)) => HT.out.more hle hj rfl (by rw [show n' + 1 - (j + 1) = n' - j from by omega]; exact ht)
          have HBN := hide hbn
          clear hqa hqb k0 k1 k2 k3 hbn HE
          simp only at HTK HNX
          generalize lvl ⟨l, m, r, t⟩ j = y0 at HTK HNX
          generalize t + (j : Int) = y3 at HTK HNX
          go_wp2_with fail
          refine HTK.out.mono ?_
          rintro e w4 ⟨rfl, ht⟩
          obtain ⟨A5, c5, hwt⟩ := HNX.out w4 ht
          have HN := hide hwt
          have hb4 := HBN.out.grown (show _ from by obtain ⟨_, _, _, _, _, _, hgr⟩ := ht; exact hgr) (by intro e; injection e with e; omega)
          obtain ⟨⟨z0, z1, z2, z3⟩, f0, f1, f2, f3⟩ := hb4.cells4
          clear HTK HNX HBN ht hwt hb4 a0 a1 a2 a3 HT
          go_wp2
          go_roundg (gk - 1)
          case measure => omega
          case rel => exact ⟨j + 1, c5, A5, _, y0, m, r, y3, true, rfl, rfl, .inl ⟨rfl, by omega⟩, HN.out⟩
        · have hjn : j = n' + 1 := by have := hqa.hk; omega
          have hqb := hqa.q
          rw [show n' + 1 - j = 0 from by omega] at hqb
          have HTK := hide (take_none Q cj Aj _ hqb)
          have HNX := hide fun (W2 : World) (hb : Below (wr.alloc (.cells #[.int .i64 x0, .int .i64 x1, .int .i64 x2, .int .i64 x3] 24)).heap.size (wr.alloc (.cells #[.int .i64 x0, .int .i64 x1, .int .i64 x2, .int .i64 x3] 24)) W2) => HT.out.stop hle hjn rfl (grown_of_below hb _) (hqb.below hb hqb.lt)
          have HBN := hide hbn
          clear hqa hqb hbn HE
          go_wp2_with fail
          refine HTK.out.mono ?_
          rintro e w4 ⟨rfl, hb⟩
          have HN := hide (HNX.out w4 hb)
          have hb4 := HBN.out.below hb HBN.out.lt
          obtain ⟨⟨z0, z1, z2, z3⟩, f0, f1, f2, f3⟩ := hb4.cells4
          clear HTK HNX HBN hb hb4 a0 a1 a2 a3 HT
          go_wp2
          go_roundg 0
          case measure => omega
          case rel => exact ⟨n' + 1, cj, Aj, _, 0, 0, 0, 0, false, rfl, rfl, .inr ⟨rfl, rfl⟩, HN.out⟩
end Go.Proofs.Ytcekikblgbdcoaa
