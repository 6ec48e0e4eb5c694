/-
  The program's levelsOf.
-/
import Derived.Test.YtcekikblgbdcoaaImpB5
import Derived.Test.YtcekikblgbdcoaaLvsM
import Derived.Deep.LoopGhost
namespace Go.Proofs.Ytcekikblgbdcoaa
open Go.RowKit
set_option linter.unusedVariables false
set_option maxRecDepth 100000

/-- on the way: the bucket, the queue, its row -/
structure LV (w W : World) (l m r t x0 x1 x2 x3 : Int) (ok : Bool) (k : Nat) (A : Option Addr) (c : Nat) : Prop where
  box : Blk W w.heap.size 24 #[.int .i64 x0, .int .i64 x1, .int .i64 x2, .int .i64 x3]
  q : Blk W (w.heap.size + 1) 50 #[.slice A k c]
  row : OwnR W (w.heap.size + 2) 24 4 A k c (lvs ⟨l, m, r, t⟩ k)
  below : Below w.heap.size w W
  yes : ok = true → x0 = lvl ⟨l, m, r, t⟩ k ∧ x1 = m ∧ x2 = r ∧ x3 = t + k ∧ t + k ≤ 999
  no : ok = false → lvEnd ⟨l, m, r, t⟩ k
theorem LV.put {w W W1 : World} {l m r t x0 x1 x2 x3 : Int} {k c c2 : Nat} {A A2 : Option Addr} (h : LV w W l m r t x0 x1 x2 x3 true k A c) (hp : PutQ W W1 (w.heap.size + 1) (w.heap.size + 2) (k + 1) A2 c2 (lvs ⟨l, m, r, t⟩ k ++ [x0, x1, x2, x3])) :
    Blk W1 w.heap.size 24 #[.int .i64 x0, .int .i64 x1, .int .i64 x2, .int .i64 x3] ∧ Blk W1 (w.heap.size + 1) 50 #[.slice A2 (k + 1) c2] ∧ OwnR W1 (w.heap.size + 2) 24 4 A2 (k + 1) c2 (lvs ⟨l, m, r, t⟩ (k + 1)) ∧ Below w.heap.size w W1 := by
  obtain ⟨y0, y1, y2, y3, y4⟩ := h.yes rfl
  refine ⟨h.box.below hp.below (by omega), hp.blk, ?_, h.below.trans (hp.below.mono (by omega))⟩
  have := hp.row
  rw [y0, y1, y2, y3] at this
  exact this
/-- a later bucket -/
theorem LV.next {w W1 W2 : World} {l m r t x0 x1 x2 x3 y0 y1 y2 y3 : Int} {ok : Bool} {k c : Nat} {A : Option Addr} (hok : okK ⟨l, m, r, t⟩) (hk : t + k ≤ 999)
    (hb : Blk W1 w.heap.size 24 #[.int .i64 x0, .int .i64 x1, .int .i64 x2, .int .i64 x3]) (hq : Blk W1 (w.heap.size + 1) 50 #[.slice A (k + 1) c]) (hr : OwnR W1 (w.heap.size + 2) 24 4 A (k + 1) c (lvs ⟨l, m, r, t⟩ (k + 1))) (hl : Below w.heap.size w W1) (h2 : Below W1.heap.size W1 W2)
    (hy : (⟨⟨y0, y1, y2, y3⟩, ok⟩ : Bk × Bool) = (let q := atB ⟨lvl ⟨l, m, r, t⟩ k, m, r, t + k⟩ (t + k + 1); (q.1, q.2 && decide (lvl ⟨l, m, r, t⟩ k < q.1.l)))) :
    LV w ((((W2.setCell ⟨w.heap.size, 0, none⟩ (.int .i64 y0)).setCell ⟨w.heap.size, 1, none⟩ (.int .i64 y1)).setCell ⟨w.heap.size, 2, none⟩ (.int .i64 y2)).setCell ⟨w.heap.size, 3, none⟩ (.int .i64 y3)) l m r t y0 y1 y2 y3 ok (k + 1) A c := by
  have hb2 := hb.below h2 hb.lt
  have hs := hb2.set4 (.int .i64 y0) (.int .i64 y1) (.int .i64 y2) (.int .i64 y3)
  have h0 : 0 ≤ t := hok.2.2.2.2.2.2.1
  have hr2 := hr.below h2
  have hlow : Below w.heap.size w W2 := hl.trans (h2.mono hl.size)
  have hat : atB ⟨lvl ⟨l, m, r, t⟩ k, m, r, t + k⟩ (t + k + 1) = if t + k + 1 ≤ 999 then (⟨lvl ⟨l, m, r, t⟩ (k + 1), m, r, t + k + 1⟩, true) else (⟨0, 0, 0, 0⟩, false) := by
    by_cases h9 : t + k + 1 ≤ 999
    · have hin : inT ⟨lvl ⟨l, m, r, t⟩ k, m, r, t + k⟩ (t + k + 1) := ⟨ok_at hok (by omega) (by omega) (by omega) hk, by simp only; omega, h9⟩
      rw [if_pos h9]
      unfold atB
      rw [if_pos hin]
      simp only
      rw [show t + (k : Int) + 1 - (t + k) = 1 from by omega, lvl_step hok (by omega) (by omega) (by omega) (by omega)]
    · rw [if_neg h9]
      exact if_neg (fun h => h9 h.2.2)
  rw [hat] at hy
  simp only at hy
  refine ⟨hs.1, (hq.below h2 hq.lt).grown hs.2 (by intro e; injection e with e; omega), hr2.kept hs.2 (fun g e e' => by injection e with e; have := (hr2.block g e').1; omega), hlow.grown hs.2 hlow.size (fun g e => by injection e with e; omega), ?_, ?_⟩
  · intro e
    by_cases h9 : t + (k : Int) + 1 ≤ 999
    · rw [if_pos h9] at hy
      simp only [Prod.mk.injEq, Bk.mk.injEq] at hy
      obtain ⟨⟨a, b, c, d⟩, _⟩ := hy
      exact ⟨by rw [a]; rfl, b, c, by rw [d]; push_cast; omega, by push_cast; omega⟩
    · rw [if_neg h9] at hy
      simp only [Prod.mk.injEq, Bool.false_and] at hy
      rw [hy.2] at e; cases e
  · intro e
    by_cases h9 : t + (k : Int) + 1 ≤ 999
    · rw [if_pos h9] at hy
      simp only [Prod.mk.injEq, Bool.true_and] at hy
      have h3 := hy.2
      rw [e] at h3
      have h4 : ¬ lvl ⟨l, m, r, t⟩ k < lvl ⟨l, m, r, t⟩ (k + 1) := by simpa using h3.symm
      refine ⟨by omega, by simp only; push_cast; omega, .inr ?_⟩
      have e1 : ((k + 1 : Nat) : Int) = (k : Int) + 1 := by omega
      rw [e1, show (k : Int) + 1 - 1 = k from by omega]
      omega
    · exact ⟨by omega, by simp only; push_cast; omega, .inl (by simp only; push_cast; omega)⟩

/-- what is handed back -/
def LvPost (w w' : World) (l m r t : Int) (e : Ending) : Prop :=
  ∃ A n c, e = .returned (.slice A n c) ∧ lvEnd ⟨l, m, r, t⟩ n ∧ OwnR w' (w.heap.size + 2) 24 4 A n c (lvs ⟨l, m, r, t⟩ n) ∧ Below w.heap.size w w'

set_option maxHeartbeats 6400000 in
theorem implLevels (l m r t : Int) (w : World) (hok : okK ⟨l, m, r, t⟩) :
    Calls Try.prog 33 #[.agg #[.int .i64 l, .int .i64 m, .int .i64 r, .int .i64 t]] w fun e w' => LvPost w w' l m r t e := by
  have HOK := hide hok
  have ht0 : 0 ≤ t := hok.2.2.2.2.2.2.1
  have ht9 : t ≤ 999 := hok.2.2.2.2.2.2.2
  have HK0 := hide ((Kp.refl w).push 24 #[.int .i64 l, .int .i64 m, .int .i64 r, .int .i64 t] |>.pushN (w.heap.size + 1) (by simp) 50 #[.slice none 0 0])
  clear hok
  go_enter Try.func33, Try.ntmps33
  go_wp2_with fail
  go_loopg [4] 1001 (fun gk okv wr => ∃ (k c : Nat) (A : Option Addr) (x0 x1 x2 x3 : Int) (ok : Bool), okv = .bool ok ∧ k + gk = 1001 ∧ Hid (LV w wr l m r t x0 x1 x2 x3 ok k A c))
  case atStart => exact ⟨0, 0, none, l, m, r, t, true, rfl, rfl, ⟨HK0.out.tl.hd, HK0.out.hd, OwnR.nil_ _ _ _ _, HK0.out.below, fun _ => ⟨(lvl_0 HOK.out).symm, rfl, rfl, by omega, by omega⟩, (fun e => by cases e)⟩⟩
  case round =>
    clear HK0
    obtain ⟨k, c, A, x0, x1, x2, x3, ok, rfl, hkg, HL⟩ := hrel
    rcases ok with _ | _
    · have q0 := HL.out.q.cell 0
      simp at q0
      have HP : Hid (LvPost w wr l m r t (.returned (.slice A k c))) := ⟨A, k, c, rfl, HL.out.no rfl, HL.out.row, HL.out.below⟩
      go_wp2
      go_ret
      exact HP.out
    · obtain ⟨⟨b0, b1, b2, b3⟩, f0, f1, f2, f3⟩ := HL.out.box.cells4
      obtain ⟨y0, y1, y2, y3, y4⟩ := HL.out.yes rfl
      have HPU := hide (put_any (w.heap.size + 1) (w.heap.size + 2) k c A _ x0 x1 x2 x3 wr HL.out.q HL.out.row (by omega) HL.out.q.lt (by omega))
      have HY := hide (And.intro y0 (And.intro y1 (And.intro y2 y3)))
      clear y0 y1 y2 y3
      go_wp2_with fail
      refine HPU.out.mono ?_
      rintro e w1 ⟨rfl, A2, c2, hp⟩
      have HN := hide (HL.out.put hp)
      clear b0 b1 b2 b3 f0 f1 f2 f3 hp HPU HL
      obtain ⟨⟨b0, b1, b2, b3⟩, f0, f1, f2, f3⟩ := HN.out.1.cells4
      have h3 : 0 ≤ x3 ∧ x3 ≤ 999 := by have := HY.out.2.2.2; omega
      have HG := hide (grown_yes x0 x1 x2 x3 w1 h3.1 h3.2)
      generalize hq : atB ⟨x0, x1, x2, x3⟩ (x3 + 1) = q at HG
      obtain ⟨⟨z0, z1, z2, z3⟩, okz⟩ := q
      simp only at HG
      generalize hv : (okz && decide (x0 < z0)) = v at HG
      have HE : Hid ((⟨⟨z0, z1, z2, z3⟩, v⟩ : Bk × Bool) = (let q := atB ⟨lvl ⟨l, m, r, t⟩ k, m, r, t + k⟩ (t + k + 1); (q.1, q.2 && decide (lvl ⟨l, m, r, t⟩ k < q.1.l)))) := by
        obtain ⟨y0, y1, y2, y3⟩ := HY.out
        subst y0 y1 y2 y3
        show _ = _
        simp only [hq, hv]
      clear hq hv
      go_wp2_with fail
      refine HG.out.mono ?_
      rintro e w2 ⟨rfl, hb2⟩
      have HLN := hide (LV.next HOK.out y4 HN.out.1 HN.out.2.1 HN.out.2.2.1 HN.out.2.2.2 hb2 HE.out)
      obtain ⟨-, g0, g1, g2, g3⟩ := (HN.out.1.below hb2 HN.out.1.lt).cells4
      obtain ⟨⟨d0, d1, d2, d3⟩, -⟩ := (HN.out.1.below hb2 HN.out.1.lt).cells4
      clear b0 b1 b2 b3 f0 f1 f2 f3 hb2 HG HE HN HY
      go_wp2
      go_roundg (gk - 1)
      case measure => omega
      case rel => exact ⟨k + 1, c2, A2, z0, z1, z2, z3, v, rfl, by omega, HLN.out⟩
end Go.Proofs.Ytcekikblgbdcoaa
