/-
  The program's putLink and place.
-/
import Derived.Test.YthpipgcgnhgphaaChn
import Derived.Deep.LoopGhost
namespace Go.Proofs.Ythpipgcgnhgphaa
open Go.RowKit
set_option linter.unusedVariables false
set_option maxRecDepth 100000

theorem putLink_no (p : Addr) (f e : Int) (w : World) (hfe : e ≤ f) :
    Calls Try.prog 40 #[.pointer (some p), .int .i64 f, .int .i64 e] w fun x w' => x = .returned (.pointer (some p)) ∧ w' = w := by
  go_enter Try.func40, Try.ntmps40
  go_wp2
  go_ret
  exact ⟨rfl, rfl⟩

set_option maxHeartbeats 800000 in
theorem putLink_yes (base c : Nat) (pre rest : Nds) (f e : Int) (w : World) (h : Chn w base c (pre ++ rest)) (hfe : f < e) :
    Calls Try.prog 40 #[.pointer (some (plc c pre)), .int .i64 f, .int .i64 e] w fun x w' => ∃ g, x = .returned (.pointer (some (plc c (pre ++ [(g, f, e - f)])))) ∧
      Chn w' base c ((pre ++ [(g, f, e - f)]) ++ rest) ∧ w.grownBy w' (some (plc c pre).block) ∧ w.heap.size ≤ g := by
  have HI := hide (h.ins f (e - f))
  rw [show f + (e - f) = e by omega] at HI
  have HG := hide (grown_alloc (grown_refl w (some (plc c pre).block)) (.cells #[.int .i64 f, .int .i64 e, .pointer (pt rest none)] 65))
  have HG2 := hide (grown_set (w.alloc (.cells #[.int .i64 f, .int .i64 e, .pointer (pt rest none)] 65)) (plc c pre) (.pointer (some ⟨w.heap.size, 0, none⟩)))
  have HP := hide (plc_snoc c pre (w.heap.size, f, e - f))
  have r1 := h.read
  have r2 := (h.alloc (.cells #[.int .i64 f, .int .i64 e, .pointer (pt rest none)] 65)).read
  have f2 := (h.alloc (.cells #[.int .i64 f, .int .i64 e, .pointer (pt rest none)] 65)).free
  have r3 := HI.out.read
  have hlt := h.plc_ge.2
  rw [pt] at r3
  clear h
  generalize pt rest none = q at *
  generalize hp : plc c pre = p at *
  clear hp
  go_enter Try.func40, Try.ntmps40
  go_wp2
  go_ret
  exact ⟨w.heap.size, by rw [HP.out]; rfl, HI.out, HG.out.trans HG2.out, Nat.le_refl _⟩

/-- the place of a block: where the chain is parted -/
def PlacePost (w : World) (c : Nat) (ns : Nds) (b : Int) (x : Ending) (w' : World) : Prop := ∃ pre rest : Nds, x = .returned (.pointer (some (plc c pre))) ∧ ns = pre ++ rest ∧ Plc (exs ns) (exs pre) (exs rest) b ∧ w' = w

set_option maxHeartbeats 1600000 in
theorem place_any (base c : Nat) (ns : Nds) (b : Int) (w : World) (h : Chn w base c ns) (hb : 0 ≤ b) :
    Calls Try.prog 39 #[.pointer (some ⟨c, 0, none⟩), .int .i64 b] w (PlacePost w c ns b) := by
  have HC := hide h
  clear h
  go_enter Try.func39, Try.ntmps39
  go_wp2_with fail
  go_loopg [5] ns.length (fun k p wr => ∃ pre rest : Nds, Hid (ns = pre ++ rest) ∧ Hid (rest.length = k) ∧ p = .pointer (some (plc c pre)) ∧ wr = w ∧ Hid (nxt 0 (exs pre) ≤ b))
  case atStart => exact ⟨[], ns, rfl, rfl, rfl, rfl, hb⟩
  case round =>
    obtain ⟨pre, rest, HE, HL, rfl, rfl, HN⟩ := hrel
    have hC := HC.out
    rw [HE.out] at hC
    rcases rest with _ | ⟨n, r⟩
    · have r1 := hC.read
      rw [pt] at r1
      generalize hp : plc c pre = p at *
      go_wp2
      go_ret
      exact ⟨pre, [], by rw [hp]; rfl, HE.out, ⟨by rw [HE.out, exs_append], HN.out, fun x hx => by cases hx⟩, rfl⟩
    · have r1 := hC.read
      rw [pt] at r1
      have hn := hC.node.2
      have HPS := hide (plc_snoc c pre n)
      have hl := HL.out
      generalize hp : plc c pre = p at *
      obtain ⟨g, fs, m⟩ := n
      have c1 := hn.cell 1
      have c2 := hn.cell 2
      simp only at c1 c2
      by_cases hlt : fs + m < b
      · have HX := hide (show nxt 0 (exs (pre ++ [(g, fs, m)])) ≤ b by rw [exs_append, nxt_append]; show fs + m + 1 ≤ b; omega)
        go_wp2
        go_roundg r.length
        case measure => rw [← hl]; simp
        case rel => exact ⟨pre ++ [(g, fs, m)], r, by rw [HE.out, List.append_assoc]; rfl, rfl, by rw [HPS.out], rfl, HX.out⟩
      · have HX := hide (show b ≤ fs + m by omega)
        go_wp2
        go_ret
        exact ⟨pre, (g, fs, m) :: r, by rw [hp]; rfl, HE.out, ⟨by rw [HE.out, exs_append], HN.out, fun x hx => by injection hx with hx; subst hx; exact HX.out⟩, rfl⟩

/-- behind putLink -/
def PutLPost (w : World) (base c : Nat) (pre rest : Nds) (f e : Int) (x : Ending) (w' : World) : Prop :=
  ∃ pre' : Nds, x = .returned (.pointer (some (plc c pre'))) ∧ exs pre' = exs pre ++ piece f e ∧ Chn w' base c (pre' ++ rest) ∧ w.grownBy w' (some (plc c pre).block) ∧ ((plc c pre').block = (plc c pre).block ∨ w.heap.size ≤ (plc c pre').block)
theorem putLink_any (base c : Nat) (pre rest : Nds) (f e : Int) (w : World) (h : Chn w base c (pre ++ rest)) :
    Calls Try.prog 40 #[.pointer (some (plc c pre)), .int .i64 f, .int .i64 e] w (PutLPost w base c pre rest f e) := by
  by_cases hfe : f < e
  · refine (putLink_yes base c pre rest f e w h hfe).mono ?_
    rintro x w' ⟨g, rfl, hc, hg, hs⟩
    refine ⟨_, rfl, ?_, hc, hg, .inr ?_⟩
    · unfold piece
      rw [if_pos hfe, exs_append]
      rfl
    · rw [plc_snoc]
      exact hs
  · refine (putLink_no (plc c pre) f e w (by omega)).mono ?_
    rintro x w' ⟨rfl, rfl⟩
    refine ⟨pre, rfl, ?_, h, grown_refl _ _, .inl rfl⟩
    unfold piece
    rw [if_neg hfe, List.append_nil]
end Go.Proofs.Ythpipgcgnhgphaa
