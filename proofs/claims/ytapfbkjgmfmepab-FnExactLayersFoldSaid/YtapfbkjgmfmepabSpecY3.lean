/-
  The model's l14Over, l14Copy.
-/
import Derived.Test.YtapfbkjgmfmepabSpecY2
namespace Go.Proofs.Ytapfbkjgmfmepab
open Go.RowKit
set_option linter.unusedVariables false
set_option maxRecDepth 100000

theorem wpList_append_pairY {w : World} {ops : Array Oper} {rest : List Oper} {o : Oper} {a : Act} {Q : Exit → Act → World → Prop} (hgd : o.guard = none) (s x : Operand)
    (ho : o.op = .call { callee := .builtin .append, args := #[s, x], argTypes := #[41, 41] })
    (base n c B m d : Nat) (A A' : Option Addr) (ps qs : Ly) (hs : a.eval s = .slice A n c) (hown : PrR w base A n c ps) (hx : a.eval x = .slice A' m d) (hr : PrI w B A' m qs)
    (hnm : n + m ≤ 1000000000000) (hbase : base ≤ w.heap.size)
    (h : ∀ A2 c2 w', PrR w' base A2 (n + m) c2 (ps ++ qs) → w.grownBy w' (Value.slice A n c).ownBlock → wpList Try.prog ops Q rest (a.put o.dst (.slice A2 (n + m) c2)) w') :
    wpList Try.prog ops Q (o :: rest) a w :=
  wpList_append_recs pairT hgd s x ho base n c B m d A A' (fl ps) (fl qs) hs hown.2 hx hr.2 hnm hbase fun A2 c2 w' h1 h2 _ => h A2 c2 w' ⟨by rw [List.length_append, hown.1, hr.1], by rw [fl_append]; exact h1⟩ h2
theorem PrI.one (w : World) (b v : Int) : PrI (w.alloc (.cells #[.int .i64 b, .int .i64 v] 57)) (w.heap.size + 1) (some ⟨w.heap.size, 0, none⟩) 1 [(b, v)] := ⟨rfl, Ints.rec2 w _ b v⟩
theorem overN_step (low top : Ly) (k : Nat) : overN low top (k + 1) = overN low top k ++ (if 0 ≤ ovr low top k then [(((k : Nat) : Int), ovr low top k)] else []) := rfl

/-- a layer handed back -/
def LyPost (w : World) (ps : Ly) (e : Ending) (w' : World) : Prop := ∃ A2 k c2, e = .returned (.slice A2 k c2) ∧ PrR w' w.heap.size A2 k c2 ps ∧ Below w.heap.size w w'

set_option maxHeartbeats 6400000 in
theorem specOver (A X : Option Addr) (n c m d B : Nat) (low top : Ly) (w : World) (hr : PrI w B A n low) (hx : PrI w B X m top) (hB : B ≤ w.heap.size) (hn : n ≤ 1000000000) (hm : m ≤ 1000000000) :
    Calls Try.prog 21 #[.slice A n c, .slice X m d] w (LyPost w (overL low top)) := by
  have HR := hide hr
  have HX := hide hx
  clear hr hx
  go_enter Try.func21, Try.ntmps21
  go_wp2
  go_loopw [5, 6, 7] (fun o i _ wr => ∃ (k j c2 : Nat) (A2 : Option Addr), k ≤ 12 ∧ i = .int .i64 k ∧ o = .slice A2 j c2 ∧ j ≤ k ∧ Hid (PrR wr w.heap.size A2 j c2 (overN low top k)) ∧ Hid (Below w.heap.size w wr)) (fun _ i _ _ => 12 - (intOf i).toNat)
  case atStart => exact ⟨0, 0, 0, _, Nat.zero_le _, rfl, rfl, Nat.le_refl _, PrR.lit0 w _ (Nat.le_refl _), below_new w _⟩
  case round =>
    obtain ⟨k, j, c2, A2, hk, rfl, rfl, hjk, HO, HB⟩ := hrel
    have hsz := HB.out.size
    by_cases hlt : k < 12
    · have HT := hide (specFind X m d B top (k : Int) wr (HX.out.below HB.out hB) hm)
      have HL := hide (specFind A n c B low (k : Int) wr (HR.out.below HB.out hB) hn)
      have HS := hide (overN_step low top k)
      have k0 : (0 : Int) ≤ (k : Int) := by omega
      have k1 : (k : Int) < 12 := by omega
      by_cases ht : findL top k < 0
      · have ho : ovr low top k = findL low k := by unfold ovr; rw [if_pos ht]
        rw [ho] at HS
        by_cases hf : 0 ≤ findL low k
        · rw [if_pos hf] at HS
          generalize findL top (k : Int) = v1 at HT ht
          generalize findL low (k : Int) = v2 at HL hf HS
          clear ho
          go_wp2_with fail
          refine HT.out.mono ?_
          rintro e w' ⟨rfl, rfl⟩
          go_wp2_with fail
          refine HL.out.mono ?_
          rintro e w' ⟨rfl, rfl⟩
          have HOA := hide (HO.out.alloc (.cells #[.int .i64 (k : Int), .int .i64 v2] 57))
          have HBA := hide (HB.out.alloc hsz (.cells #[.int .i64 (k : Int), .int .i64 v2] 57))
          go_wp2_with (at_builtin; refine wpList_append_pairY rfl (.tmp 23) (.tmp 27) rfl w.heap.size j c2 (w'.heap.size + 1) 1 1 A2 _ _ [((k : Int), v2)] rfl HOA.out rfl (PrI.one w' (k : Int) v2) (by omega) HBA.out.size ?_; intro A3 c3 w3 ho3 hg3)
          have HO3 := hide ho3
          have HB3 := hide (HBA.out.grown hg3 HBA.out.size fun g hg => (HO.out.block g hg).1)
          clear ho3 hg3
          go_wp2
          go_roundw
          case rel => exact ⟨k + 1, j + 1, c3, A3, by omega, by go_num, rfl, by omega, by rw [HS.out]; exact HO3.out, HB3.out⟩
          case measure => simp [intOf]; omega
        · rw [if_neg hf, List.append_nil] at HS
          generalize findL top (k : Int) = v1 at HT ht
          generalize findL low (k : Int) = v2 at HL hf
          clear ho
          go_wp2_with fail
          refine HT.out.mono ?_
          rintro e w' ⟨rfl, rfl⟩
          go_wp2_with fail
          refine HL.out.mono ?_
          rintro e w' ⟨rfl, rfl⟩
          go_wp2
          go_roundw
          case rel => exact ⟨k + 1, j, c2, A2, by omega, by go_num, rfl, by omega, by rw [HS.out]; exact HO.out, HB.out⟩
          case measure => simp [intOf]; omega
      · have ho : ovr low top k = findL top k := by unfold ovr; rw [if_neg ht]
        rw [ho, if_pos (by omega)] at HS
        generalize findL top (k : Int) = v1 at HT ht HS
        clear ho HL
        go_wp2_with fail
        refine HT.out.mono ?_
        rintro e w' ⟨rfl, rfl⟩
        have HOA := hide (HO.out.alloc (.cells #[.int .i64 (k : Int), .int .i64 v1] 57))
        have HBA := hide (HB.out.alloc hsz (.cells #[.int .i64 (k : Int), .int .i64 v1] 57))
        go_wp2_with (at_builtin; refine wpList_append_pairY rfl (.tmp 23) (.tmp 27) rfl w.heap.size j c2 (w'.heap.size + 1) 1 1 A2 _ _ [((k : Int), v1)] rfl HOA.out rfl (PrI.one w' (k : Int) v1) (by omega) HBA.out.size ?_; intro A3 c3 w3 ho3 hg3)
        have HO3 := hide ho3
        have HB3 := hide (HBA.out.grown hg3 HBA.out.size fun g hg => (HO.out.block g hg).1)
        clear ho3 hg3
        go_wp2
        go_roundw
        case rel => exact ⟨k + 1, j + 1, c3, A3, by omega, by go_num, rfl, by omega, by rw [HS.out]; exact HO3.out, HB3.out⟩
        case measure => simp [intOf]; omega
    · obtain rfl : k = 12 := by omega
      go_wp2
      go_ret
      exact ⟨A2, j, c2, rfl, HO.out, HB.out⟩

set_option maxHeartbeats 6400000 in
theorem specCopy (A : Option Addr) (n c B : Nat) (qs : List Lq) (w : World) (hr : LyI w B A n qs) (hB : B ≤ w.heap.size) (hs : ∀ q ∈ qs, q.ps.length ≤ 1000000000) (hn : n ≤ 1000000000) :
    Calls Try.prog 20 #[.slice A n c] w fun e w' => ∃ A2 c2 qs2, e = .returned (.slice A2 n c2) ∧ OwnL w' w.heap.size A2 n c2 qs2 ∧ lys qs2 = lys qs ∧ Below w.heap.size w w' := by
  have hl := hr.1
  have HR := hide hr
  have HS := hide hs
  clear hr hs
  go_enter Try.func20, Try.ntmps20
  go_wp2
  go_loopw [3, 4] (fun o i wr => ∃ (k c2 : Nat) (A2 : Option Addr) (rs : List Lq), k ≤ n ∧ i = .int .i64 k ∧ o = .slice A2 k c2 ∧ Hid (OwnL wr w.heap.size A2 k c2 rs) ∧ Hid (lys rs = (lys qs).take k) ∧ Hid (Below w.heap.size w wr)) (fun _ i _ => n - (intOf i).toNat)
  case atStart => exact ⟨0, 0, _, [], Nat.zero_le _, rfl, rfl, OwnL.lit0 w _ (Nat.le_refl _), rfl, below_new w _⟩
  case round =>
    obtain ⟨k, c2, A2, rs, hk, rfl, rfl, HO, HE, HB⟩ := hrel
    have hsz := HB.out.size
    by_cases hlt : k < n
    · obtain ⟨q, hq⟩ : ∃ q, qs[k]? = some q := ⟨_, List.getElem?_eq_getElem (by omega)⟩
      have hi := HR.out.below HB.out hB
      obtain ⟨ad, rfl, hb, hc0⟩ := hi.at_ hq
      have HPI := hide ((hi.layer hq).1.alloc (Nat.le_trans hB hsz) (.cells #[] 57))
      have hq9 := HS.out q (List.mem_of_getElem? hq)
      have HE2 := hide (show (lys qs).take (k + 1) = (lys qs).take k ++ [q.ps] by rw [List.take_add_one, lys_get hq]; rfl)
      unfold Lq.sl at hc0
      clear hi hq
      have hz9 : q.ps.length ≤ 1000000000000 := by omega
      have h09 : 0 + q.ps.length ≤ 1000000000000 := by omega
      have hsa : (wr.alloc (.cells #[] 57)).heap.size = wr.heap.size + 1 := by simp
      have hc0' : (wr.alloc (.cells #[] 57)).cell? (ad.add k) = some (.slice q.addr q.ps.length q.cap) := (World.cell?_alloc_lt wr _ _ (by rw [block_of_add]; omega)).trans hc0
      generalize q.addr = qa at *
      generalize q.cap = qc at *
      go_wp2_with (first
        | (at_builtin; refine wpList_append_pairY rfl (.tmp 13) (.tmp 17) rfl wr.heap.size 0 0 B _ _ (some ⟨wr.heap.size, 0, none⟩) qa [] q.ps rfl (PrR.lit0 wr _ (Nat.le_refl _)) rfl HPI.out h09 (by omega) ?_; intro A4 c4 w4 hp4 hg4; rw [Nat.zero_add] at hp4 ⊢; rw [List.nil_append] at hp4; have hb4 : Below wr.heap.size wr w4 := ((Below.refl _ wr).alloc (Nat.le_refl _) _).grown hg4 (by omega) (fun g hg => by injection hg with hg; simp at hg; omega); have HB4 := hide (HB.out.trans (hb4.mono hsz)); have HO4 := hide (HO.out.below hb4); have HNEW := hide (NewL.one HO4.out (q := ⟨q.ps, A4, c4⟩) (hp4.mono hsz) (HO.out.fresh hp4)); have hs4 := HB4.out.size; clear hp4 hg4)
        | (at_builtin; refine wpList_append_lys rfl (.tmp 12) (.tmp 19) rfl w.heap.size k c2 1 1 A2 (some ⟨w4.heap.size, 0, none⟩) rs [⟨q.ps, A4, c4⟩] rfl rfl HNEW.out (by omega) (by simp; omega) ?_; intro A5 c5 w5 ho5 hg5 hat5; clear hat5))
      have HO5 := hide ho5
      have HB5 := hide ((HB4.out.alloc hs4 _).grown hg5 (by simp; omega) fun g hg => (HO.out.block g hg).1)
      have HE5 := hide (show lys (rs ++ [⟨q.ps, A4, c4⟩]) = (lys qs).take (k + 1) by rw [lys_append, HE.out, HE2.out]; rfl)
      clear ho5 hg5
      go_roundw
      case rel => exact ⟨k + 1, c5, A5, _, by omega, by go_num, rfl, HO5.out, HE5.out, HB5.out⟩
      case measure => simp [intOf]; omega
    · obtain rfl : k = n := by omega
      go_wp2
      go_ret
      refine ⟨_, _, _, rfl, HO.out, ?_, HB.out⟩
      have := HE.out
      rwa [List.take_of_length_le (by rw [lys_length]; omega)] at this
end Go.Proofs.Ytapfbkjgmfmepab
