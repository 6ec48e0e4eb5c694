/-
  The program's treesOf, layersOf.
-/
import Derived.Test.YtapfbkjgmfmepaaImpL5
namespace Go.Proofs.Ytapfbkjgmfmepaa
open Go.RowKit Go.Shelf
set_option linter.unusedVariables false
set_option maxRecDepth 100000

/-- what an append of a tree asks -/
structure NewTr (w : World) (base n : Nat) (A : Option Addr) (c : Nat) (ts : List Tr) (q : Nat) (t : Tr) : Prop where
  own : Trs w base A n c ts
  src : Blk w q 69 #[.pointer t.pt]
  tri : TrI w t
  ge : ∀ g ∈ t.ids, base ≤ g
  nd : t.ids.Nodup
  sep : ∀ u ∈ ts, ∀ g ∈ u.ids, g ∉ t.ids
theorem wpList_append_tr {w : World} {ops : Array Oper} {rest : List Oper} {o : Oper} {a : Act} {Q : Exit → Act → World → Prop} (hgd : o.guard = none) (s x : Operand)
    (ho : o.op = .call { callee := .builtin .append, args := #[s, x], argTypes := #[61, 61] })
    (base n c q : Nat) (A : Option Addr) (ts : List Tr) (t : Tr) (hs : a.eval s = .slice A n c) (hx : a.eval x = .slice (some ⟨q, 0, none⟩) 1 1) (hnew : NewTr w base n A c ts q t)
    (hn : n + 1 ≤ 100000000000) (hbase : base ≤ w.heap.size)
    (h : ∀ A2 c2 w', Trs w' base A2 (n + 1) c2 (ts ++ [t]) → w.grownBy w' (Value.slice A n c).ownBlock → wpList Try.prog ops Q rest (a.put o.dst (.slice A2 (n + 1) c2)) w') :
    wpList Try.prog ops Q (o :: rest) a w := by
  refine wpList_plain hgd fun K hK => ?_
  obtain ⟨i0, hi, hz0, hz1, hz2⟩ := info_parts pairPT.info
  obtain ⟨v', w', hrun, h2, h3, _, h5⟩ := run_append_own_at (P := Try.prog) w base 61 o.type 69 i0 (.pointer none) 1 8 pairPT.und hi hz0 hz1 hz2 pairPT.zs pairPT.pos
    (.slice A n c) n (pts ts) hnew.own.row ⟨q, 0, none⟩ 1 1 [.pointer t.pt] (by simp) (by
      intro j u hu
      rw [add_plain', hnew.src.cell j]
      rcases j with _ | j
      · exact hu
      · simp at hu) (by intro u hu; simp at hu; subst hu; rfl) (by unfold maxLen; omega) (by omega) hbase
  obtain ⟨A2, c2, rfl⟩ := slice_of_own h2
  have hT : Trs w' base A2 (n + 1) c2 (ts ++ [t]) := by
    refine ⟨by simp [hnew.own.len], by rw [pts_append]; exact h2, fun u hu => ?_, fun u hu => ?_, ?_⟩
    · rcases List.mem_append.1 hu with hu | hu
      · exact (hnew.own.tri u hu).grown h3 fun g hg => hnew.own.off g hg u hu
      · rw [List.mem_singleton] at hu
        subst hu
        exact hnew.tri.grown h3 fun g hg => hnew.tri.off hnew.own.row (by decide) g hg
    · rcases List.mem_append.1 hu with hu | hu
      · exact hnew.own.ge u hu
      · rw [List.mem_singleton] at hu
        subst hu
        exact hnew.ge
    · rw [List.flatMap_append, List.nodup_append]
      refine ⟨hnew.own.nd, by simpa using hnew.nd, fun i hi j hj e => ?_⟩
      subst e
      obtain ⟨u, hu, hiu⟩ := List.mem_flatMap.1 hi
      exact hnew.sep u hu i hiu (by simpa using hj)
  unfold Oper.wp execOp
  simp only [ho, resolve, invoke, builtin, Sem.run_bind, Sem.run_pure, Result.andThen_ok, List.map_toArray, List.map_cons, List.map_nil, hs, hx, hrun]
  exact hK _ _ (h A2 c2 w' hT h3)
theorem Trs.made (w : World) (base : Nat) (hb : base ≤ w.heap.size) {w1 : World} {n : Nat} (h : w1.ownsRow base 69 1 (.slice (some ⟨w.heap.size, 0, none⟩) 0 n) 0 []) : Trs w1 base (some ⟨w.heap.size, 0, none⟩) 0 n [] :=
  ⟨rfl, h, by simp, by simp, by simp⟩
def tvs (ts : List Tr) : List Ly := ts.map Tr.vals
theorem tvs_length (ts : List Tr) : (tvs ts).length = ts.length := by unfold tvs; rw [List.length_map]
theorem tvs_get {ts : List Tr} {k : Nat} {t : Tr} (h : ts[k]? = some t) : (tvs ts)[k]? = some t.vals := by unfold tvs; rw [List.getElem?_map, h]; rfl
theorem tvs_getD {ts : List Tr} {k : Nat} {t : Tr} (h : ts[k]? = some t) : (tvs ts).getD k [] = t.vals := by simp [List.getD, tvs_get h]
theorem tvs_append (ts us : List Tr) : tvs (ts ++ us) = tvs ts ++ tvs us := by unfold tvs; rw [List.map_append]
theorem tvs_set (ts : List Tr) (k : Nat) (t : Tr) : tvs (ts.set k t) = (tvs ts).set k t.vals := by unfold tvs; rw [List.map_set]
theorem tvs_take (ts : List Tr) (k : Nat) : tvs (ts.take k) = (tvs ts).take k := by unfold tvs; rw [List.map_take]

set_option maxHeartbeats 3200000 in
theorem treesOf_no (A : Option Addr) (n c B : Nat) (qs : List Lq) (w : World) (hr : LyI w B A n qs) (hB : B ≤ w.heap.size) (hs : ∀ q ∈ qs, q.ps.length ≤ 1000000000) (hn : n ≤ 1000000000) (hv : laysV (lys qs) = false) :
    Calls Try.prog 47 #[.slice A n c] w fun e w' => e = .returned (.tuple #[.slice none 0 0, .bool false]) ∧ Below w.heap.size w w' := by
  have HL := hide (implLayers A n c B qs w hr hB hs hn)
  rw [hv] at HL
  clear hr hs hv
  go_enter Try.func47, Try.ntmps47
  go_wp2_with fail
  refine HL.out.mono ?_
  rintro e w2 ⟨rfl, hb2⟩
  have HB2 := hide hb2
  clear hb2
  go_wp2
  go_ret2
  exact ⟨rfl, HB2.out⟩

set_option maxHeartbeats 6400000 in
theorem treesOf_yes (A : Option Addr) (n c B : Nat) (qs : List Lq) (w : World) (hr : LyI w B A n qs) (hB : B ≤ w.heap.size) (hv : laysV (lys qs) = true) :
    Calls Try.prog 47 #[.slice A n c] w fun e w' => ∃ A2 c2 ts, e = .returned (.tuple #[.slice A2 n c2, .bool true]) ∧ Trs w' w.heap.size A2 n c2 ts ∧ tvs ts = lys qs ∧ Below w.heap.size w w' := by
  obtain ⟨i0, hi, hz0, hz1, hz2⟩ := info_parts pairPT.info
  obtain ⟨hlay, hn1, hn5⟩ := laysV_iff.1 hv
  have hl := hr.1
  rw [lys_length, hl] at hn1 hn5
  have hs : ∀ q ∈ qs, q.ps.length ≤ 12 := fun q hq => layV_len (hlay q.ps (List.mem_map_of_mem hq))
  have HL := hide (implLayers A n c B qs w hr hB (fun q hq => Nat.le_trans (hs q hq) (by decide)) (by omega))
  rw [hv] at HL
  have HR := hide hr
  have HS := hide hs
  have hb2 : i0.bytes * n ≤ 281474976710656 := by rw [hz2]; omega
  clear hr hs hv hlay
  go_enter Try.func47, Try.ntmps47
  go_wp2_with fail
  refine HL.out.mono ?_
  rintro e w2 ⟨rfl, hb2'⟩
  have HB2 := hide hb2'
  have hs2 := hb2'.size
  clear hb2' HL
  go_wp2_with (at_make; refine wpList_make_own _ rfl _ _ 61 rfl w.heap.size 69 i0 (.pointer none) 1 Try.underlying61 hi hz0 hz1 .i64 .i64 _ n rfl rfl rfl hb2 (by unfold maxLen; omega) hs2 ?_; intro w3 hown hgrow)
  have HT3 := hide (Trs.made w2 w.heap.size hs2 hown)
  have HB3 := hide (HB2.out.trans ((below_of_grown hgrow).mono hs2))
  clear hown hgrow hi hz0 hz1 hz2 hb2
  go_loopw [4, 6, 15] (fun o _ i wr => ∃ (k c2 : Nat) (A2 : Option Addr) (ts : List Tr), k ≤ n ∧ i = .int .i64 k ∧ o = .slice A2 k c2 ∧ Hid (Trs wr w.heap.size A2 k c2 ts) ∧ Hid (tvs ts = (lys qs).take k) ∧ Hid (Below w.heap.size w wr)) (fun _ _ i _ => n - (intOf i).toNat)
  case atStart => exact ⟨0, n, _, [], Nat.zero_le _, rfl, rfl, HT3.out, rfl, HB3.out⟩
  case round =>
    obtain ⟨k, c2, A2, ts, hk, rfl, rfl, HT, HE, HB⟩ := hrel
    have hsz := HB.out.size
    by_cases hlt : k < n
    · obtain ⟨q, hq⟩ : ∃ q, qs[k]? = some q := ⟨_, List.getElem?_eq_getElem (by omega)⟩
      have hi := HR.out.below HB.out hB
      obtain ⟨ad, rfl, hb, hc0⟩ := hi.at_ hq
      obtain ⟨l1, l2, l3, l4⟩ := hi.layer hq
      have HO := hide (treeOf_any q.ps.length wr B q.ps.length q.cap q.addr q.ps (Nat.le_refl _) l1 (by omega) l2 l3)
      have HE2 := hide (show (lys qs).take (k + 1) = (lys qs).take k ++ [q.ps] by rw [List.take_add_one, lys_get hq]; rfl)
      clear hi hq l1 l2 l3 l4
      unfold Lq.sl at hc0
      go_wp2_with fail
      refine HO.out.mono ?_
      rintro e w4 ⟨t, rfl, hN4, hB4⟩
      have hb4 := HB.out.trans (hB4.mono hsz)
      have HB4 := hide (hb4.alloc hb4.size (.cells #[.pointer t.pt] 69))
      have HNEW := hide (show NewTr (w4.alloc (.cells #[.pointer t.pt] 69)) w.heap.size k A2 c2 ts w4.heap.size t from
        ⟨(HT.out.below hB4).alloc _, Blk.new w4 _ _, hN4.1.alloc _, fun g hg => Nat.le_trans hsz (hN4.2.2.1 g hg), hN4.2.2.2, fun u hu g hg hm => by
          have h1 := (HT.out.tri u hu).lt g hg
          have h2 := hN4.2.2.1 g hm
          omega⟩)
      have HV4 := hide hN4.2.1
      clear hN4 hB4 hb4 HO
      go_wp2_with (at_builtin; refine wpList_append_tr rfl (.tmp 19) (.tmp 22) rfl w.heap.size k c2 w4.heap.size A2 ts t rfl rfl HNEW.out (by omega) HB4.out.size ?_; intro A5 c5 w5 ht5 hg5)
      have HT5 := hide ht5
      have HB5 := hide (HB4.out.grown hg5 HB4.out.size fun g hg => (HT.out.block g hg).1)
      have HE5 := hide (show tvs (ts ++ [t]) = (lys qs).take (k + 1) by rw [tvs_append, HE.out, HE2.out]; show _ ++ [t.vals] = _; rw [HV4.out])
      clear ht5 hg5
      go_wp2
      go_roundw
      case rel => exact ⟨k + 1, c5, A5, _, by omega, by go_num, rfl, HT5.out, HE5.out, HB5.out⟩
      case measure => simp [intOf]; omega
    · obtain rfl : k = n := by omega
      go_wp2
      go_ret2
      refine ⟨_, _, _, rfl, HT.out, ?_, HB.out⟩
      have := HE.out
      rwa [List.take_of_length_le (by rw [lys_length]; omega)] at this

/-- layers handed back -/
def LysPost (w : World) (v : Bool) (ls : List Ly) (e : Ending) (w' : World) : Prop :=
  ∃ A2 m c2 qs, e = .returned (.tuple #[.slice A2 m c2, .bool v]) ∧ OwnL w' w.heap.size A2 m c2 qs ∧ lys qs = ls ∧ Below w.heap.size w w'

theorem info_ly : (Try.prog.info? 27).map (fun i => (i.zero, i.size, i.bytes)) = some (some (.slice none 0 0), 1, 24) := by kernel_rfl
theorem OwnL.made (w : World) (base : Nat) {w1 : World} {n : Nat} (h : w1.ownsRow base 27 1 (.slice (some ⟨w.heap.size, 0, none⟩) 0 n) 0 []) : OwnL w1 base (some ⟨w.heap.size, 0, none⟩) 0 n [] :=
  ⟨rfl, h, by simp, by simp⟩

set_option maxHeartbeats 6400000 in
theorem layersOf_any (A : Option Addr) (n c base : Nat) (ts : List Tr) (w : World) (hr : Trs w base A n c ts) (hlen : ∀ t ∈ ts, t.vals.length ≤ 1000000) (hn : n ≤ 1000000000) :
    Calls Try.prog 54 #[.slice A n c] w fun e w' => ∃ A2 c2 qs, e = .returned (.slice A2 n c2) ∧ OwnL w' w.heap.size A2 n c2 qs ∧ lys qs = tvs ts ∧ Below w.heap.size w w' := by
  obtain ⟨i0, hi, hz0, hz1, hz2⟩ := info_parts info_ly
  have hb2 : i0.bytes * n ≤ 281474976710656 := by rw [hz2]; omega
  have hl := hr.len
  have HR := hide hr
  have HS := hide hlen
  clear hr hlen
  go_enter Try.func54, Try.ntmps54
  go_wp2_with (at_make; refine wpList_make_own _ rfl _ _ 23 rfl w.heap.size 27 i0 (.slice none 0 0) 1 Try.underlying23 hi hz0 hz1 .i64 .i64 _ n rfl rfl rfl hb2 (by unfold maxLen; omega) (Nat.le_refl _) ?_; intro w1 hown hgrow)
  have HO1 := hide (OwnL.made w w.heap.size hown)
  have HB1 := hide (below_of_grown hgrow)
  clear hown hgrow hi hz0 hz1 hz2 hb2
  go_loopw [3, 5, 11] (fun o _ i wr => ∃ (k c2 : Nat) (A2 : Option Addr) (qs : List Lq), k ≤ n ∧ i = .int .i64 k ∧ o = .slice A2 k c2 ∧ Hid (OwnL wr w.heap.size A2 k c2 qs) ∧ Hid (lys qs = (tvs ts).take k) ∧ Hid (Below w.heap.size w wr)) (fun _ _ i _ => n - (intOf i).toNat)
  case atStart => exact ⟨0, n, _, [], Nat.zero_le _, rfl, rfl, HO1.out, rfl, HB1.out⟩
  case round =>
    obtain ⟨k, c2, A2, qs, hk, rfl, rfl, HO, HE, HB⟩ := hrel
    have hsz := HB.out.size
    by_cases hlt : k < n
    · obtain ⟨t, ht⟩ : ∃ t, ts[k]? = some t := ⟨_, List.getElem?_eq_getElem (by omega)⟩
      have hi := HR.out.below HB.out
      obtain ⟨g, rfl, hg1, hg2⟩ := hi.shape (by omega)
      have hc0 := hi.cell ht
      have HAP := hide (appendTo_any wr.heap.size t wr none 0 0 [] (hi.tri t (List.mem_of_getElem? ht)) (PrR.nil_ _ _) (Nat.le_refl _) (by have := HS.out t (List.mem_of_getElem? ht); omega))
      have HE2 := hide (show (tvs ts).take (k + 1) = (tvs ts).take k ++ [t.vals] by rw [List.take_add_one, tvs_get ht]; rfl)
      clear hi ht
      go_wp2_with fail
      refine HAP.out.mono ?_
      rintro e w4 ⟨A4, c4, rfl, hp4, hg4, _⟩
      have hp4' : PrR w4 wr.heap.size A4 (0 + t.vals.length) c4 t.vals := hp4
      rw [Nat.zero_add] at hp4' ⊢
      have hb4 := below_of_grown hg4
      have HP4 := hide hp4'
      have HB4 := hide (HB.out.trans (hb4.mono hsz))
      have HO4 := hide (HO.out.below hb4)
      have HSEP := hide (show ∀ (j : Nat) (r : Lq), qs[j]? = some r → ∀ g2, r.sl.ownBlock = some g2 → (Lq.mk t.vals A4 c4).sl.ownBlock ≠ some g2 from fun j r hj g2 hg hg' => by
        have h1 := (HO.out.wblock hj g2 hg).2
        have h2 := (hp4'.block g2 hg').1
        omega)
      have HNEW := hide (NewL.one HO4.out (q := ⟨t.vals, A4, c4⟩) (hp4'.mono hsz) HSEP.out)
      have hs4 := HB4.out.size
      clear hp4 hp4' hg4 hb4 HAP
      go_wp2_with (at_builtin; refine wpList_append_lys rfl (.tmp 15) (.tmp 18) rfl w.heap.size k c2 1 1 A2 (some ⟨w4.heap.size, 0, none⟩) qs [⟨t.vals, A4, c4⟩] rfl rfl HNEW.out (by omega) (by simp; omega) ?_; intro A5 c5 w5 ho5 hg5 hat5; clear hat5)
      have HO5 := hide ho5
      have HB5 := hide ((HB4.out.alloc hs4 _).grown hg5 (by simp; omega) fun g hg => (HO.out.block g hg).1)
      have HE5 := hide (show lys (qs ++ [⟨t.vals, A4, c4⟩]) = (tvs ts).take (k + 1) by rw [lys_append, HE.out, HE2.out]; rfl)
      clear ho5 hg5
      go_wp2
      go_roundw
      case rel => exact ⟨k + 1, c5, A5, _, by omega, by go_num, rfl, HO5.out, HE5.out, HB5.out⟩
      case measure => simp [intOf]; omega
    · obtain rfl : k = n := by omega
      go_wp2
      go_ret
      refine ⟨_, _, _, rfl, HO.out, ?_, HB.out⟩
      have := HE.out
      rwa [List.take_of_length_le (by rw [tvs_length]; omega)] at this
end Go.Proofs.Ytapfbkjgmfmepaa
