/-
  The program's shelfOf: the objects of a valid store in a map by their numbers.
-/
import Derived.Test.YtfianpjoifcphaaGreatG4
import Derived.Test.YtfianpjoifcphaaGreatShelf
import Derived.Carry
namespace Go.Proofs.YtfianpjoifcphaaGreat
open Go.RowKit Go.Maps
set_option linter.unusedVariables false
set_option maxRecDepth 100000

/-! ### at the operation -/
section
variable {w : World} {ops : Array Oper} {rest : List Oper} {o : Oper} {a : Act} {Q : Exit → Act → World → Prop}
theorem wpList_put (hg : o.guard = none) (m x v : Operand) (hop : o.op = Op.mapUpdate 79 m x v) (b N : Nat) (f : Int → Option Value) (hm : a.eval m = .map (some b)) (h : Shelf w b N f) (hN : N ≤ 17592186044416)
    (y : Int) (u : Value) (hx : a.eval x = .int .i64 y) (hv : a.eval v = u) (h0 : -9223372036854775808 ≤ y) (h1 : y ≤ 9223372036854775807)
    (hK : ∀ w', Shelf w' b (N + 1) (fun z => if z = y then some u else f z) → w.grownBy w' (some b) → wpList Tryz.prog ops Q rest (a.put o.dst undef) w') : wpList Tryz.prog ops Q (o :: rest) a w := by
  refine wpList_plain hg fun K' hK' => ?_
  obtain ⟨w', hrun, r1, r2⟩ := h.put hN u h0 h1
  unfold Oper.wp
  simp [execOp, hop, hm, hx, hv, hrun, Result.andThen]
  exact hK' _ _ (hK w' r1 r2)
theorem wpList_look_ok (hg : o.guard = none) (m x : Operand) (hop : o.op = Op.lookup 79 m x true) (b N : Nat) (f : Int → Option Value) (hm : a.eval m = .map (some b)) (h : Shelf w b N f)
    (y : Int) (v : Value) (t : Bool) (hx : a.eval x = .int .i64 y) (h0 : -9223372036854775808 ≤ y) (h1 : y ≤ 9223372036854775807) (hv : (f y).getD (.slice none 0 0) = v) (ht : (f y).isSome = t)
    (hK : wpList Tryz.prog ops Q rest (a.put o.dst (.tuple #[v, .bool t])) w) : wpList Tryz.prog ops Q (o :: rest) a w := by
  refine wpList_plain hg fun K' hK' => ?_
  have hrun := h.look_ok h0 h1
  rw [hv, ht] at hrun
  unfold Oper.wp
  simp [execOp, hop, hm, hx, hrun, Result.andThen]
  exact hK' _ _ hK
theorem wpList_look (hg : o.guard = none) (m x : Operand) (hop : o.op = Op.lookup 79 m x false) (b N : Nat) (f : Int → Option Value) (hm : a.eval m = .map (some b)) (h : Shelf w b N f)
    (y : Int) (v : Value) (hx : a.eval x = .int .i64 y) (h0 : -9223372036854775808 ≤ y) (h1 : y ≤ 9223372036854775807) (hv : (f y).getD (.slice none 0 0) = v)
    (hK : wpList Tryz.prog ops Q rest (a.put o.dst v) w) : wpList Tryz.prog ops Q (o :: rest) a w := by
  refine wpList_plain hg fun K' hK' => ?_
  have hrun := h.look h0 h1
  rw [hv] at hrun
  unfold Oper.wp
  simp [execOp, hop, hm, hx, hrun, Result.andThen]
  exact hK' _ _ hK
theorem wpList_lenS (hg : o.guard = none) (m : Operand) (hop : o.op = Op.call { callee := Callee.builtin Builtin.len, args := #[m], argTypes := #[79] }) (b N : Nat) (f : Int → Option Value) (ks : List Int) (hm : a.eval m = .map (some b)) (h : Shelf w b N f) (hd : Dom f ks)
    (n : Nat) (hn : ks.length = n) (hK : wpList Tryz.prog ops Q rest (a.put o.dst (.int .i64 n)) w) : wpList Tryz.prog ops Q (o :: rest) a w := by
  refine wpList_plain hg fun K' hK' => ?_
  have hrun := h.len hd o.type
  rw [hn] at hrun
  unfold Oper.wp
  simp [execOp, hop, resolve, invoke, builtin, hm, hrun, Result.andThen]
  exact hK' _ _ hK
end

theorem run_makeShelf (n : Int) (w : World) : (Instr.makeMap 79 (some (.int .i64 n))).run Tryz.prog w = .ok (.map (some w.heap.size)) (w.alloc (.map #[] 0)) := by
  simp [Instr.makeMap, run_underlying Tryz.underlying79, asInt, asIntOf, Result.andThen]

/-! ### what a shelf stands for -/
structure Tied (w : World) (B : Nat) (f : Int → Option Value) (t : Sto) : Prop where
  asc : Asc t
  mem : ∀ x, (f x).isSome = hasS t x
  val : ∀ o ∈ t, ∃ A c, f o.1 = some (.slice A o.2.length c) ∧ Ints w B A o.2.length o.2 ∧ o.2.length ≤ c ∧ c ≤ maxLen ∧ (A = none → c = 0) ∧ o.2.length ≤ 6
section
variable {w w' : World} {B : Nat} {f : Int → Option Value} {t : Sto}
theorem Tied.nil_ (w : World) (B : Nat) : Tied w B (fun _ => none) [] := ⟨List.Pairwise.nil, fun _ => rfl, by simp⟩
theorem Tied.dom (h : Tied w B f t) : Dom f (t.map (·.1)) := by
  refine ⟨List.pairwise_map.2 h.asc, fun x => ?_⟩
  rw [h.mem x, hasS_iff, List.mem_map]
theorem Tied.keep (h : Tied w B f t) (hk : ∀ p : Addr, p.block < B → w'.cell? p = w.cell? p) : Tied w' B f t :=
  ⟨h.asc, h.mem, fun o ho => by
    obtain ⟨A, c, e, hi, r⟩ := h.val o ho
    exact ⟨A, c, e, hi.keep hk, r⟩⟩
theorem Tied.below {B2 : Nat} (h : Tied w B f t) (hb : Below B2 w w') (hB : B ≤ B2) : Tied w' B f t := h.keep fun _ hp => hb.cell (by omega)
theorem Tied.more {B' : Nat} (h : Tied w B f t) (hB : B ≤ B') : Tied w B' f t :=
  ⟨h.asc, h.mem, fun o ho => by
    obtain ⟨A, c, e, hi, r⟩ := h.val o ho
    exact ⟨A, c, e, hi.more hB, r⟩⟩
theorem Tied.ins (h : Tied w B f t) {id : Int} {vs : List Int} {A : Option Addr} {c m : Nat} (hn : hasS t id = false) (hm : vs.length = m) (hi : Ints w B A m vs) (h1 : m ≤ c) (h2 : c ≤ maxLen) (h3 : A = none → c = 0) (h4 : m ≤ 6) :
    Tied w B (fun z => if z = id then some (.slice A m c) else f z) (insS t id vs) := by
  subst hm
  refine ⟨insS_asc h.asc hn, fun x => ?_, fun o ho => ?_⟩
  · by_cases hx : x = id
    · subst hx
      rw [insS_has]
      simp
    · simp only [if_neg hx]
      rw [h.mem x, Bool.eq_iff_iff, hasS_iff, hasS_iff]
      constructor
      · rintro ⟨o, ho, e⟩; exact ⟨o, insS_mem.2 (.inr ho), e⟩
      · rintro ⟨o, ho, e⟩
        rcases insS_mem.1 ho with rfl | ho
        · exact absurd e.symm hx
        · exact ⟨o, ho, e⟩
  · rcases insS_mem.1 ho with rfl | ho
    · exact ⟨A, c, by simp, hi, h1, h2, h3, h4⟩
    · obtain ⟨A', c', e, r⟩ := h.val o ho
      have hx : o.1 ≠ id := hasS_no.1 hn o ho
      exact ⟨A', c', by simp only [if_neg hx]; exact e, r⟩
theorem Tied.last (h : Tied w B f t) {id : Int} {vs : List Int} {A : Option Addr} {c m : Nat} (hn : ∀ o ∈ t, o.1 < id) (hm : vs.length = m) (hi : Ints w B A m vs) (h1 : m ≤ c) (h2 : c ≤ maxLen) (h3 : A = none → c = 0) (h4 : m ≤ 6) :
    Tied w B (fun z => if z = id then some (.slice A m c) else f z) (t ++ [(id, vs)]) := by
  have := h.ins (id := id) (vs := vs) (hasS_no.2 fun o ho => by have := hn o ho; omega) hm hi h1 h2 h3 h4
  rwa [insS_last hn] at this
end

/-- a shelf and whether there is one -/
def ShelfPost (w0 w : World) (B : Nat) (t : Sto) (e : Ending) (w' : World) : Prop :=
  ∃ b f, e = .returned (.tuple #[.map (some b), .bool true]) ∧ w.heap.size ≤ b ∧ Shelf w' b 6 f ∧ Tied w0 B f t ∧ Below w.heap.size w w'

theorem asc_take {s : Sto} (h : Asc s) {k : Nat} {o : Int × List Int} (hk : s[k]? = some o) : ∀ p ∈ s.take k, p.1 < o.1 := by
  intro p hp
  obtain ⟨i, hi⟩ := List.getElem?_of_mem hp
  have hik : i < k := by
    have := (List.getElem?_eq_some_iff.1 hi).1
    rw [List.length_take] at this
    omega
  rw [List.getElem?_take_of_lt hik] at hi
  have hl : k < s.length := (List.getElem?_eq_some_iff.1 hk).1
  have e1 := (List.getElem?_eq_some_iff.1 hk).2
  have e2 := (List.getElem?_eq_some_iff.1 hi).2
  rw [← e1, ← e2]
  exact List.pairwise_iff_getElem.1 h i k (by omega) hl hik

set_option maxHeartbeats 1600000 in
theorem implShelf_no (A : Option Addr) (n c B : Nat) (qs : List Oq) (w : World) (hr : Objs w B A n qs) (hB : B ≤ w.heap.size) (hn : n ≤ 1000000000000) (hv : stV (obs qs) = false) :
    Calls Tryz.prog 103 #[.slice A n c] w fun e w' => e = .returned (.tuple #[.map none, .bool false]) ∧ Below w.heap.size w w' := by
  have H1 := hide (hv ▸ implSV A n c B qs w hr hB hn)
  clear hr hv
  go_enter Tryz.func103, Tryz.ntmps103
  go_wp2_with (go_at_call 105; refine H1.out.mono ?_; rintro e w1 ⟨rfl, hb1⟩; have HB1 := hide hb1; clear hb1)
  go_ret2
  exact ⟨rfl, HB1.out⟩

set_option maxHeartbeats 3200000 in
theorem implShelf_yes (A : Option Addr) (n c B : Nat) (qs : List Oq) (w : World) (hr : Objs w B A n qs) (hB : B ≤ w.heap.size) (hn : n ≤ 1000000000000) (hv : stV (obs qs) = true) :
    Calls Tryz.prog 103 #[.slice A n c] w (ShelfPost w w B (obs qs)) := by
  have H1 := hide (hv ▸ implSV A n c B qs w hr hB hn)
  have HR := hide hr
  have HV := hide hv
  have hn6 : n ≤ 6 := by rw [← hr.1]; exact (stV_len hv).1
  have hmk := fun (n : Int) (W : World) => run_makeShelf n W
  clear hr hv
  go_enter Tryz.func103, Tryz.ntmps103
  go_wp2_with (go_at_call 105; refine H1.out.mono ?_; rintro e w1 ⟨rfl, hb1⟩; have HB1 := hide hb1; clear hb1)
  have hs1 := HB1.out.size
  go_loopw [6, 15] (fun _ i wr => ∃ (k : Nat) (f : Int → Option Value), k ≤ n ∧ i = .int .i64 k ∧ Hid (Shelf wr w1.heap.size k f) ∧ Hid (Tied w B f ((obs qs).take k)) ∧ Hid (Below w.heap.size w wr)) (fun _ i _ => n - (RowKit.intOf i).toNat)
  case atStart => exact ⟨0, _, Nat.zero_le _, rfl, Shelf.made w1, Tied.nil_ w B, HB1.out.alloc hs1 _⟩
  case round =>
    obtain ⟨k, f, hk, rfl, HS, HT, HB⟩ := hrel
    have hs := HB.out.size
    by_cases hlt : k < n
    · obtain ⟨q, hq⟩ : ∃ q, qs[k]? = some q := ⟨_, List.getElem?_eq_getElem (by rw [HR.out.1]; exact hlt)⟩
      have hob := (stV_iff.1 HV.out).1 q.ob (List.mem_map_of_mem (List.mem_of_getElem? hq))
      obtain ⟨o1, o2, o3⟩ := obOk_iff.1 hob
      have hm6 := (valsOk_len o3).2
      have HTK := hide (asc_take (stV_asc HV.out) (obs_get hq))
      have HTE := hide (show (obs qs).take (k + 1) = (obs qs).take k ++ [q.ob] by rw [List.take_add_one, obs_get hq]; rfl)
      have hW := HR.out.words hq
      obtain ⟨ad, p, rfl, hp, hb, hc0, hc1⟩ := (HR.out.below HB.out hB).at_ hq
      obtain ⟨hi, hle, hcm, hnil⟩ := hW
      clear hq hob o3
      obtain ⟨id, vs, qa, qc⟩ := q
      simp only [Oq.sl, Oq.ob] at hc0 hc1 hi hle hcm hnil o1 o2 hm6 HTK HTE
      obtain ⟨m, hm⟩ : ∃ m, vs.length = m := ⟨_, rfl⟩
      rw [hm] at hc1 hi hle hm6
      have HT2 := hide (HT.out.last HTK.out hm hi hle hcm hnil hm6)
      rw [← HTE.out] at HT2
      have hbl := Blk.new wr 139 #[.int .i64 id, .slice qa m qc]
      have hx0 := (cell_facts2 hbl).1
      have hx1 := (cell_facts2 hbl).2
      have HSA := hide (HS.out.alloc (.cells #[.int .i64 id, .slice qa m qc] 139))
      have HBA := hide (HB.out.alloc hs (.cells #[.int .i64 id, .slice qa m qc] 139))
      have k0 : (0 : Int) ≤ (k : Int) := by omega
      have k1 : (k : Int) < (n : Int) := by omega
      have i0 : -9223372036854775808 ≤ id := by omega
      have i1 : id ≤ 9223372036854775807 := by omega
      have kN : k ≤ 17592186044416 := by omega
      clear hm hi hle hcm hnil hbl
      go_wp2_with (at_mapUpdate; refine wpList_put rfl (.tmp 19) (.tmp 21) (.tmp 23) rfl w1.heap.size k f rfl HSA.out kN id (.slice qa m qc) rfl rfl i0 i1 ?_; intro w2 hsh2 hg2; have HS2 := hide hsh2; have HB2 := hide (HBA.out.grown hg2 HBA.out.size (fun g hg => by injection hg with hg; omega)); clear hsh2 hg2)
      go_roundw
      case rel => exact ⟨k + 1, _, by omega, by go_num, HS2.out, HT2.out, HB2.out⟩
      case measure => simp [RowKit.intOf]; omega
    · obtain rfl : k = n := by omega
      have HTF := hide (show Tied w B f (obs qs) by have := HT.out; rwa [List.take_of_length_le (by rw [obs_length, HR.out.1]; exact Nat.le_refl _)] at this)
      go_wp2
      go_ret2
      exact ⟨_, f, rfl, hs1, HS.out.mono hn6, HTF.out, HB.out⟩
end Go.Proofs.YtfianpjoifcphaaGreat
