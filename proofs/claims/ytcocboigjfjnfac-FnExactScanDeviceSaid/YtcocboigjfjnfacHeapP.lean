/-
  container/heap.Push and Pop over the merger; the merger's add and take.
-/
import Derived.Test.YtcocboigjfjnfacHeapD
namespace Go.Proofs.Ytcocboigjfjnfac
open Go.RowKit
set_option linter.unusedVariables false
set_option maxRecDepth 100000

theorem fnH_append (hs hs2 : List Hq) : fnH (hs ++ hs2) = fnH hs ++ fnH hs2 := by unfold fnH; rw [List.map_append]
theorem keyL_left {hs : List Hq} {x : Hq} {k : Nat} (hk : k < hs.length) : keyL (fnH (hs ++ [x])) k = keyL (fnH hs) k := by
  rw [fnH_append]
  unfold keyL
  simp only [List.getD, List.getElem?_append_left (show k < (fnH hs).length by rw [fnH_length]; exact hk)]

set_option maxHeartbeats 3200000 in
theorem hpush_any (base b n c : Nat) (A : Option Addr) (hs : List Hq) (x : Hq) (w : World) (hm : Mg w base b A n c hs) (hx : LstOk w base x) (hn : n < 1000) (hk : HpOk (keyL (fnH hs)) n) :
    Calls Try.prog 55 #[hpV b, .iface 25 x.sl] w fun e w' => e = .returned (.tuple #[]) ∧ ∃ A2 c2 hs', HeapPost w base b (n + 1) A2 c2 (hs ++ [x]) (n + 1) w' hs' := by
  have HP := hide (push_any base b n c A hs x w hm hx hn)
  have hmp := meth_push b w
  have hl := hm.len
  have HK : Hid (HpUp (keyL (fnH (hs ++ [x]))) (n + 1) n) := hk.last _ fun k hk2 => keyL_left (by rw [hl]; exact hk2)
  clear hm hx hk hl
  generalize x.sl = xv at *
  unfold hpV
  go_enter Try.func55, Try.ntmps55
  go_wp2_with fail
  refine HP.out.mono ?_
  rintro e w1 ⟨rfl, A2, c2, hm1, ht1⟩
  have HM := hide hm1
  have HT := hide ht1
  have hml := meth_len b (n + 1) c2 A2 w1 (mg_cell hm1)
  have kw : IntKind.i64.wrap (((n + 1 : Nat) : Int) - 1) = (n : Int) := IntWalk.i64_in _ (by omega) |>.trans (by omega)
  have HU := hide (up_any base b (n + 1) c2 n A2 (hs ++ [x]) w1 hm1 (by omega) HK.out)
  obtain ⟨N1, hN1⟩ : ∃ N1, n + 1 = N1 := ⟨_, rfl⟩
  rw [hN1] at hml kw HU
  have HLN := hide (len_any A2 N1 c2 w1)
  have HNN := hide hN1
  clear hm1 ht1 hmp hN1
  unfold hpV at HU
  go_wp2_with fail
  refine HLN.out.mono ?_
  rintro e w2 ⟨rfl, rfl⟩
  go_wp2_with fail
  refine HU.out.mono ?_
  rintro e w3 ⟨rfl, hs', h⟩
  have HH := hide (show HeapPost w base b (n + 1) A2 c2 (hs ++ [x]) (n + 1) w3 hs' by rw [HNN.out]; exact ⟨h.mg, h.perm, h.rest, h.heap, HT.out.trans h.trn⟩)
  clear h
  go_wp2
  exact bodyPost_end (results_none Try.results55 _ _ _) rfl ⟨rfl, A2, c2, hs', HH.out⟩

/-- the first list of a heap is taken: it begins with the first frame of all -/
structure TakePost (w : World) (base b n : Nat) (hs : List Hq) (w' : World) (A2 : Option Addr) (c2 : Nat) (x : Hq) (hs' : List Hq) : Prop where
  mg : Mg w' base b A2 n c2 hs'
  perm : (x :: hs').Perm hs
  heap : HpOk (keyL (fnH hs')) n
  low : ∀ y ∈ hs', leF (hdF x.fs) (hdF y.fs)
  trn : Trn base w w'

theorem take_of {w w1 w2 w3 : World} {base b n c : Nat} {A : Option Addr} {hs hs2 ls : List Hq} {x : Hq} (hx : hs[0]? = some x) (hk : HpOk (keyL (fnH hs)) (n + 1)) (hl : hs.length = n + 1)
    (ht1 : Trn base w w1) (h2 : HeapPost w1 base b (n + 1) A c (swL hs 0 n) n w2 hs2) (he : hs2 = ls ++ [x]) (hm3 : Mg w3 base b A n c ls) (ht3 : Trn base w2 w3) : TakePost w base b n hs w3 A c x ls := by
  have hp : (ls ++ [x]).Perm hs := by rw [← he]; exact h2.perm.trans (swL_perm hs 0 n)
  have hp' : (x :: ls).Perm hs := List.perm_append_comm.trans hp
  refine ⟨hm3, hp', fun cc h0 hn => ?_, fun y hy => ?_, (ht1.trans h2.trn).trans ht3⟩
  · have := h2.heap cc h0 hn
    rw [he] at this
    rwa [keyL_left (by rw [hm3.len]; exact hn), keyL_left (by rw [hm3.len]; omega)] at this
  · have hy2 : y ∈ hs := hp'.mem_iff.1 (List.mem_cons_of_mem _ hy)
    obtain ⟨k, hky⟩ := List.getElem?_of_mem hy2
    have hkl : k < n + 1 := by rw [← hl]; exact (List.getElem?_eq_some_iff.1 hky).1
    have := hk.root k hkl
    rw [keyL_at hky, keyL_at hx] at this
    exact this
theorem last_of {α : Type} {hs2 : List α} {n : Nat} {x : α} (h : hs2[n]? = some x) (hl : hs2.length = n + 1) : ∃ ls, hs2 = ls ++ [x] ∧ ls.length = n := by
  refine ⟨hs2.take n, ?_, by rw [List.length_take]; omega⟩
  have e := List.take_append_drop n hs2
  rw [List.drop_eq_getElem_cons (by omega), List.drop_eq_nil_of_le (by omega)] at e
  rw [List.getElem?_eq_getElem (by omega)] at h
  injection h with h
  rw [h] at e
  exact e.symm

set_option maxHeartbeats 6400000 in
theorem hpop_any (base b n c : Nat) (A : Option Addr) (hs : List Hq) (x : Hq) (w : World) (hm : Mg w base b A (n + 1) c hs) (hx : hs[0]? = some x) (hk : HpOk (keyL (fnH hs)) (n + 1)) :
    Calls Try.prog 56 #[hpV b] w fun e w' => e = .returned (.iface 25 x.sl) ∧ ∃ A2 c2 hs', TakePost w base b n hs w' A2 c2 x hs' := by
  have hsm := hm.small
  have hlen := hm.len
  have HX := hide hx
  have HK := hide hk
  have HTOP := hide (show HpDn (keyL (fnH (swL hs 0 n))) n 0 by rw [keyL_swp (by omega) (by omega)]; exact hk.top)
  have hml := meth_len b (n + 1) c A w (mg_cell hm)
  have hms := meth_swap b (n + 1) c A w (mg_cell hm)
  have kw : IntKind.i64.wrap (((n + 1 : Nat) : Int) - 1) = (n : Int) := IntWalk.i64_in _ (by omega) |>.trans (by omega)
  have HSW := hide (swap_any base b (n + 1) c 0 n A hs w hm (by omega) (by omega))
  have HLEN := hide hlen
  obtain ⟨N1, hN1⟩ : ∃ N1, n + 1 = N1 := ⟨_, rfl⟩
  rw [hN1] at hml hms kw HSW
  have HLN := hide (len_any A N1 c w)
  have HNN := hide hN1
  clear hm hx hk hN1 hlen
  unfold hpV
  go_enter Try.func56, Try.ntmps56
  go_wp2_with fail
  refine HLN.out.mono ?_
  rintro e w0 ⟨rfl, rfl⟩
  go_wp2_with fail
  refine HSW.out.mono ?_
  rintro e w1 ⟨rfl, hm1, ht1⟩
  have HM1 := hide hm1
  have HT1 := hide ht1
  clear hm1 ht1 hml hms
  have HDN := hide (down_any base b N1 c n A (swL hs 0 n) w1 HM1.out (by have := HNN.out; omega) HTOP.out)
  unfold hpV at HDN
  go_wp2_with fail
  refine HDN.out.mono ?_
  rintro e w2 ⟨⟨v, rfl⟩, hs2, h2⟩
  have hsl : hs2[n]? = some x := by
    rw [h2.rest n (Nat.le_refl _), swL_get hs (by rw [HLEN.out]; omega) (by rw [HLEN.out]; omega) n]
    by_cases h0 : n = 0
    · rw [if_pos h0, h0]; exact HX.out
    · rw [if_neg h0, if_pos rfl]; exact HX.out
  obtain ⟨ls, hls, hll⟩ := last_of hsl (by rw [h2.mg.len, ← HNN.out])
  have HLS := hide hls
  have HH2 := hide h2
  have hmp := meth_pop b w2
  have hm2 := h2.mg
  rw [hls, ← HNN.out] at hm2
  have HPP := hide (pop_any base b n c A ls x w2 hm2)
  clear h2 hsl hls hll hm2
  go_wp2_with fail
  refine HPP.out.mono ?_
  rintro e w3 ⟨rfl, hm3, ht3⟩
  have h2' := HH2.out
  rw [← HNN.out] at h2'
  have HF := hide (take_of HX.out HK.out HLEN.out HT1.out h2' HLS.out hm3 ht3)
  clear hm3 ht3 h2' hmp
  go_wp2
  go_ret
  exact ⟨rfl, A, c, ls, HF.out⟩
end Go.Proofs.Ytcocboigjfjnfac
