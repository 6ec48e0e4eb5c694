/-
  The drawn arguments of ScanMap.
-/
import Derived.Test.YtcocboigjfjnfabG4
import Derived.Test.YtcocboigjfjnfabG2
import Derived.Test.YtcocboigjfjnfabFnR
import Derived.Deep.Cut
namespace Go.Proofs.Ytcocboigjfjnfab
open Go.RowKit
set_option linter.unusedVariables false
set_option maxRecDepth 100000

def ScnDrawn (w0 w' : World) (A : Option Addr) (n c : Nat) (qs : List Fq) : Prop :=
  Fnds w' w'.heap.size A n qs ∧ n ≤ 10000 ∧ n ≤ c ∧ c ≤ maxLen ∧ (∀ q ∈ qs, q.vals.length ≤ 100) ∧ Below w0.heap.size w0 w'

theorem sumL_le {zs : List (List Fn)} {K : Nat} (h : ∀ g ∈ zs, g.length ≤ K) : sumL zs ≤ zs.length * K := by
  induction zs with
  | nil => exact Nat.zero_le _
  | cons g gs ih =>
    have h1 := h g List.mem_cons_self
    have h2 := ih fun x hx => h x (List.mem_cons_of_mem _ hx)
    simp only [sumL, List.length_cons, Nat.succ_mul]
    omega
theorem scansZ_mem {d : Dev} {k : Nat} {g : List Fn} (h : g ∈ scansZ d k) : ∃ i : Nat, i < k ∧ g = (scanW (i : Int) (d.getD i ([], 0, false)).1 0).1 := by
  unfold scansZ at h
  obtain ⟨i, hi, rfl⟩ := List.mem_map.1 h
  exact ⟨i, List.mem_range.1 hi, rfl⟩
theorem getD_words {d : Dev} (h : ∀ q ∈ d, q.1.length ≤ 70) (i : Nat) : (d.getD i ([], 0, false)).1.length ≤ 70 := by
  rcases hd : d[i]? with _ | q
  · simp [List.getD, hd]
  · have := h q (List.mem_of_getElem? hd)
    simpa [List.getD, hd] using this
theorem scanD_small {d : Dev} (h : ∀ q ∈ d, q.1.length ≤ 70) : (scanD d).length ≤ 1000 ∧ ∀ f ∈ scanD d, f.2.2.2.2.length ≤ 100 := by
  unfold scanD
  rcases hv : devV d with _ | _
  · exact ⟨Nat.zero_le _, fun f hf => by simp at hf⟩
  · have h4 : d.length = 4 := (devV_iff.1 hv).2
    rw [if_pos rfl]
    unfold devF
    refine ⟨?_, fun f hf => ?_⟩
    · rw [orderF_length]
      have h1 : ∀ g ∈ scansZ d d.length, g.length ≤ 20 := by
        intro g hg
        obtain ⟨i, _, rfl⟩ := scansZ_mem hg
        have h2 := scan_count (i : Int) (d.getD i ([], 0, false)).1 0
        have h3 := getD_words h i
        omega
      have h2 := sumL_le h1
      have h3 : (scansZ d d.length).length = 4 := by unfold scansZ; rw [List.length_map, List.length_range, h4]
      omega
    · obtain ⟨g, hg, hfg⟩ := (orderF_mem _ _).1 hf
      obtain ⟨i, _, rfl⟩ := scansZ_mem hg
      obtain ⟨b, hb, rfl⟩ := scan_mem _ _ _ _ hfg
      have h1 := (validF_iff.1 (good_len hb).2.2.1).2.2.1.2
      show (cutW _ _ _).length ≤ 100
      omega

/-- what DrawScanMap knows behind the scan: the reader R, the list -/
structure SL (w w3 : World) (R : Nat) (p : Int) (base : Nat) (A : Option Addr) (m c : Nat) (rs : List Fq) : Prop where
  rd : Rd w3 R p
  own : OwnF w3 base A m c rs
  rb : R < base
  ws : w.heap.size ≤ R
  num : m ≤ 1000
  len : ∀ q ∈ rs, q.vals.length ≤ 100
  below : Below w.heap.size w w3
section
variable {w w3 w' : World} {R base m c : Nat} {p p' : Int} {A : Option Addr} {rs : List Fq}
theorem SL.keep (h : SL w w3 R p base A m c rs) (hr : Rd w' R p') (hg : w3.grownBy w' (some R)) : SL w w' R p' base A m c rs :=
  { rd := hr
    own := h.own.kept hg (by
      intro q hq
      injection hq with hq
      subst hq
      exact ⟨fun e => by have := (h.own.block _ e).1; have := h.rb; omega, fun k r hk e => by have := (h.own.wblock hk _ e).1; have := h.rb; omega⟩)
    rb := h.rb, ws := h.ws, num := h.num, len := h.len
    below := h.below.grown hg (h.below.size) (by intro q hq; injection hq with hq; have := h.ws; omega) }
theorem SL.drawn (h : SL w w3 R p base A m c rs) : ScnDrawn w w3 A m c rs := ⟨h.own.fnds, by have := h.num; omega, h.own.cap.1, h.own.cap.2, h.len, h.below⟩
end

theorem SL.put {w w3 : World} {R base m c g k : Nat} {p : Int} {rs : List Fq} {q : Fq} (h : SL w w3 R p base (some ⟨g, 0, none⟩) m c rs) (hk : rs[k]? = some q) (q' : Fq) (j : Nat) (v : Value) (hj : j < 5) (hv : q'.cells = q.cells.set j v)
    (h1 : q'.vals = q.vals) (h2 : q'.addr = q.addr) (h3 : q'.cap = q.cap) : ScnDrawn w (w3.setCell ⟨g, k * 5 + j, none⟩ v) (some ⟨g, 0, none⟩) m c (rs.set k q') := by
  obtain ⟨ho, hg⟩ := h.own.put_in hk q' j v hj hv h1 h2 h3
  refine ⟨ho.fnds, by have := h.num; omega, ho.cap.1, ho.cap.2, fun r hr => ?_, h.below.grown hg h.below.size (fun b e => ?_)⟩
  · rcases List.mem_or_eq_of_mem_set hr with hr | rfl
    · exact h.len r hr
    · rw [h1]; exact h.len q (List.mem_of_getElem? hk)
  · injection e with e
    subst e
    have := (h.own.block g rfl).1
    have := h.rb
    have := h.ws
    omega
theorem SL.app {w w3 w' : World} {R base m c c2 k : Nat} {p : Int} {A A2 : Option Addr} {rs : List Fq} {q : Fq} {o : Obj} (h : SL w w3 R p base A m c rs) (hk : rs[k]? = some q) (hr : RowF w' base A2 (m + 1) c2 (rs ++ [q]))
    (hg : (w3.alloc o).grownBy w' (Value.slice A m c).ownBlock) : ScnDrawn w w' A2 (m + 1) c2 (rs ++ [q]) := by
  have bod : ∀ r ∈ rs, Ints w' w'.heap.size r.addr r.vals.length r.vals ∧ r.vals.length ≤ r.cap ∧ r.cap ≤ maxLen ∧ (r.addr = none → r.cap = 0) := by
    intro r hr'
    obtain ⟨i, hi⟩ := List.getElem?_of_mem hr'
    have ho := ((h.own.own i r hi).alloc o).kept hg (fun b e => h.own.far hi e)
    exact ⟨ho.ints, ho.cap.1, ho.cap.2, ho.nilcapF⟩
  have hB : Bods w' w'.heap.size (rs ++ [q]) := fun r hr' => by
    simp only [List.mem_append, List.mem_singleton] at hr'
    rcases hr' with hr' | rfl
    · exact bod r hr'
    · exact bod _ (List.mem_of_getElem? hk)
  refine ⟨hr.fnds hB, by have := h.num; omega, hr.cap.1, hr.cap.2, fun r hr' => ?_, (h.below.alloc h.below.size o).grown hg (by have := h.below.size; simp; omega) (fun b e => ?_)⟩
  · simp only [List.mem_append, List.mem_singleton] at hr'
    rcases hr' with hr' | rfl
    · exact h.len r hr'
    · exact h.len _ (List.mem_of_getElem? hk)
  · have := (h.own.block b e).1
    have := h.rb
    have := h.ws
    omega

set_option maxHeartbeats 6400000 in
theorem drawSM_any (A : Option Addr) (n c : Nat) (bs : Nat → Int) (w : World) (hb : Bytes w w.heap.size A n bs) (hn : n ≤ c) (hc : c ≤ maxLen) :
    Calls Try.prog 7 #[.slice A n c] w fun e w' => ∃ A2 m c2 qs, e = .returned (.slice A2 m c2) ∧ ScnDrawn w w' A2 m c2 qs := by
  go_enter Try.func7, Try.ntmps7
  go_wp2_with fail
  refine (open_any A n c bs _ hb hn hc).mono ?_
  rintro e w1 ⟨rfl, hr, hB⟩
  have HB1 := hide hB
  clear hB hb
  go_wp2_with fail
  refine (device91_any _ 0 _ hr (by omega)).mono ?_
  rintro e w2 ⟨A2, m, c2, qs, p', rfl, hz, hm, hmc, hcm, hl, hp0, hp1, hr2, hg⟩
  have HZ := hide (hz w2 (grown_refl _ _))
  have HB2 := hide (grown_after HB1.out hg)
  have HL := hide hl
  have HR2 := hide hr2
  clear hz hg hr hr2 hl
  go_wp2_with fail
  refine (specScanD A2 m c2 _ qs w2 HZ.out (Nat.le_refl _) (by omega)).mono ?_
  rintro e w3 ⟨A3, c3, l, rs, rfl, ho, hf, hb3⟩
  obtain ⟨hs1, hs2⟩ := scanD_small (d := zns qs) (fun q hq => by
    unfold zns at hq
    obtain ⟨q', hq', rfl⟩ := List.mem_map.1 hq
    exact HL.out q' hq')
  rw [← hf] at hs1 hs2
  have HS : Hid (SL w w3 w.heap.size p' w2.heap.size A3 l c3 rs) :=
    { rd := HR2.out.below hb3, own := ho, rb := HR2.out.lt, ws := Nat.le_refl _, num := by rw [← ho.len, ← fns_length rs]; exact hs1
      len := fun q hq => hs2 q.fn (by unfold fns; exact List.mem_map.2 ⟨q, hq, rfl⟩)
      below := HB2.out.trans (hb3.mono HB2.out.size) }
  clear ho hf hb3 hs1 hs2 HZ HB2 HL HR2 HB1
  obtain ⟨R, hR⟩ : ∃ R, w.heap.size = R := ⟨_, rfl⟩
  rw [hR] at HS
  have HRW := hide hR
  rw [hR]
  clear hR
  have hl10 := HS.out.num
  by_cases hl0 : l = 0
  · subst hl0
    go_wp2
    go_ret
    exact ⟨A3, 0, c3, rs, rfl, HS.out.drawn⟩
  have hlp : (0 : Int) < (l : Int) := by omega
  go_wp2_with fail
  refine (pick_any R _ l _ HS.out.rd (by omega) (by omega)).mono ?_
  rintro e w4 ⟨k, rfl, hk0, hk1, hr4, hg4⟩
  have HS4 := hide (HS.out.keep hr4 hg4)
  clear hr4 hg4 HS
  go_wp2_with fail
  refine (pick_any R _ 12 _ HS4.out.rd (by omega) (by omega)).mono ?_
  rintro e w5 ⟨v, rfl, hv0, hv1, hr5, hg5⟩
  have HS5 := hide (HS4.out.keep hr5 hg5)
  clear hr5 hg5 HS4
  obtain ⟨K, rfl⟩ := Int.eq_ofNat_of_zero_le hk0
  obtain ⟨q, hq⟩ : ∃ q, rs[K]? = some q := ⟨_, List.getElem?_eq_getElem (by rw [HS5.out.own.len]; omega)⟩
  obtain ⟨g, rfl, hg0, hgl⟩ := HS5.out.own.shape (by omega)
  have HQ := hide hq
  have HPA := hide (add_plain' g (K * 5))
  clear hq
  by_cases h0 : v = 0
  · subst h0
    go_wp2_with fail
    refine (pick_any R _ 12 _ HS5.out.rd (by omega) (by omega)).mono ?_
    rintro e w6 ⟨x, rfl, hx0, hx1, hr6, hg6⟩
    have HS6 := hide (HS5.out.keep hr6 hg6)
    clear hr6 hg6 HS5
    obtain ⟨ad, p, e, hp, _, c0, c1, c2', c3', c4⟩ := HS6.out.own.fnds.at_ HQ.out
    injection e with e
    subst e
    have hp2 := hp.symm.trans HPA.out
    subst hp2
    simp only at c3'
    have f3 : w6.frozen? ⟨g, K * 5 + 3, none⟩ = false := HS6.out.own.free
    have HD := hide (HS6.out.put HQ.out ⟨q.zone, q.word, q.kind, x, q.vals, q.addr, q.cap⟩ 3 (.int .i64 x) (by omega) rfl rfl rfl rfl)
    clear c0 c1 c2' c4
    go_wp2
    go_ret
    exact ⟨_, _, _, _, rfl, HD.out⟩
  by_cases h1 : v = 1
  · subst h1
    go_wp2_with fail
    refine (zone91_any R _ _ HS5.out.rd (by omega)).mono ?_
    rintro e w6 ⟨x, p6, rfl, hx0, hx1, hp60, hp61, hr6, hg6⟩
    have HS6 := hide (HS5.out.keep hr6 hg6)
    clear hr6 hg6 HS5
    obtain ⟨ad, p, e, hp, _, c0, c1, c2', c3', c4⟩ := HS6.out.own.fnds.at_ HQ.out
    injection e with e
    subst e
    have hp2 := hp.symm.trans HPA.out
    subst hp2
    have f0 : w6.frozen? ⟨g, K * 5, none⟩ = false := HS6.out.own.free
    have HD := hide (HS6.out.put HQ.out ⟨x, q.word, q.kind, q.seq, q.vals, q.addr, q.cap⟩ 0 (.int .i64 x) (by omega) rfl rfl rfl rfl)
    clear c1 c2' c3' c4
    go_wp2
    go_ret
    exact ⟨_, _, _, _, rfl, HD.out⟩
  by_cases h2 : v = 2
  · subst h2
    obtain ⟨ad, p, e, hp, _, c0, c1, c2', c3', c4⟩ := HS5.out.own.fnds.at_ HQ.out
    injection e with e
    subst e
    have hp2 := hp.symm.trans HPA.out
    subst hp2
    simp only at c1 c2' c3' c4
    have HROW := hide fun o => HS5.out.own.rowF.alloc o
    have hbase : ∀ o, w2.heap.size ≤ (w5.alloc o).heap.size := fun o => by have := hg0; simp; omega
    have HCL := hide (fnd_cells w5 q)
    go_wp2_with (at_builtin; refine wpList_append_rowF rfl (.tmp 39) (.tmp 44) rfl w2.heap.size l c3 1 1 (some ⟨g, 0, none⟩) (some ⟨w5.heap.size, 0, none⟩) rs [q] rfl rfl (HROW.out _) rfl (fun _ => ⟨_, rfl, fun j u hu => HCL.out j u (by rcases j with _ | _ | _ | _ | _ | j <;> first | exact hu | (simp [flatF] at hu))⟩) (by omega) (hbase _) ?_; intro A7 c7 w7 ho7 hg7 hat7; clear hat7)
    have HD := hide (HS5.out.app HQ.out ho7 hg7)
    clear ho7 hg7
    go_ret
    exact ⟨_, _, _, _, rfl, HD.out⟩
  · go_wp2
    go_ret
    exact ⟨_, _, _, _, rfl, HS5.out.drawn⟩
end Go.Proofs.Ytcocboigjfjnfab
