/-
  Texts in one: Rng, Rd, Sum, FrameV, Make, FrameP, SumMath, Rec, Zone, Ints, FrameW, DrawA, PairM, SameP. Plain.
-/
import Derived.Test.YtcocboigjfjnfacBase
/- Rng -/
namespace Go.Proofs.Ytcocboigjfjnfac
open Go.RowKit
set_option linter.unusedVariables false
set_option maxRecDepth 100000

/-- the words of a list are from lo to hi -/
def Rng (lo hi : Int) (xs : List Int) : Prop := ∀ x ∈ xs, lo ≤ x ∧ x ≤ hi
theorem Rng.snoc {lo hi : Int} {xs : List Int} {x : Int} (h : Rng lo hi xs) (h1 : lo ≤ x) (h2 : x ≤ hi) : Rng lo hi (xs ++ [x]) := by
  intro y hy
  rcases List.mem_append.1 hy with hy | hy
  · exact h y hy
  · simp at hy; subst hy; exact ⟨h1, h2⟩
theorem Rng.set {lo hi : Int} {xs : List Int} {x : Int} (h : Rng lo hi xs) (j : Nat) (h1 : lo ≤ x) (h2 : x ≤ hi) : Rng lo hi (xs.set j x) := by
  intro y hy
  rcases List.mem_or_eq_of_mem_set hy with hy | hy
  · exact h y hy
  · subst hy; exact ⟨h1, h2⟩
theorem Rng.getD {lo hi : Int} {xs : List Int} (h : Rng lo hi xs) {j : Nat} (hj : j < xs.length) : lo ≤ xs.getD j 0 ∧ xs.getD j 0 ≤ hi := by
  have := h xs[j] (List.getElem_mem hj)
  simpa [List.getD, hj] using this

end Go.Proofs.Ytcocboigjfjnfac

/- Rd -/
namespace Go.Proofs.Ytcocboigjfjnfac
open Go.RowKit
set_option linter.unusedVariables false
set_option maxRecDepth 100000

/-- Bytes that can be read, below block B. -/
def Bytes (w : World) (B : Nat) (A : Option Addr) (n : Nat) (bs : Nat → Int) : Prop :=
  0 < n → ∃ ad, A = some ad ∧ ad.block < B ∧ ∀ j, j < n → 0 ≤ bs j ∧ bs j ≤ 255 ∧ w.cell? (ad.add j) = some (.int .u8 (bs j))

/-- The reader of a code: block R. -/
def Rd (w : World) (R : Nat) (p : Int) : Prop :=
  0 ≤ p ∧ p ≤ 30000 ∧ ∃ A n c bs, n ≤ 2000 ∧ n ≤ c ∧ Blk w R 84 #[.slice A n c, .int .i64 p] ∧ Bytes w R A n bs

theorem xor_nonneg (x y : Int) (hx0 : 0 ≤ x) (hx' : x < 4611686018427387904) (hy : 0 ≤ y) (hy' : y < 4611686018427387904) :
    0 ≤ IntKind.i64.wrap ((BitVec.ofInt 64 x ^^^ BitVec.ofInt 64 y).toNat : Int) := by
  obtain ⟨a, rfl⟩ := Int.eq_ofNat_of_zero_le hx0
  obtain ⟨b, rfl⟩ := Int.eq_ofNat_of_zero_le hy
  have h1 : (BitVec.ofInt 64 (a : Int)).toNat = a := by
    rw [BitVec.ofInt_natCast, BitVec.toNat_ofNat]; exact Nat.mod_eq_of_lt (by omega)
  have h2 : (BitVec.ofInt 64 (b : Int)).toNat = b := by
    rw [BitVec.ofInt_natCast, BitVec.toNat_ofNat]; exact Nat.mod_eq_of_lt (by omega)
  rw [BitVec.toNat_xor, h1, h2]
  have hx : a ^^^ b < 2 ^ 62 := Nat.xor_lt_two_pow (by omega) (by omega)
  rw [IntKind.wrap_i64]
  omega


theorem Bytes.keep {w w' : World} {B : Nat} {A : Option Addr} {n : Nat} {bs : Nat → Int} (h : Bytes w B A n bs) (hk : ∀ p : Addr, p.block < B → w'.cell? p = w.cell? p) : Bytes w' B A n bs := fun hn => by
  obtain ⟨ad, e, hb, hc⟩ := h hn
  exact ⟨ad, e, hb, fun j hj => ⟨(hc j hj).1, (hc j hj).2.1, (hk _ (by rw [block_of_add]; exact hb)).trans (hc j hj).2.2⟩⟩

theorem rd_step {w : World} {R : Nat} {p : Int} (h : Rd w R p) (hp : p < 30000) (k : Nat) :
    Rd ((w.setCell ⟨R, 1, none⟩ (.int .i64 (p + 1))).drewN k) R (p + 1) ∧ w.grownBy ((w.setCell ⟨R, 1, none⟩ (.int .i64 (p + 1))).drewN k) (some R) := by
  obtain ⟨hp0, _, A, m, c, bs, hm, hmc, hb, hbs⟩ := h
  refine ⟨⟨by omega, by omega, A, m, c, bs, hm, hmc, ?_, ?_⟩, ?_⟩
  · exact (hb.set_ 1 (.int .i64 (p + 1))).drewN k
  · refine Bytes.keep hbs fun q hq => ?_
    show (w.setCell ⟨R, 1, none⟩ (.int .i64 (p + 1))).cell? q = _
    exact World.cell?_of_block (Below.heap_setCell w ⟨R, 1, none⟩ _ q.block (by simp; omega))
  · refine ⟨rfl, rfl, rfl, by simp [World.setCell, World.drewN], fun i hi hne => ?_⟩
    exact Below.heap_setCell w ⟨R, 1, none⟩ _ i (by rintro rfl; exact hne rfl)

theorem bits_xor_nonneg (x y : Int) (hx : 0 ≤ x) (hx' : x < 4611686018427387904) (hy : 0 ≤ y) (hy' : y < 4611686018427387904) : 0 ≤ bits .xor .i64 x y := xor_nonneg x y hx hx' hy hy'
theorem tmod_ge (x n : Int) (hx : 0 ≤ x) : 0 ≤ x.tmod n := Int.tmod_nonneg n hx
theorem tmod_lt (x n : Int) (hn : 1 ≤ n) (hx : 0 ≤ x) : x.tmod n < n := Int.tmod_lt_of_pos x (by omega)
theorem mod_lt' (x n : Int) (hn : 1 ≤ n) : x % n < n := Int.emod_lt_of_pos x (by omega)
theorem mod_ge' (x n : Int) (hn : 1 ≤ n) : 0 ≤ x % n := Int.emod_nonneg x (by omega)

set_option maxHeartbeats 800000 in
set_option maxRecDepth 100000 in
theorem pick_any (R : Nat) (p n : Int) (w : World) (hr : Rd w R p) (hp : p < 30000) (hn : 1 ≤ n) :
    Calls Try.prog 43 #[.pointer (some ⟨R, 0, none⟩), .int .i64 n] w fun e w' => ∃ v, e = .returned (.int .i64 v) ∧ 0 ≤ v ∧ v < n ∧ Rd w' R (p + 1) ∧ w.grownBy w' (some R) := by
  have hst := hide (rd_step hr hp)
  obtain ⟨hp0, _, A, m, c, bs, hm, hmc, hb, hbs⟩ := hr
  have hc0 := hb.cell 0
  have hc1 := hb.cell 1
  have hf1 := hb.frozen 1
  simp at hc0 hc1
  by_cases hm0 : m = 0
  · subst hm0
    go_enter Try.func43, Try.ntmps43
    go_wp2
    go_ret
    exact ⟨0, rfl, by omega, by omega, hst.out 0⟩
  · obtain ⟨ad, rfl, hadb, hcb⟩ := hbs (by omega)
    have hne : ad.block ≠ R := by omega
    have hcell : ∀ j, j < m → (w.setCell ⟨R, 1, none⟩ (.int .i64 (p + 1))).cell? (ad.add j) = some (.int .u8 (bs j)) := fun j hj =>
      (World.cell?_of_block (Below.heap_setCell w ⟨R, 1, none⟩ _ (ad.add j).block (by rw [block_of_add]; exact hne))).trans (hcb j hj).2.2
    have hmb : ((m : Int) == 0) = false := by simp; omega
    by_cases hk : p < m
    · have hck := hcell p.toNat (by omega)
      obtain ⟨hk0, hk1, _⟩ := hcb p.toNat (by omega)
      generalize bs p.toNat = u at hck hk0 hk1
      clear hcb hcell hbs hb
      have hn0 : ¬ n = 0 := by omega
      go_enter Try.func43, Try.ntmps43
      go_wp2
      go_ret
      refine ⟨_, rfl, mod_ge' _ _ hn, mod_lt' _ _ hn, hst.out 0⟩
    · have h1 : 0 ≤ p % m := Int.emod_nonneg p (by omega)
      have h2 : p % m < m := Int.emod_lt_of_pos p (by omega)
      have h3 : 0 ≤ (p * 7 + 3) % m := Int.emod_nonneg _ (by omega)
      have h4 : (p * 7 + 3) % m < m := Int.emod_lt_of_pos _ (by omega)
      have hc3 := hcell (p % m).toNat (by omega)
      have hc4 := hcell ((p * 7 + 3) % m).toNat (by omega)
      obtain ⟨u0, u1, _⟩ := hcb (p % m).toNat (by omega)
      obtain ⟨v0, v1, _⟩ := hcb ((p * 7 + 3) % m).toNat (by omega)
      generalize bs (p % m).toNat = u at hc3 u0 u1
      generalize bs ((p * 7 + 3) % m).toNat = v at hc4 v0 v1
      have hn0 : ¬ n = 0 := by omega
      have h5 : 0 ≤ p / m := Int.ediv_nonneg hp0 (by omega)
      have h6 : p / m ≤ p := Int.ediv_le_self _ hp0
      clear hcb hcell hbs hb
      go_enter Try.func43, Try.ntmps43
      go_wp2
      go_quiet (fail)
      go_wp2
      go_ret
      exact ⟨_, rfl, tmod_ge _ _ (bits_xor_nonneg _ _ (by omega) (by omega) (by omega) (by omega)), tmod_lt _ _ hn (bits_xor_nonneg _ _ (by omega) (by omega) (by omega) (by omega)), hst.out _⟩
set_option maxHeartbeats 400000 in
theorem open_any (A : Option Addr) (n c : Nat) (bs : Nat → Int) (w : World) (hb : Bytes w w.heap.size A n bs) (hn : n ≤ c) (hc : c ≤ maxLen) :
    Calls Try.prog 22 #[.slice A n c] w fun e w' => e = .returned (.pointer (some ⟨w.heap.size, 0, none⟩)) ∧ Rd w' w.heap.size 0 ∧ Below w.heap.size w w' := by
  unfold maxLen at hc
  by_cases h : 2000 < n
  · have h1 : 2000 ≤ c := by omega
    go_enter Try.func22, Try.ntmps22
    go_wp2
    go_ret
    refine ⟨rfl, ⟨by omega, by omega, A, 2000, c, bs, by omega, by omega, Blk.new w _ _, ?_⟩, (Below.refl _ _).alloc (Nat.le_refl _) _⟩
    intro _
    obtain ⟨ad, e, hl, hcl⟩ := hb (by omega)
    exact ⟨ad, e, hl, fun j hj => ⟨(hcl j (by omega)).1, (hcl j (by omega)).2.1, by rw [World.cell?_alloc_lt w _ _ (by rw [block_of_add]; exact hl)]; exact (hcl j (by omega)).2.2⟩⟩
  · go_enter Try.func22, Try.ntmps22
    go_wp2
    go_ret
    refine ⟨rfl, ⟨by omega, by omega, A, n, c, bs, by omega, by omega, Blk.new w _ _, ?_⟩, (Below.refl _ _).alloc (Nat.le_refl _) _⟩
    exact Bytes.keep hb fun p hp => World.cell?_alloc_lt w _ p hp
end Go.Proofs.Ytcocboigjfjnfac

/- Sum -/
namespace Go.Proofs.Ytcocboigjfjnfac
open Go.RowKit
set_option linter.unusedVariables false
set_option maxRecDepth 100000

def sumFrom (s : Int) : List Int → Int
  | [] => s
  | x :: xs => if x < 0 ∨ 9999 < x then -1 else sumFrom ((31 * s + x + 1) % 9973) xs

theorem sumFrom_drop (s : Int) (xs : List Int) (k : Nat) (h : k < xs.length) :
    sumFrom s (xs.drop k) = if xs.getD k 0 < 0 ∨ 9999 < xs.getD k 0 then -1 else sumFrom ((31 * s + xs.getD k 0 + 1) % 9973) (xs.drop (k + 1)) := by
  rw [List.drop_eq_getElem_cons h, sumFrom]
  simp [List.getD, h]

def okW (x : Int) : Bool := decide (0 ≤ x ∧ x ≤ 9999)
def allW (xs : List Int) : Bool := xs.all okW

theorem allW_drop (xs : List Int) (k : Nat) (h : k < xs.length) : allW (xs.drop k) = (okW (xs.getD k 0) && allW (xs.drop (k + 1))) := by
  rw [List.drop_eq_getElem_cons h]
  unfold allW
  rw [List.all_cons]
  simp [List.getD, h]

theorem sumFrom_allW (xs : List Int) : ∀ s, allW xs = false → sumFrom s xs = -1 := by
  induction xs with
  | nil => intro s h; simp [allW] at h
  | cons x xs ih =>
    intro s h
    unfold sumFrom
    by_cases hx : x < 0 ∨ 9999 < x
    · rw [if_pos hx]
    · rw [if_neg hx]
      refine ih _ ?_
      have h' : okW x = true := by simp [okW]; omega
      simpa [allW, h'] using h

theorem sumFrom_rng (xs : List Int) : ∀ s, 0 ≤ s → s < 9973 → allW xs = true → 0 ≤ sumFrom s xs ∧ sumFrom s xs < 9973 := by
  induction xs with
  | nil => intro s h0 h1 _; exact ⟨h0, h1⟩
  | cons x xs ih =>
    intro s h0 h1 h
    have h' : okW x = true ∧ allW xs = true := by simpa [allW] using h
    have hx : 0 ≤ x ∧ x ≤ 9999 := by simpa [okW] using h'.1
    unfold sumFrom
    rw [if_neg (by omega)]
    exact ih _ (by omega) (by omega) h'.2

theorem sumFrom_lt (xs : List Int) : -1 ≤ sumFrom 7 xs ∧ sumFrom 7 xs < 9973 := by
  by_cases h : allW xs = true
  · have := sumFrom_rng xs 7 (by omega) (by omega) h
    omega
  · have := sumFrom_allW xs 7 (by simpa using h)
    omega

set_option maxHeartbeats 400000 in
theorem implSum (A : Option Addr) (n c B : Nat) (xs : List Int) (w : World) (hr : Ints w B A n xs) (hn : n ≤ maxLen) :
    Calls Try.prog 34 #[.slice A n c] w fun e w' => e = .returned (.int .i64 (sumFrom 7 xs)) ∧ w = w' := by
  unfold maxLen at hn
  have HL := hide hr.1
  go_enter Try.func34, Try.ntmps34
  go_wp2
  go_loop [3, 8] (fun s i => ∃ (k : Nat) (t : Int), k ≤ n ∧ i = .int .i64 k ∧ 0 ≤ t ∧ t < 9973 ∧ s = .int .i64 t ∧ Hid (sumFrom 7 xs = sumFrom t (xs.drop k))) (fun _ i => n - (intOf i).toNat)
  case atStart => exact ⟨0, 7, Nat.zero_le _, rfl, by omega, by omega, rfl, rfl⟩
  case round =>
    obtain ⟨k, t, hk, rfl, ht0, ht1, rfl, HS⟩ := hrel
    by_cases hlt : k < n
    · have hl := HL.out
      have hd := sumFrom_drop t xs k (by omega)
      obtain ⟨ad, rfl, hb, hc⟩ := hr.at_ hlt
      have HX : Hid (_ = _) := HS.out.trans hd
      clear hd hl hr HS
      generalize xs.getD k 0 = x at hc HX
      by_cases h1 : x < 0
      · go_wp2
        go_ret
        exact ⟨ret_int (by rw [HX.out, if_pos (.inl h1)]), rfl⟩
      · by_cases h2 : 9999 < x
        · go_wp2
          go_ret
          exact ⟨ret_int (by rw [HX.out, if_pos (.inr h2)]), rfl⟩
        · go_wp2
          go_round
          case rel => exact ⟨k + 1, _, by omega, by go_num, by omega, by omega, rfl, by rw [HX.out, if_neg (by omega)]; rfl⟩
          case measure => simp [intOf]; omega
    · go_wp2
      go_ret
      exact ⟨ret_int (by rw [HS.out, List.drop_of_length_le (by have := HL.out; omega)]; rfl), rfl⟩

def inB (n lo hi : Int) : Bool := decide (lo ≤ n) && decide (n ≤ hi)
theorem inB_true {n lo hi : Int} (h1 : lo ≤ n) (h2 : n ≤ hi) : inB n lo hi = true := by simp [inB, h1, h2]
theorem inB_iff {n lo hi : Int} : inB n lo hi = true ↔ lo ≤ n ∧ n ≤ hi := by simp [inB]

set_option maxHeartbeats 400000 in
theorem in_any (n lo hi : Int) (w : World) :
    Calls Try.prog 31 #[.int .i64 n, .int .i64 lo, .int .i64 hi] w fun e w' => e = .returned (.bool (inB n lo hi)) ∧ w = w' := by
  by_cases h1 : lo ≤ n
  · by_cases h2 : n ≤ hi
    · go_enter Try.func31, Try.ntmps31
      go_wp2
      go_ret
      exact ⟨ret_bool (by simp [inB, h1, h2]), rfl⟩
    · have h2' : decide (n ≤ hi) = false := by simpa using h2
      go_enter Try.func31, Try.ntmps31
      go_wp2
      go_ret
      exact ⟨ret_bool (by simp [inB, h2']), rfl⟩
  · have h1' : decide (lo ≤ n) = false := by simpa using h1
    go_enter Try.func31, Try.ntmps31
    go_wp2
    go_ret
    exact ⟨ret_bool (by simp [inB, h1']), rfl⟩
theorem in_yes (n lo hi : Int) (w : World) (h : inB n lo hi = true) :
    Calls Try.prog 31 #[.int .i64 n, .int .i64 lo, .int .i64 hi] w fun e w' => e = .returned (.bool true) ∧ w = w' := h ▸ in_any n lo hi w
theorem in_no (n lo hi : Int) (w : World) (h : inB n lo hi = false) :
    Calls Try.prog 31 #[.int .i64 n, .int .i64 lo, .int .i64 hi] w fun e w' => e = .returned (.bool false) ∧ w = w' := h ▸ in_any n lo hi w

theorem okW_inB (x : Int) : okW x = inB x 0 9999 := by simp [okW, inB]

set_option maxHeartbeats 400000 in
theorem words_any (A : Option Addr) (n c B : Nat) (xs : List Int) (w : World) (hr : Ints w B A n xs) (hn : n ≤ maxLen) :
    Calls Try.prog 30 #[.slice A n c] w fun e w' => e = .returned (.bool (allW xs)) ∧ w = w' := by
  unfold maxLen at hn
  have HL := hide hr.1
  go_enter Try.func30, Try.ntmps30
  go_wp2
  go_loop [3] (fun i => ∃ (k : Nat), k ≤ n ∧ i = .int .i64 k ∧ Hid (allW xs = allW (xs.drop k))) (fun i => n - (intOf i).toNat)
  case atStart => exact ⟨0, Nat.zero_le _, rfl, rfl⟩
  case round =>
    obtain ⟨k, hk, rfl, HS⟩ := hrel
    by_cases hlt : k < n
    · have hl := HL.out
      have hd := allW_drop xs k (by omega)
      obtain ⟨ad, rfl, hb, hc⟩ := hr.at_ hlt
      have HX : Hid (_ = _) := HS.out.trans hd
      clear hd hl hr HS
      generalize xs.getD k 0 = x at hc HX
      by_cases h1 : inB x 0 9999 = true
      · have H1 := hide h1
        clear h1
        go_wp2_with (go_at_call 31; refine (in_yes _ _ _ _ H1.out).mono ?_; rintro e w' ⟨rfl, rfl⟩)
        go_round
        case rel => exact ⟨k + 1, by omega, by go_num, by rw [HX.out, okW_inB, H1.out]; rfl⟩
        case measure => simp [intOf]; omega
      · have H1 := hide (Bool.eq_false_iff.2 h1)
        clear h1
        go_wp2_with (go_at_call 31; refine (in_no _ _ _ _ H1.out).mono ?_; rintro e w' ⟨rfl, rfl⟩)
        go_ret
        exact ⟨ret_bool (by rw [HX.out, okW_inB, H1.out]; rfl), rfl⟩
    · go_wp2
      go_ret
      exact ⟨ret_bool (by rw [HS.out, List.drop_of_length_le (by have := HL.out; omega)]; rfl), rfl⟩

set_option maxHeartbeats 400000 in
theorem specSum0 (A : Option Addr) (n c B : Nat) (xs : List Int) (w : World) (hr : Ints w B A n xs) (hn : n ≤ maxLen) (hall : allW xs = true) :
    Calls Try.prog 93 #[.slice A n c] w fun e w' => e = .returned (.int .i64 (sumFrom 7 xs)) ∧ w = w' := by
  unfold maxLen at hn
  have HL := hide hr.1
  have HA := hide hall
  clear hall
  go_enter Try.func93, Try.ntmps93
  go_wp2
  go_loop [3, 4] (fun s i => ∃ (k : Nat) (t : Int), k ≤ n ∧ i = .int .i64 k ∧ 0 ≤ t ∧ t < 9973 ∧ s = .int .i64 t ∧ Hid (sumFrom 7 xs = sumFrom t (xs.drop k)) ∧ Hid (allW (xs.drop k) = true)) (fun _ i => n - (intOf i).toNat)
  case atStart => exact ⟨0, 7, Nat.zero_le _, rfl, by omega, by omega, rfl, rfl, HA⟩
  case round =>
    obtain ⟨k, t, hk, rfl, ht0, ht1, rfl, HS, HA'⟩ := hrel
    by_cases hlt : k < n
    · have hl := HL.out
      have hd := sumFrom_drop t xs k (by omega)
      have ha := HA'.out
      rw [allW_drop xs k (by omega)] at ha
      obtain ⟨ad, rfl, hb, hc⟩ := hr.at_ hlt
      have HX : Hid (_ = _) := HS.out.trans hd
      clear hd hl hr HS HA'
      generalize xs.getD k 0 = x at hc HX ha
      simp only [Bool.and_eq_true] at ha
      have hx : 0 ≤ x ∧ x ≤ 9999 := by simpa [okW] using ha.1
      obtain ⟨hx0, hx1⟩ := hx
      have HA2 := hide ha.2
      clear ha
      go_wp2
      go_round
      case rel => exact ⟨k + 1, _, by omega, by go_num, by omega, by omega, rfl, by rw [HX.out, if_neg (by omega)]; rfl, HA2⟩
      case measure => simp [intOf]; omega
    · go_wp2
      go_ret
      exact ⟨ret_int (by rw [HS.out, List.drop_of_length_le (by have := HL.out; omega)]; rfl), rfl⟩

end Go.Proofs.Ytcocboigjfjnfac

/- FrameV -/
namespace Go.Proofs.Ytcocboigjfjnfac
open Go.RowKit
set_option linter.unusedVariables false
set_option maxRecDepth 100000

def validF (k s : Int) (body : List Int) : Bool := inB k 1 2 && inB s 1 999 && inB body.length 1 18 && allW body
theorem validF_iff {k s : Int} {body : List Int} : validF k s body = true ↔ (1 ≤ k ∧ k ≤ 2) ∧ (1 ≤ s ∧ s ≤ 999) ∧ (1 ≤ (body.length : Int) ∧ (body.length : Int) ≤ 18) ∧ allW body = true := by
  simp [validF, inB, and_assoc]

theorem below_box (w : World) (o : Obj) : Below w.heap.size w (w.alloc o) := (Below.refl _ _).alloc (Nat.le_refl _) o

theorem sum_ge (xs : List Int) : decide (0 ≤ sumFrom 7 xs) = allW xs := by
  rcases h : allW xs with _ | _
  · rw [sumFrom_allW _ _ h]; rfl
  · have := (sumFrom_rng xs 7 (by omega) (by omega) h).1
    simpa using this

set_option maxHeartbeats 1000000 in
theorem implValid (k s : Int) (A : Option Addr) (n c B : Nat) (xs : List Int) (w : World) (hr : Ints w B A n xs) (hB : B ≤ w.heap.size) (hn : n ≤ maxLen) :
    Calls Try.prog 33 #[.agg #[.int .i64 k, .int .i64 s, .slice A n c]] w fun e w' => e = .returned (.bool (validF k s xs)) ∧ Below w.heap.size w w' := by
  have hn' : n ≤ 9223372036854775807 := by unfold maxLen at hn; omega
  have HR := hide hr
  have HL := hide hr.1
  have hrest : ∀ (b : Bool), Hid (b = (inB k 1 2 && inB s 1 999 && inB xs.length 1 18 && allW xs)) → Hid (validF k s xs = b) := fun b h => h.out.symm
  clear hr
  by_cases hk : 1 ≤ k ∧ k ≤ 2
  · have hk1 := inB_true hk.1 hk.2
    by_cases hs0 : s < 1
    · have hX : validF k s xs = false := by rw [Bool.eq_false_iff]; intro h; have := validF_iff.1 h; omega
      have HX := hide hX
      clear hX hrest hk1
      have hk3 : k = 1 ∨ k = 2 := by omega
      clear hk
      rcases hk3 with rfl | rfl
      all_goals
        go_enter Try.func33, Try.ntmps33
        go_wp2
        go_ret
        exact ⟨ret_bool HX.out.symm, below_box _ _⟩
    · by_cases hs1 : 999 < s
      · have hX : validF k s xs = false := by rw [Bool.eq_false_iff]; intro h; have := validF_iff.1 h; omega
        have HX := hide hX
        clear hX hrest hk1
        have hk3 : k = 1 ∨ k = 2 := by omega
        clear hk
        rcases hk3 with rfl | rfl
        all_goals
          go_enter Try.func33, Try.ntmps33
          go_wp2
          go_ret
          exact ⟨ret_bool HX.out.symm, below_box _ _⟩
      · by_cases hn0 : n < 1
        · have hX : validF k s xs = false := by rw [Bool.eq_false_iff]; intro h; have := validF_iff.1 h; have := HL.out; omega
          have HX := hide hX
          clear hX hrest hk1
          have hk3 : k = 1 ∨ k = 2 := by omega
          clear hk
          rcases hk3 with rfl | rfl
          all_goals
            go_enter Try.func33, Try.ntmps33
            go_wp2
            go_ret
            exact ⟨ret_bool HX.out.symm, below_box _ _⟩
        · by_cases hn1 : 18 < n
          · have hX : validF k s xs = false := by rw [Bool.eq_false_iff]; intro h; have := validF_iff.1 h; have := HL.out; omega
            have HX := hide hX
            clear hX hrest hk1
            have hk3 : k = 1 ∨ k = 2 := by omega
            clear hk
            rcases hk3 with rfl | rfl
            all_goals
              go_enter Try.func33, Try.ntmps33
              go_wp2
              go_ret
              exact ⟨ret_bool HX.out.symm, below_box _ _⟩
          · have hX : validF k s xs = decide (0 ≤ sumFrom 7 xs) := by
              rw [sum_ge]; unfold validF; rw [hk1, inB_true (by omega) (by omega), inB_true (by have := HL.out; omega) (by have := HL.out; omega)]; rfl
            have HX := hide hX
            clear hX hrest hk1
            have hk3 : k = 1 ∨ k = 2 := by omega
            clear hk
            have hI := fun o : Obj => (HR.out.alloc hB o)
            have HI := hide hI
            have HC : Hid (∀ W : World, Ints W B A n xs → Calls Try.prog 34 #[.slice A n c] W fun e w' => e = .returned (.int .i64 (sumFrom 7 xs)) ∧ W = w') := fun W h => implSum A n c B xs W h hn
            generalize sumFrom 7 xs = t at HX HC
            clear hI
            rcases hk3 with rfl | rfl
            all_goals
              go_enter Try.func33, Try.ntmps33
              go_wp2_with (go_at_call 34; refine (HC.out _ (HI.out _)).mono ?_; rintro e w' ⟨rfl, rfl⟩)
              go_ret
              exact ⟨ret_bool HX.out.symm, below_box _ _⟩
  · have hX : validF k s xs = false := by rw [Bool.eq_false_iff]; intro h; have := validF_iff.1 h; omega
    have HX := hide hX
    have h1 : (k != 1) = true := by simp; omega
    have h2 : (k != 2) = true := by simp; omega
    clear hX hrest hk
    go_enter Try.func33, Try.ntmps33
    go_wp2
    go_ret
    exact ⟨ret_bool HX.out.symm, below_box _ _⟩

set_option maxHeartbeats 1000000 in
theorem specValid (k s : Int) (A : Option Addr) (n c B : Nat) (xs : List Int) (w : World) (hr : Ints w B A n xs) (hB : B ≤ w.heap.size) (hn : n ≤ maxLen) :
    Calls Try.prog 68 #[.agg #[.int .i64 k, .int .i64 s, .slice A n c]] w fun e w' => e = .returned (.bool (validF k s xs)) ∧ Below w.heap.size w w' := by
  have hn' : n ≤ 9223372036854775807 := by unfold maxLen at hn; omega
  have HI := hide fun o : Obj => (hr.alloc hB o)
  have hX : validF k s xs = (inB k 1 2 && inB s 1 999 && inB n 1 18 && allW xs) := by rw [← hr.1]; rfl
  have HX := hide hX
  have HC : Hid (∀ W : World, Ints W B A n xs → Calls Try.prog 30 #[.slice A n c] W fun e w' => e = .returned (.bool (allW xs)) ∧ W = w') := fun W h => words_any A n c B xs W h hn
  generalize allW xs = t at HX HC
  clear hX hr
  rcases hk : inB k 1 2 with _ | _
  · have H1 := hide hk
    clear hk
    go_enter Try.func68, Try.ntmps68
    go_wp2_with (go_at_call 31; refine (in_no _ _ _ _ H1.out).mono ?_; rintro e w' ⟨rfl, rfl⟩)
    go_ret
    exact ⟨ret_bool (by rw [HX.out, H1.out]; rfl), below_box _ _⟩
  · have H1 := hide hk
    clear hk
    rcases hs : inB s 1 999 with _ | _
    · have H2 := hide hs
      clear hs
      go_enter Try.func68, Try.ntmps68
      go_wp2_with fail
      refine (in_yes _ _ _ _ H1.out).mono ?_; rintro e w' ⟨rfl, rfl⟩
      go_wp2_with fail
      refine (in_no _ _ _ _ H2.out).mono ?_; rintro e w' ⟨rfl, rfl⟩
      go_wp2_with fail
      go_ret
      exact ⟨ret_bool (by rw [HX.out, H1.out, H2.out]; rfl), below_box _ _⟩
    · have H2 := hide hs
      clear hs
      rcases hm : inB n 1 18 with _ | _
      · have H3 := hide hm
        clear hm
        go_enter Try.func68, Try.ntmps68
        go_wp2_with fail
        refine (in_yes _ _ _ _ H1.out).mono ?_; rintro e w' ⟨rfl, rfl⟩
        go_wp2_with fail
        refine (in_yes _ _ _ _ H2.out).mono ?_; rintro e w' ⟨rfl, rfl⟩
        go_wp2_with fail
        refine (in_no _ _ _ _ H3.out).mono ?_; rintro e w' ⟨rfl, rfl⟩
        go_wp2_with fail
        go_ret
        exact ⟨ret_bool (by rw [HX.out, H1.out, H2.out, H3.out]; rfl), below_box _ _⟩
      · have H3 := hide hm
        clear hm
        go_enter Try.func68, Try.ntmps68
        go_wp2_with fail
        refine (in_yes _ _ _ _ H1.out).mono ?_; rintro e w' ⟨rfl, rfl⟩
        go_wp2_with fail
        refine (in_yes _ _ _ _ H2.out).mono ?_; rintro e w' ⟨rfl, rfl⟩
        go_wp2_with fail
        refine (in_yes _ _ _ _ H3.out).mono ?_; rintro e w' ⟨rfl, rfl⟩
        go_wp2_with fail
        refine (HC.out _ (HI.out _)).mono ?_; rintro e w' ⟨rfl, rfl⟩
        go_wp2_with fail
        go_ret
        exact ⟨ret_bool (by rw [HX.out, H1.out, H2.out, H3.out]; rfl), below_box _ _⟩
end Go.Proofs.Ytcocboigjfjnfac

/- Make -/
namespace Go.Proofs.Ytcocboigjfjnfac
open Go.RowKit
set_option linter.unusedVariables false
set_option maxRecDepth 100000

/-- 'make([]int, 0, n)' -/
theorem wpList_make_ints0 {w : World} {ops : Array Oper} {rest : List Oper} {o : Oper} {a : Act} {Q : Exit → Act → World → Prop}
    (hg : o.guard = none) (l c : Operand) (hop : o.op = Op.makeSlice 31 l c) (L C : Int) (n : Nat) (hl : a.eval l = .int .i64 L) (hc : a.eval c = .int .i64 C) (hL : L = 0) (hC : C = (n : Int)) (hn : n ≤ 17592186044416)
    (hK : ∀ w', Own w' w.heap.size (some ⟨w.heap.size, 0, none⟩) 0 n [] → Below w.heap.size w w' → w'.heap.size = w.heap.size + 1 → wpList Try.prog ops Q rest (a.put o.dst (.slice (some ⟨w.heap.size, 0, none⟩) 0 n)) w') :
    wpList Try.prog ops Q (o :: rest) a w := by
  obtain ⟨i0, hi, hz0, hz1, hz2⟩ := info_parts info_int
  refine wpList_plain hg fun K hK' => ?_
  have hr := run_make (P := Try.prog) w 31 3 i0 (.int .i64 0) Try.underlying31 hi hz0 .i64 .i64 0 n (by omega) (by omega) (by rw [hz2]; omega) (by omega)
  subst hL
  subst hC
  unfold Oper.wp
  simp only [Int.toNat_natCast] at hr
  simp [execOp, hop, hl, hc, hr, Result.andThen]
  refine hK' _ _ (hK _ ?_ ?_ ?_)
  · refine ⟨rfl, ?_⟩
    exact World.ownsRow_made (e := 3) (size := 1) w _ n (Nat.le_refl _) (by unfold maxLen; omega) (by rw [size_madeCells, hz1])
  · exact (Below.refl _ _).alloc (Nat.le_refl _) _
  · simp

end Go.Proofs.Ytcocboigjfjnfac

/- FrameP -/
namespace Go.Proofs.Ytcocboigjfjnfac
open Go.RowKit
set_option linter.unusedVariables false
set_option maxRecDepth 100000

def headF (k s : Int) (body : List Int) : List Int := [k, s, (body.length : Int)] ++ body
def putF (k s : Int) (body : List Int) : List Int := if validF k s body = true then headF k s body ++ [sumFrom 7 (headF k s body)] else []

theorem allW_head {k s : Int} {body : List Int} (h : validF k s body = true) : allW (headF k s body) = true := by
  obtain ⟨h1, h2, h3, h4⟩ := validF_iff.1 h
  have e : headF k s body = k :: s :: (body.length : Int) :: body := rfl
  rw [e]
  unfold allW at h4 ⊢
  simp only [List.all_cons, h4, Bool.and_true, Bool.and_eq_true]
  simp [okW]
  omega

theorem Own.lit' {w : World} {base g : Nat} (hg : g = w.heap.size) (hb : base ≤ w.heap.size) (xs : List Int) (hm : xs.length ≤ maxLen) :
    Own (w.alloc (.cells (xs.map (Value.int .i64)).toArray 3)) base (some ⟨g, 0, none⟩) xs.length xs.length xs := by
  subst hg
  exact Own.lit w base hb xs hm

theorem Ints.three (w : World) (a b c : Int) : Ints (w.alloc (.cells #[.int .i64 a, .int .i64 b, .int .i64 c] 3)) (w.heap.size + 1) (some ⟨w.heap.size, 0, none⟩) 3 [a, b, c] := by
  have h := (Own.lit w w.heap.size (Nat.le_refl _) [a, b, c] (by unfold maxLen; simp)).ints
  exact h.more (by simp)

theorem below_app_any {B : Nat} {a w w' : World} {row : Option Nat} {o : Obj} (h : Below B a w) (hB : B ≤ w.heap.size) (hg : (w.alloc o).grownBy w' row) (hr : ∀ k, row = some k → B ≤ k) : Below B a w' :=
  (h.alloc hB o).grown hg (by simp; omega) hr
theorem below_app_bare {B : Nat} {a w w' : World} {row : Option Nat} (h : Below B a w) (hB : B ≤ w.heap.size) (hg : w.grownBy w' row) (hr : ∀ k, row = some k → B ≤ k) : Below B a w' :=
  h.grown hg hB hr

theorem set_grown {a w : World} {R : Nat} (h : a.grownBy w (some R)) (i : Nat) (u : Value) : a.grownBy (w.setCell ⟨R, i, none⟩ u) (some R) :=
  ⟨h.os, h.tape, h.output, by simpa [World.setCell] using h.size, fun k hk hne => (Below.heap_setCell w ⟨R, i, none⟩ u k (by rintro rfl; exact hne rfl)).trans (h.block k hk hne)⟩
theorem set3_grown (w : World) (R : Nat) (u0 u1 u2 : Value) : w.grownBy (((w.setCell ⟨R, 0, none⟩ u0).setCell ⟨R, 1, none⟩ u1).setCell ⟨R, 2, none⟩ u2) (some R) :=
  set_grown (set_grown (set_grown (grown_refl w _) 0 u0) 1 u1) 2 u2

theorem frame_new {w : World} (R : Nat) (u0 u1 u2 : Value) (h : Blk w R 33 #[u0, u1, u2]) (v0 v1 v2 : Value) :
    Blk (((w.setCell ⟨R, 0, none⟩ v0).setCell ⟨R, 1, none⟩ v1).setCell ⟨R, 2, none⟩ v2) R 33 #[v0, v1, v2] := by
  have := ((h.set_ 0 v0).set_ 1 v1).set_ 2 v2
  simpa using this

theorem blk_new' {w : World} {g : Nat} (hg : g = w.heap.size) (t : TypeId) (cs : Array Value) : Blk (w.alloc (.cells cs t)) g t cs := by subst hg; exact Blk.new w t cs
theorem blk_cells3 {w : World} {R : Nat} {t : TypeId} {u0 u1 u2 : Value} (h : Blk w R t #[u0, u1, u2]) :
    w.cell? ⟨R, 0, none⟩ = some u0 ∧ w.cell? ⟨R, 1, none⟩ = some u1 ∧ w.cell? ⟨R, 2, none⟩ = some u2 := by
  refine ⟨?_, ?_, ?_⟩ <;> rw [h.cell] <;> rfl

theorem grown_box {w w' : World} {C : Nat} {o : Obj} (h : (w.alloc o).grownBy w' (some C)) : w.grownBy w' (some C) := grown_trans' (grown_alloc (grown_refl w (some C)) o) h
theorem blk_grown {w w' : World} {C R : Nat} {t : TypeId} {cs : Array Value} (h : Blk w R t cs) (hg : w.grownBy w' (some C)) (hne : R ≠ C) : Blk w' R t cs := h.grown hg (by intro e; injection e with e; exact hne e)

set_option maxHeartbeats 1000000 in
theorem specPut0 (k s : Int) (A : Option Addr) (n c B : Nat) (xs : List Int) (w : World) (hr : Ints w B A n xs) (hB : B ≤ w.heap.size) (hv : validF k s xs = true) :
    Calls Try.prog 69 #[.agg #[.int .i64 k, .int .i64 s, .slice A n c]] w fun e w' => ∃ A2 m c2, e = .returned (.slice A2 m c2) ∧ Own w' w.heap.size A2 m c2 (putF k s xs) ∧ Below w.heap.size w w' := by
  have hlen := hr.1
  have hl18 : n ≤ 18 := by have := (validF_iff.1 hv).2.2.1; omega
  have hl0 : 1 ≤ n := by have := (validF_iff.1 hv).2.2.1; omega
  have HP := hide (show putF k s xs = [k, s, (n : Int)] ++ xs ++ [sumFrom 7 ([k, s, (n : Int)] ++ xs)] by rw [putF, if_pos hv, headF, hlen])
  have HA := hide (show allW ([k, s, (n : Int)] ++ xs) = true by have h := allW_head hv; rw [headF, hlen] at h; exact h)
  have HI1 := hide fun o : Obj => (hr.alloc hB o)
  clear hr hv hlen
  go_enter Try.func69, Try.ntmps69
  go_wp2_with (first
      | (at_builtin; refine wpList_append_ints rfl (.tmp 11) (.tmp 13) rfl w.heap.size 3 _ B n _ _ _ [k, s, (n : Int)] xs rfl (Own.lit' (w := w.alloc (.cells #[.int .i64 k, .int .i64 s, .slice A n c] 33)) (base := w.heap.size) (g := w.heap.size + 1) (by simp) (by simp) [k, s, (n : Int)] (by unfold maxLen; simp)) rfl ((HI1.out _).alloc (by simp; omega) _) (by omega) (by simp; omega) ?_; intro A4 c4 w4 ho4 hg4 hat4; clear hat4; have hB4 := below_app_bare (((below_box w (.cells #[.int .i64 k, .int .i64 s, .slice A n c] 33))).alloc (by simp) _) (by simp; omega) hg4 (by intro q hq; simp [Value.ownBlock] at hq; omega))
      | (go_at_call 93; refine (specSum0 A4 (3 + n) c4 _ _ _ ho4.ints (by unfold maxLen; omega) HA.out).mono ?_; rintro e w' ⟨rfl, rfl⟩)
      | (at_builtin; refine wpList_append_ints rfl (.tmp 15) (.tmp 18) rfl w.heap.size (3 + n) _ _ 1 _ _ _ ([k, s, (n : Int)] ++ xs) [sumFrom 7 ([k, s, (n : Int)] ++ xs)] rfl (ho4.alloc _) rfl (Ints.one _ _) (by omega) (by have := hB4.size; simp; omega) ?_; intro A5 c5 w5 ho5 hg5 hat5; clear hat5; have hB5 := below_app_any hB4 hB4.size hg5 (fun q hq => (ho4.block q hq).1)))
  go_ret
  refine ⟨_, _, _, rfl, ?_, hB5⟩
  rw [HP.out]
  exact ho5

set_option maxHeartbeats 1000000 in
theorem specPut (k s : Int) (A : Option Addr) (n c B : Nat) (xs : List Int) (w : World) (hr : Ints w B A n xs) (hB : B ≤ w.heap.size) (hn : n ≤ maxLen) :
    Calls Try.prog 45 #[.agg #[.int .i64 k, .int .i64 s, .slice A n c]] w fun e w' => ∃ A2 m c2, e = .returned (.slice A2 m c2) ∧ Own w' w.heap.size A2 m c2 (putF k s xs) ∧ Below w.heap.size w w' := by
  have HN := hide hn
  have HI := hide fun o : Obj => (hr.alloc hB o)
  rcases hv : validF k s xs with _ | _
  · have HV := hide hv
    clear hr hv
    go_enter Try.func45, Try.ntmps45
    go_wp2_with fail
    refine (specValid k s A n c B xs _ (HI.out _) (by simp; omega) HN.out).mono ?_
    rw [HV.out]
    rintro e w1 ⟨rfl, hb1⟩
    have HB1 := hide ((below_box w _).trans (hb1.mono (by simp)))
    go_wp2
    go_ret
    refine ⟨_, _, _, rfl, ?_, HB1.out.alloc HB1.out.size _⟩
    rw [putF, if_neg (by rw [HV.out]; simp)]
    exact Own.lit0 _ _ HB1.out.size
  · have HV := hide hv
    clear hr hv
    go_enter Try.func45, Try.ntmps45
    go_wp2_with fail
    refine (specValid k s A n c B xs _ (HI.out _) (by simp; omega) HN.out).mono ?_
    rw [HV.out]
    rintro e w1 ⟨rfl, hb1⟩
    have hbk : Blk w1 w.heap.size 33 #[.int .i64 k, .int .i64 s, .slice A n c] := (Blk.new w 33 _).below hb1 (by simp)
    have HB1 := hide ((below_box w _).trans (hb1.mono (by simp)))
    have HI1 := hide ((HI.out _).below hb1 (by simp; omega))
    have c0 := hbk.cell 0
    have c1 := hbk.cell 1
    have c2 := hbk.cell 2
    simp at c0 c1 c2
    clear hb1
    have hsz := HB1.out.size
    go_wp2_with fail
    refine (specPut0 k s A n c B xs _ HI1.out (by omega) HV.out).mono ?_
    rintro e w2 ⟨A2, m, c2, rfl, ho2, hb2⟩
    go_wp2
    go_ret
    exact ⟨_, _, _, rfl, ho2.mono hsz, HB1.out.trans (hb2.mono hsz)⟩
end Go.Proofs.Ytcocboigjfjnfac

/- SumMath -/
namespace Go.Proofs.Ytcocboigjfjnfac
set_option linter.unusedVariables false
set_option maxRecDepth 100000

theorem sumFrom_append (xs ys : List Int) : ∀ s, allW xs = true → sumFrom s (xs ++ ys) = sumFrom (sumFrom s xs) ys := by
  induction xs with
  | nil => intro s _; rfl
  | cons x xs ih =>
    intro s h
    have h' : okW x = true ∧ allW xs = true := by simpa [allW] using h
    have hx : 0 ≤ x ∧ x ≤ 9999 := by simpa [okW] using h'.1
    show (if x < 0 ∨ 9999 < x then -1 else sumFrom _ (xs ++ ys)) = sumFrom (if x < 0 ∨ 9999 < x then -1 else _) ys
    rw [if_neg (by omega), if_neg (by omega), ih _ h'.2]

theorem allW_of_sum {xs : List Int} {s : Int} (h : 0 ≤ sumFrom s xs) : allW xs = true := by
  rcases hb : allW xs with _ | _
  · have := sumFrom_allW xs s hb; omega
  · rfl

theorem sum_next (xs : List Int) (w : Int) (h : 0 ≤ sumFrom 7 xs) (h0 : 0 ≤ w) (h1 : w ≤ 9999) : sumFrom 7 (xs ++ [w]) = (31 * sumFrom 7 xs + w + 1) % 9973 := by
  rw [sumFrom_append _ _ _ (allW_of_sum h)]
  show (if w < 0 ∨ 9999 < w then -1 else sumFrom _ []) = _
  rw [if_neg (by omega)]
  rfl

theorem sum_inj (xs : List Int) : ∀ s t, 0 ≤ s → s < 9973 → 0 ≤ t → t < 9973 → allW xs = true → sumFrom s xs = sumFrom t xs → s = t := by
  induction xs with
  | nil => intro s t _ _ _ _ _ h; exact h
  | cons x xs ih =>
    intro s t hs0 hs1 ht0 ht1 h he
    have h' : okW x = true ∧ allW xs = true := by simpa [allW] using h
    have hx : 0 ≤ x ∧ x ≤ 9999 := by simpa [okW] using h'.1
    unfold sumFrom at he
    rw [if_neg (by omega), if_neg (by omega)] at he
    have := ih _ _ (by omega) (by omega) (by omega) (by omega) h'.2 he
    omega

theorem allW_append (xs ys : List Int) : allW (xs ++ ys) = (allW xs && allW ys) := by simp [allW]

theorem split_at (xs : List Int) (k : Nat) (h : k < xs.length) : xs = xs.take k ++ xs.getD k 0 :: xs.drop (k + 1) := by
  have : xs.getD k 0 = xs[k] := by simp [List.getD, h]
  rw [this, ← List.drop_eq_getElem_cons h, List.take_append_drop]

theorem set_split (xs : List Int) (k : Nat) (x : Int) (h : k < xs.length) : xs.set k x = xs.take k ++ x :: xs.drop (k + 1) := by
  rw [List.set_eq_take_append_cons_drop, if_pos h]

theorem sum_cons (s x : Int) (xs : List Int) (h0 : 0 ≤ x) (h1 : x ≤ 9999) : sumFrom s (x :: xs) = sumFrom ((31 * s + x + 1) % 9973) xs := by
  show (if x < 0 ∨ 9999 < x then -1 else _) = _
  rw [if_neg (by omega)]

/-- A word raised by one is noticed. -/
theorem sum_change (xs : List Int) (k : Nat) (hk : k < xs.length) (h : 0 ≤ sumFrom 7 xs) : sumFrom 7 (xs.set k (xs.getD k 0 + 1)) ≠ sumFrom 7 xs := by
  have ha := allW_of_sum h
  have hs := split_at xs k hk
  have ha' := ha
  rw [hs, allW_append] at ha'
  simp only [Bool.and_eq_true] at ha'
  obtain ⟨h1, h2⟩ := ha'
  have h2' : okW (xs.getD k 0) = true ∧ allW (xs.drop (k + 1)) = true := by simpa [allW] using h2
  have hx : 0 ≤ xs.getD k 0 ∧ xs.getD k 0 ≤ 9999 := by simpa [okW] using h2'.1
  have hr := sumFrom_rng (xs.take k) 7 (by omega) (by omega) h1
  by_cases hm : xs.getD k 0 = 9999
  · have hbad : allW (xs.set k (xs.getD k 0 + 1)) = false := by
      rw [set_split _ _ _ hk, allW_append, hm]
      simp [allW, okW]
    rw [sumFrom_allW _ _ hbad]
    omega
  · intro he
    rw [set_split _ _ _ hk, sumFrom_append _ _ _ h1, sum_cons _ _ _ (by omega) (by omega)] at he
    have e2 : sumFrom 7 xs = sumFrom 7 (xs.take k ++ xs.getD k 0 :: xs.drop (k + 1)) := by rw [← hs]
    rw [e2, sumFrom_append _ _ _ h1, sum_cons _ _ _ (by omega) (by omega)] at he
    have := sum_inj _ _ _ (by omega) (by omega) (by omega) (by omega) h2'.2 he
    omega

theorem split_two (xs : List Int) (k : Nat) (h : k + 1 < xs.length) : xs = xs.take k ++ xs.getD k 0 :: xs.getD (k + 1) 0 :: xs.drop (k + 2) := by
  have h1 := split_at xs k (by omega)
  have h2 : xs.drop (k + 1) = xs.getD (k + 1) 0 :: xs.drop (k + 2) := by
    have : xs.getD (k + 1) 0 = xs[k + 1] := by simp [List.getD, h]
    rw [this, ← List.drop_eq_getElem_cons h]
  rw [← h2]
  exact h1

theorem set_two (xs : List Int) (k : Nat) (a b : Int) (h : k + 1 < xs.length) : (xs.set k a).set (k + 1) b = xs.take k ++ a :: b :: xs.drop (k + 2) := by
  have hl : (xs.take k).length = k := by rw [List.length_take]; omega
  have h2 : xs.drop (k + 1) = xs.getD (k + 1) 0 :: xs.drop (k + 2) := by
    have : xs.getD (k + 1) 0 = xs[k + 1] := by simp [List.getD, h]
    rw [this, ← List.drop_eq_getElem_cons h]
  rw [set_split xs k a (by omega), h2, List.set_append_right _ _ (by omega), hl]
  simp

/-- Two words that follow each other, exchanged: the sum stays just where their difference is divided by the base. -/
theorem sum_swap (xs : List Int) (k : Nat) (hk : k + 1 < xs.length) (h : 0 ≤ sumFrom 7 xs) :
    sumFrom 7 ((xs.set k (xs.getD (k + 1) 0)).set (k + 1) (xs.getD k 0)) = sumFrom 7 xs ↔ (xs.getD k 0 - xs.getD (k + 1) 0).tmod 9973 = 0 := by
  have ha := allW_of_sum h
  have hs := split_two xs k hk
  have ha' := ha
  rw [hs, allW_append] at ha'
  simp only [Bool.and_eq_true] at ha'
  obtain ⟨h1, h2⟩ := ha'
  have h2' : okW (xs.getD k 0) = true ∧ okW (xs.getD (k + 1) 0) = true ∧ allW (xs.drop (k + 2)) = true := by simpa [allW] using h2
  have hx : 0 ≤ xs.getD k 0 ∧ xs.getD k 0 ≤ 9999 := by simpa [okW] using h2'.1
  have hy : 0 ≤ xs.getD (k + 1) 0 ∧ xs.getD (k + 1) 0 ≤ 9999 := by simpa [okW] using h2'.2.1
  have hr := sumFrom_rng (xs.take k) 7 (by omega) (by omega) h1
  rw [set_two _ _ _ _ hk]
  have e2 : sumFrom 7 xs = sumFrom 7 (xs.take k ++ xs.getD k 0 :: xs.getD (k + 1) 0 :: xs.drop (k + 2)) := by rw [← hs]
  rw [e2, sumFrom_append _ _ _ h1, sumFrom_append _ _ _ h1, sum_cons _ _ _ (by omega) (by omega), sum_cons _ _ _ (by omega) (by omega), sum_cons _ _ _ (by omega) (by omega), sum_cons _ _ _ (by omega) (by omega)]
  generalize xs.getD k 0 = a at *
  generalize xs.getD (k + 1) 0 = b at *
  generalize sumFrom 7 (xs.take k) = s at *
  have hdvd : (a - b).tmod 9973 = 0 ↔ (a - b) % 9973 = 0 := by
    rw [← Int.dvd_iff_tmod_eq_zero, Int.dvd_iff_emod_eq_zero]
  rw [hdvd]
  constructor
  · intro he
    have := sum_inj _ _ _ (by omega) (by omega) (by omega) (by omega) h2'.2.2 he
    omega
  · intro he
    have : (31 * ((31 * s + b + 1) % 9973) + a + 1) % 9973 = (31 * ((31 * s + a + 1) % 9973) + b + 1) % 9973 := by omega
    rw [this]

end Go.Proofs.Ytcocboigjfjnfac

/- Rec -/
namespace Go.Proofs.Ytcocboigjfjnfac
open Go.RowKit
set_option linter.unusedVariables false
set_option maxRecDepth 100000

/-- '.slice A n c' is a row of the call's own (a block from base on) of n records of type t, s numbers each, that hold just xs. -/
def OwnR (w : World) (base : Nat) (t : TypeId) (s : Nat) (A : Option Addr) (n c : Nat) (xs : List Int) : Prop :=
  xs.length = n * s ∧ w.ownsRow base t s (.slice A n c) n (xs.map (Value.int .i64))
section
variable {w w' : World} {base n c s : Nat} {t : TypeId} {A : Option Addr} {xs : List Int}
theorem OwnR.cap (h : OwnR w base t s A n c xs) : n ≤ c ∧ c ≤ maxLen := by
  rcases h.2.2 with ⟨hv, h0⟩ | ⟨g, cap, cur, hv, hb, hh, hc, hm, hs, ht⟩
  · injection hv with _ h1 h2; subst h1; subst h2; exact ⟨Nat.le_refl _, Nat.zero_le _⟩
  · injection hv with _ _ h2; subst h2; exact ⟨hc, hm⟩
theorem OwnR.shape (h : OwnR w base t s A n c xs) (hn : 0 < n) : ∃ g, A = some ⟨g, 0, none⟩ ∧ base ≤ g ∧ g < w.heap.size := by
  rcases h.2.2 with ⟨hv, h0⟩ | ⟨g, cap, cur, hv, hb, hh, hc, hm, hs, ht⟩
  · omega
  · injection hv with h1; exact ⟨g, h1, hb, (Array.getElem?_eq_some_iff.1 hh).1⟩
theorem OwnR.nilc (h : OwnR w base t s A n c xs) : A = none → c = 0 := by
  rcases h.2.2 with ⟨hv, h0⟩ | ⟨g, cap, cur, hv, hb, hh, hc, hm, hs, ht⟩
  · injection hv with _ _ h2; intro _; exact h2
  · injection hv with h1; intro e; rw [h1] at e; cases e
theorem OwnR.block (h : OwnR w base t s A n c xs) : ∀ k, (Value.slice A n c).ownBlock = some k → base ≤ k ∧ k < w.heap.size := h.2.lt
theorem OwnR.ints (h : OwnR w base t s A n c xs) : Ints w w.heap.size A (n * s) xs := by
  refine ⟨h.1, fun hn => ?_⟩
  have hn' : 0 < n := by
    rcases Nat.eq_zero_or_pos n with h0 | h0
    · subst h0; simp at hn
    · exact h0
  obtain ⟨g, rfl, hb, hl⟩ := h.shape hn'
  refine ⟨_, rfl, hl, fun j hj => h.2.cells rfl j _ ?_⟩
  have : j < xs.length := by rw [h.1]; exact hj
  simp [List.getD, this]
theorem OwnR.kept {row : Option Nat} (h : OwnR w base t s A n c xs) (hg : w.grownBy w' row) (hne : ∀ k, row = some k → (Value.slice A n c).ownBlock ≠ some k) : OwnR w' base t s A n c xs :=
  ⟨h.1, h.2.kept hg (by
    rcases hv : (Value.slice A n c).ownBlock with _ | g
    · exact .inl rfl
    · right; intro e; exact hne g e.symm hv)⟩
theorem OwnR.below (h : OwnR w base t s A n c xs) (hg : Below w.heap.size w w') : OwnR w' base t s A n c xs := h.kept (grown_of_below hg none) (by simp)
theorem OwnR.alloc (h : OwnR w base t s A n c xs) (o : Obj) : OwnR (w.alloc o) base t s A n c xs := ⟨h.1, h.2.alloc o⟩
theorem OwnR.drewN (h : OwnR w base t s A n c xs) (k : Nat) : OwnR (w.drewN k) base t s A n c xs := h
theorem OwnR.nil_ (w : World) (base : Nat) (t : TypeId) (s : Nat) : OwnR w base t s none 0 0 [] := ⟨by simp, World.ownsRow_nil _ _ _ _⟩
theorem OwnR.mono {b' : Nat} (h : OwnR w base t s A n c xs) (hb : b' ≤ base) : OwnR w b' t s A n c xs := by
  refine ⟨h.1, h.2.1, ?_⟩
  rcases h.2.2 with h0 | ⟨g, cap, cur, hv, hb', r⟩
  · exact .inl h0
  · exact .inr ⟨g, cap, cur, hv, by omega, r⟩
theorem OwnR.lit (w : World) (base : Nat) (hb : base ≤ w.heap.size) (t : TypeId) (s : Nat) (n : Nat) (xs : List Int) (hl : xs.length = n * s) (hm : n ≤ maxLen) :
    OwnR (w.alloc (.cells (xs.map (Value.int .i64)).toArray t)) base t s (some ⟨w.heap.size, 0, none⟩) n n xs := by
  refine ⟨hl, ?_⟩
  have := World.ownsRow_lit (base := base) (e := t) (size := s) w (xs.map (Value.int .i64)).toArray n hb hm (by simpa using hl)
  simpa using this
theorem OwnR.lit0 (w : World) (base : Nat) (hb : base ≤ w.heap.size) (t : TypeId) (s : Nat) : OwnR (w.alloc (.cells #[] t)) base t s (some ⟨w.heap.size, 0, none⟩) 0 0 [] :=
  OwnR.lit w base hb t s 0 [] (by simp) (Nat.zero_le _)
theorem OwnR.stored {g j : Nat} (h : OwnR w base t s (some ⟨g, 0, none⟩) n c xs) (x : Int) :
    OwnR (w.setCell ⟨g, j, none⟩ (.int .i64 x)) base t s (some ⟨g, 0, none⟩) n c (xs.set j x) ∧ w.grownBy (w.setCell ⟨g, j, none⟩ (.int .i64 x)) (some g) := by
  have := h.2.stored j (.int .i64 x)
  refine ⟨⟨by simpa using h.1, ?_⟩, this.2⟩
  rw [List.map_set]
  exact this.1
theorem OwnR.free {g j : Nat} (h : OwnR w base t s (some ⟨g, 0, none⟩) n c xs) : w.frozen? ⟨g, j, none⟩ = false := h.2.frozenAt j
theorem OwnR.cell {g j : Nat} (h : OwnR w base t s (some ⟨g, 0, none⟩) n c xs) (hj : j < n * s) : w.cell? ⟨g, j, none⟩ = some (.int .i64 (xs.getD j 0)) := by
  rw [h.2.cellAt j hj]
  have : j < xs.length := by rw [h.1]; exact hj
  simp [List.getD, this]
end

theorem below_new (w : World) (o : Obj) : Below w.heap.size w (w.alloc o) := (Below.refl _ _).alloc (Nat.le_refl _) o

theorem grown_undrawn {w w' : World} {row : Option Nat} (h : w.drew.grownBy w' row) : w.grownBy w' row := ⟨h.os, h.tape, h.output, h.size, h.block⟩

theorem below_app_r {B base s n c : Nat} {t : TypeId} {a w w' : World} {A : Option Addr} {xs : List Int} {o : Obj} (h : Below B a w) (hB : B ≤ w.heap.size) (hown : OwnR w base t s A n c xs) (hb : B ≤ base)
    (hg : (w.alloc o).grownBy w' (Value.slice A n c).ownBlock) : Below B a w' :=
  (h.alloc hB o).grown hg (by simp; omega) (fun k hk => by have := (hown.block k hk).1; omega)

/-- what the append of records asks of the types: T a slice of t's, t a struct of s numbers -/
structure RT (T t : TypeId) (s bytes : Nat) (z : Value) : Prop where
  und : Try.prog.underlying T = some (.slice t)
  info : (Try.prog.info? t).map (fun i => (i.zero, i.size, i.bytes)) = some (some z, s, bytes)
  zs : z.cells.size = s
  pos : 0 < s
  small : bytes ≤ 64

theorem run_append_recs {T t : TypeId} {s bytes : Nat} {z : Value} (hT : RT T t s bytes z) (w : World) (base n c B m d : Nat) (A A' : Option Addr) (xs ys : List Int) (ty : TypeId) (hown : OwnR w base t s A n c xs) (hr : Ints w B A' (m * s) ys)
    (hnm : n + m ≤ 1000000000000) (hbase : base ≤ w.heap.size) :
    ∃ A2 c2 w', (Builtin.append_ #[T, T] ty #[.slice A n c, .slice A' m d]).run Try.prog w = .ok (.slice A2 (n + m) c2) w' ∧ OwnR w' base t s A2 (n + m) c2 (xs ++ ys) ∧
      w.grownBy w' (Value.slice A n c).ownBlock ∧ ((Value.slice A2 (n + m) c2).ownBlock = (Value.slice A n c).ownBlock ∨ (Value.slice A2 (n + m) c2).ownBlock = some w.heap.size) := by
  obtain ⟨i0, hi, hz0, hz1, hz2⟩ := info_parts hT.info
  have hpos := hT.pos
  have h0 : m = 0 → ys = [] := fun h => List.eq_nil_of_length_eq_zero (by rw [hr.1, h, Nat.zero_mul])
  have hm0 : 0 < m → 0 < m * s := fun h => Nat.mul_pos h hpos
  rcases A' with _ | ad
  · have hm : m = 0 := by
      rcases Nat.eq_zero_or_pos m with h | h
      · exact h
      · obtain ⟨ad, h', _⟩ := hr.2 (hm0 h)
        cases h'
    subst hm
    rw [h0 rfl]
    exact ⟨A, c, w, run_append_of_nil w base T ty t i0 s hT.und hi _ n _ hown.2 d, by simpa using hown, World.grownBy.refl w _, .inl rfl⟩
  · have hcells : ∀ j u, (ys.map (Value.int .i64))[j]? = some u → w.cell? (ad.add j) = some u := by
      intro j u hu
      rcases Nat.eq_zero_or_pos m with h | h
      · rw [h0 h] at hu; simp at hu
      · obtain ⟨ad', h', _, hc⟩ := hr.2 (hm0 h)
        injection h' with h'
        subst h'
        have hj : j < ys.length := by
          rcases Nat.lt_or_ge j ys.length with hl | hl
          · exact hl
          · rw [List.getElem?_eq_none (by simpa using hl)] at hu; cases hu
        have := hc j (by rw [← hr.1]; exact hj)
        simp [hj] at hu
        rw [this, ← hu]
        simp [List.getD, hj]
    obtain ⟨v', w', hrun, h2, h3, _, h5⟩ := run_append_own_at (P := Try.prog) w base T ty t i0 z s bytes hT.und hi hz0 hz1 hz2 hT.zs hT.pos
      (.slice A n c) n (xs.map (Value.int .i64)) hown.2 ad m d (ys.map (Value.int .i64)) (by simp [hr.1]) hcells (by intro u hu; simp at hu; obtain ⟨x, _, rfl⟩ := hu; rfl)
      (by unfold maxLen; omega) (Nat.le_trans (Nat.mul_le_mul hnm hT.small) (by decide)) hbase
    obtain ⟨A2, c2, rfl⟩ := slice_of_own h2
    exact ⟨A2, c2, w', hrun, ⟨by simp [hown.1, hr.1, Nat.add_mul], by simpa using h2⟩, h3, h5⟩

theorem wp_append_recs {T t : TypeId} {s0 bytes : Nat} {z : Value} (hT : RT T t s0 bytes z) {w : World} {o : Oper} {a : Act} {K : Act → World → Prop} {Q : Exit → Act → World → Prop} (s x : Operand)
    (ho : o.op = .call { callee := .builtin .append, args := #[s, x], argTypes := #[T, T] })
    (base n c B m d : Nat) (A A' : Option Addr) (xs ys : List Int) (hs : a.eval s = .slice A n c) (hown : OwnR w base t s0 A n c xs) (hx : a.eval x = .slice A' m d) (hr : Ints w B A' (m * s0) ys)
    (hnm : n + m ≤ 1000000000000) (hbase : base ≤ w.heap.size)
    (h : ∀ A2 c2 w', OwnR w' base t s0 A2 (n + m) c2 (xs ++ ys) → w.grownBy w' (Value.slice A n c).ownBlock →
      ((Value.slice A2 (n + m) c2).ownBlock = (Value.slice A n c).ownBlock ∨ (Value.slice A2 (n + m) c2).ownBlock = some w.heap.size) → K (a.put o.dst (.slice A2 (n + m) c2)) w') : o.wp Try.prog a w K Q := by
  obtain ⟨A2, c2, w', hrun, h2, h3, h4⟩ := run_append_recs hT w base n c B m d A A' xs ys o.type hown hr hnm hbase
  unfold Oper.wp execOp
  simp only [ho, resolve, invoke, builtin, Sem.run_bind, Sem.run_pure, Result.andThen_ok, List.map_toArray, List.map_cons, List.map_nil, hs, hx, hrun]
  exact h A2 c2 w' h2 h3 h4

theorem wpList_append_recs {T t : TypeId} {s0 bytes : Nat} {z : Value} (hT : RT T t s0 bytes z) {w : World} {ops : Array Oper} {rest : List Oper} {o : Oper} {a : Act} {Q : Exit → Act → World → Prop} (hgd : o.guard = none) (s x : Operand)
    (ho : o.op = .call { callee := .builtin .append, args := #[s, x], argTypes := #[T, T] })
    (base n c B m d : Nat) (A A' : Option Addr) (xs ys : List Int) (hs : a.eval s = .slice A n c) (hown : OwnR w base t s0 A n c xs) (hx : a.eval x = .slice A' m d) (hr : Ints w B A' (m * s0) ys)
    (hnm : n + m ≤ 1000000000000) (hbase : base ≤ w.heap.size)
    (h : ∀ A2 c2 w', OwnR w' base t s0 A2 (n + m) c2 (xs ++ ys) → w.grownBy w' (Value.slice A n c).ownBlock →
      ((Value.slice A2 (n + m) c2).ownBlock = (Value.slice A n c).ownBlock ∨ (Value.slice A2 (n + m) c2).ownBlock = some w.heap.size) → wpList Try.prog ops Q rest (a.put o.dst (.slice A2 (n + m) c2)) w') :
    wpList Try.prog ops Q (o :: rest) a w :=
  wpList_plain hgd fun _ hK => wp_append_recs hT s x ho base n c B m d A A' xs ys hs hown hx hr hnm hbase fun A2 c2 w' h2 h3 h4 => hK _ _ (h A2 c2 w' h2 h3 h4)

theorem step_append_recs {T t : TypeId} {s0 bytes : Nat} {z : Value} (hT : RT T t s0 bytes z) {w : World} {ops : Array Oper} {o : Oper} {a : Act} {K : Act → World → Prop} {Q : Exit → Act → World → Prop} {E : Prop} (hgd : o.guard = none) (s x : Operand)
    (ho : o.op = .call { callee := .builtin .append, args := #[s, x], argTypes := #[T, T] })
    (base n c B m d : Nat) (A A' : Option Addr) (xs ys : List Int) (hs : a.eval s = .slice A n c) (hown : OwnR w base t s0 A n c xs) (hx : a.eval x = .slice A' m d) (hr : Ints w B A' (m * s0) ys)
    (hnm : n + m ≤ 1000000000000) (hbase : base ≤ w.heap.size)
    (h : ∀ A2 c2 w', OwnR w' base t s0 A2 (n + m) c2 (xs ++ ys) → w.grownBy w' (Value.slice A n c).ownBlock →
      ((Value.slice A2 (n + m) c2).ownBlock = (Value.slice A n c).ownBlock ∨ (Value.slice A2 (n + m) c2).ownBlock = some w.heap.size) → K (a.put o.dst (.slice A2 (n + m) c2)) w') :
    if Region.wanted o (yielded ops a.tmps) = true then Oper.wp Try.prog o a w K Q else E := by
  have hw : Region.wanted o (yielded ops a.tmps) = true := by simp [Region.wanted, hgd]
  rw [if_pos hw]
  exact wp_append_recs hT s x ho base n c B m d A A' xs ys hs hown hx hr hnm hbase h

theorem pairT : RT 103 135 2 16 (.agg #[.int .i64 0, .int .i64 0]) := ⟨Try.underlying103, by kernel_rfl, by decide, by decide, by decide⟩
theorem coldT : RT 100 131 3 24 (.agg #[.int .i64 0, .int .i64 0, .int .i64 0]) := ⟨Try.underlying100, by kernel_rfl, by decide, by decide, by decide⟩

/-- one new record of two or three numbers reads -/
theorem Ints.rec2 (w : World) (t : TypeId) (x y : Int) : Ints (w.alloc (.cells #[.int .i64 x, .int .i64 y] t)) (w.heap.size + 1) (some ⟨w.heap.size, 0, none⟩) (1 * 2) [x, y] := by
  refine ⟨rfl, fun _ => ⟨_, rfl, by simp, fun j hj => ?_⟩⟩
  rw [add_plain']
  have h := (Blk.new w t #[.int .i64 x, .int .i64 y]).cell j
  rw [h]
  rcases j with _ | _ | j
  · rfl
  · rfl
  · omega
theorem Ints.rec3 (w : World) (t : TypeId) (x y z : Int) : Ints (w.alloc (.cells #[.int .i64 x, .int .i64 y, .int .i64 z] t)) (w.heap.size + 1) (some ⟨w.heap.size, 0, none⟩) (1 * 3) [x, y, z] := by
  refine ⟨rfl, fun _ => ⟨_, rfl, by simp, fun j hj => ?_⟩⟩
  rw [add_plain']
  have h := (Blk.new w t #[.int .i64 x, .int .i64 y, .int .i64 z]).cell j
  rw [h]
  rcases j with _ | _ | _ | j
  · rfl
  · rfl
  · rfl
  · omega
end Go.Proofs.Ytcocboigjfjnfac

/- Zone -/
namespace Go.Proofs.Ytcocboigjfjnfac
open Go.RowKit
set_option linter.unusedVariables false
set_option maxRecDepth 100000

/-- A zone: its words, how many last, whether it is closed; and where its words lie. -/
structure Zq where
  words : List Int
  synced : Int
  full : Bool
  addr : Option Addr
  cap : Nat
/-- the zone as the document sees it -/
def Zq.zn (q : Zq) : List Int × Int × Bool := (q.words, q.synced, q.full)
def Zq.sl (q : Zq) : Value := .slice q.addr q.words.length q.cap
def Zq.vals (q : Zq) : List Value := [q.sl, .int .i64 q.synced, .bool q.full]
def flat : List Zq → List Value
  | [] => []
  | q :: qs => q.sl :: .int .i64 q.synced :: .bool q.full :: flat qs
/-- a device -/
abbrev Dev := List (List Int × Int × Bool)
def zns (qs : List Zq) : Dev := qs.map Zq.zn

theorem flat_length (qs : List Zq) : (flat qs).length = qs.length * 3 := by
  induction qs with
  | nil => rfl
  | cons q qs ih => simp only [flat, List.length_cons, ih]; omega
theorem flat_append (qs rs : List Zq) : flat (qs ++ rs) = flat qs ++ flat rs := by
  induction qs with
  | nil => rfl
  | cons q qs ih => simp only [flat, List.cons_append, ih]
theorem flat_get {qs : List Zq} {k : Nat} {q : Zq} (h : qs[k]? = some q) (j : Nat) (hj : j < 3) : (flat qs)[k * 3 + j]? = q.vals[j]? := by
  induction qs generalizing k with
  | nil => simp at h
  | cons r qs ih =>
    rcases k with _ | k
    · simp at h
      subst h
      rcases j with _ | _ | _ | j
      · rfl
      · rfl
      · rfl
      · omega
    · simp at h
      have := ih h
      rw [show (k + 1) * 3 + j = (k * 3 + j) + 1 + 1 + 1 by omega]
      simpa [flat] using this
theorem flat_set {qs : List Zq} {k : Nat} {q q' : Zq} (h : qs[k]? = some q) (j : Nat) (v : Value) (hj : j < 3) (hv : q'.vals = q.vals.set j v) : (flat qs).set (k * 3 + j) v = flat (qs.set k q') := by
  induction qs generalizing k with
  | nil => simp at h
  | cons r qs ih =>
    rcases k with _ | k
    · simp at h
      subst h
      obtain ⟨h0, h1, h2⟩ : q'.sl = (r.vals.set j v).getD 0 (.bool false) ∧ (.int .i64 q'.synced : Value) = (r.vals.set j v).getD 1 (.bool false) ∧ (.bool q'.full : Value) = (r.vals.set j v).getD 2 (.bool false) := by
        rw [← hv]
        exact ⟨rfl, rfl, rfl⟩
      simp only [List.set_cons_zero, flat]
      rw [h0, h1, h2]
      rcases j with _ | _ | _ | j
      · rfl
      · rfl
      · rfl
      · omega
    · simp at h
      have := ih h
      rw [show (k + 1) * 3 + j = (k * 3 + j) + 1 + 1 + 1 by omega]
      simpa [flat] using this
theorem flat_one (qs : List Zq) : ∀ u ∈ flat qs, u.oneCell' = true := by
  induction qs with
  | nil => simp [flat]
  | cons q qs ih =>
    intro u hu
    simp only [flat, List.mem_cons] at hu
    rcases hu with rfl | rfl | rfl | hu
    · rfl
    · rfl
    · rfl
    · exact ih u hu

/-! ### A device that can be read -/
def Zns (w : World) (B : Nat) (A : Option Addr) (n : Nat) (qs : List Zq) : Prop :=
  qs.length = n ∧ (0 < n → ∃ ad, A = some ad ∧ ad.block < B ∧ ∀ j u, (flat qs)[j]? = some u → w.cell? (ad.add j) = some u) ∧
    ∀ q ∈ qs, Ints w B q.addr q.words.length q.words ∧ q.words.length ≤ q.cap ∧ q.cap ≤ maxLen
section
variable {w w' : World} {B B' n : Nat} {A : Option Addr} {qs : List Zq}
theorem Zns.nil_ (w : World) (B : Nat) (A : Option Addr) : Zns w B A 0 [] := ⟨rfl, fun h => absurd h (by omega), by simp⟩
theorem Zns.at_ (h : Zns w B A n qs) {k : Nat} {q : Zq} (hk : qs[k]? = some q) : ∃ ad p, A = some ad ∧ ad.add (k * 3) = p ∧ p.block < B ∧ w.cell? p = some q.sl ∧
    w.cell? ⟨p.block, p.off + 1, none⟩ = some (.int .i64 q.synced) ∧ w.cell? ⟨p.block, p.off + 2, none⟩ = some (.bool q.full) := by
  have hl : k < n := by rw [← h.1]; exact (List.getElem?_eq_some_iff.1 hk).1
  obtain ⟨ad, e, hb, hc⟩ := h.2.1 (by omega)
  have hc0 := hc (k * 3 + 0) _ (by rw [flat_get hk 0 (by omega)]; rfl)
  have hc1 := hc (k * 3 + 1) _ (by rw [flat_get hk 1 (by omega)]; rfl)
  have hc2 := hc (k * 3 + 2) _ (by rw [flat_get hk 2 (by omega)]; rfl)
  have next : ∀ {i : Nat} {v : Value}, i ≠ 0 → w.cell? (ad.add (k * 3 + i)) = some v → w.cell? ⟨(ad.add (k * 3)).block, (ad.add (k * 3)).off + i, none⟩ = some v := by
    intro i v hi h
    rw [← add_of_add] at h
    simpa [Addr.add, hi] using h
  exact ⟨ad, _, e, rfl, by rw [block_of_add]; exact hb, hc0, next (by decide) hc1, next (by decide) hc2⟩
theorem Zns.words (h : Zns w B A n qs) {k : Nat} {q : Zq} (hk : qs[k]? = some q) : Ints w B q.addr q.words.length q.words ∧ q.words.length ≤ q.cap ∧ q.cap ≤ maxLen := h.2.2 q (List.mem_of_getElem? hk)
theorem Zns.keep (h : Zns w B A n qs) (hk : ∀ p : Addr, p.block < B → w'.cell? p = w.cell? p) : Zns w' B A n qs :=
  ⟨h.1, fun hn => by
    obtain ⟨ad, e, hb, hc⟩ := h.2.1 hn
    exact ⟨ad, e, hb, fun j u hu => (hk _ (by rw [block_of_add]; exact hb)).trans (hc j u hu)⟩, fun q hq => ⟨(h.2.2 q hq).1.keep hk, (h.2.2 q hq).2⟩⟩
theorem Zns.more (h : Zns w B A n qs) (hB : B ≤ B') : Zns w B' A n qs :=
  ⟨h.1, fun hn => by
    obtain ⟨ad, e, hb, hc⟩ := h.2.1 hn
    exact ⟨ad, e, by omega, hc⟩, fun q hq => ⟨(h.2.2 q hq).1.more hB, (h.2.2 q hq).2⟩⟩
theorem Zns.below {B2 : Nat} (h : Zns w B A n qs) (hb : Below B2 w w') (hB : B ≤ B2) : Zns w' B A n qs := h.keep fun _ hp => hb.cell (by omega)
theorem Zns.drewN (h : Zns w B A n qs) (k : Nat) : Zns (w.drewN k) B A n qs := h.keep fun _ _ => rfl
theorem Zns.alloc (h : Zns w B A n qs) (hB : B ≤ w.heap.size) (o : Obj) : Zns (w.alloc o) B A n qs := h.keep fun p hp => World.cell?_alloc_lt w o p (by omega)
theorem Zns.grown (h : Zns w B A n qs) {row : Option Nat} (hg : w.grownBy w' row) (hB : B ≤ w.heap.size) (hr : ∀ g, row = some g → B ≤ g) : Zns w' B A n qs :=
  h.keep fun p hp => World.cell?_of_block (hg.block p.block (by omega) (fun e => by have := hr _ e.symm; omega))
theorem Zns.firsts (h : Zns w B A n qs) {m : Nat} (hm : m ≤ n) : Zns w B A m (qs.take m) := by
  refine ⟨by rw [List.length_take, h.1]; omega, fun hn => ?_, fun q hq => h.2.2 q (List.mem_of_mem_take hq)⟩
  obtain ⟨ad, e, hb, hc⟩ := h.2.1 (by omega)
  refine ⟨ad, e, hb, fun j u hu => hc j u ?_⟩
  have e2 : flat qs = flat (qs.take m) ++ flat (qs.drop m) := by rw [← flat_append, List.take_append_drop]
  rw [e2, List.getElem?_append_left (List.getElem?_eq_some_iff.1 hu).1]
  exact hu
end

/-! ### A device that the call owns -/
structure OwnZ (w : World) (base : Nat) (A : Option Addr) (n c : Nat) (qs : List Zq) : Prop where
  len : qs.length = n
  row : w.ownsRow base 40 3 (.slice A n c) n (flat qs)
  own : ∀ (k : Nat) (q : Zq), qs[k]? = some q → Own w base q.addr q.words.length q.cap q.words
  sep : ∀ (i j : Nat) (q r : Zq), qs[i]? = some q → qs[j]? = some r → i ≠ j → ∀ g, q.sl.ownBlock = some g → r.sl.ownBlock ≠ some g

theorem rows_ne {w : World} {b b' t t' s s' n n' : Nat} {v v' : Value} {xs ys : List Value} (h : w.ownsRow b t s v n xs) (h' : w.ownsRow b' t' s' v' n' ys) (ht : t ≠ t') {g : Nat} (hv : v.ownBlock = some g) : v'.ownBlock ≠ some g := by
  intro hv'
  rcases h.2 with ⟨rfl, _⟩ | ⟨g1, cap1, cur1, rfl, _, hh, _⟩
  · simp [Value.ownBlock] at hv
  · rcases h'.2 with ⟨rfl, _⟩ | ⟨g2, cap2, cur2, rfl, _, hh', _⟩
    · simp [Value.ownBlock] at hv'
    · simp [Value.ownBlock] at hv hv'
      subst hv hv'
      rw [hh] at hh'
      simp at hh'
      exact ht hh'.2

section
variable {w w' : World} {base n c : Nat} {A : Option Addr} {qs : List Zq}
theorem OwnZ.cap (h : OwnZ w base A n c qs) : n ≤ c ∧ c ≤ maxLen := by
  rcases h.row.2 with ⟨hv, h0⟩ | ⟨g, cap, cur, hv, hb, hh, hc, hm, hs, ht⟩
  · injection hv with _ h1 h2; subst h1; subst h2; exact ⟨Nat.le_refl _, Nat.zero_le _⟩
  · injection hv with _ _ h2; subst h2; exact ⟨hc, hm⟩
theorem OwnZ.shape (h : OwnZ w base A n c qs) (hn : 0 < n) : ∃ g, A = some ⟨g, 0, none⟩ ∧ base ≤ g ∧ g < w.heap.size := by
  rcases h.row.2 with ⟨hv, h0⟩ | ⟨g, cap, cur, hv, hb, hh, hc, hm, hs, ht⟩
  · omega
  · injection hv with h1; exact ⟨g, h1, hb, (Array.getElem?_eq_some_iff.1 hh).1⟩
theorem OwnZ.block (h : OwnZ w base A n c qs) : ∀ k, (Value.slice A n c).ownBlock = some k → base ≤ k ∧ k < w.heap.size := h.row.lt
theorem OwnZ.wblock (h : OwnZ w base A n c qs) {k : Nat} {q : Zq} (hk : qs[k]? = some q) : ∀ g, q.sl.ownBlock = some g → base ≤ g ∧ g < w.heap.size := (h.own k q hk).block
/-- words lie elsewhere than zones -/
theorem OwnZ.far (h : OwnZ w base A n c qs) {k : Nat} {q : Zq} (hk : qs[k]? = some q) {g : Nat} (hg : (Value.slice A n c).ownBlock = some g) : q.sl.ownBlock ≠ some g :=
  rows_ne h.row (h.own k q hk).2 (by decide) hg
theorem OwnZ.zns (h : OwnZ w base A n c qs) : Zns w w.heap.size A n qs := by
  refine ⟨h.len, fun hn => ?_, fun q hq => ?_⟩
  · obtain ⟨g, rfl, hb, hl⟩ := h.shape hn
    exact ⟨_, rfl, hl, fun j u hu => h.row.cells rfl j u hu⟩
  · obtain ⟨k, hk⟩ := List.getElem?_of_mem hq
    exact ⟨(h.own k q hk).ints, (h.own k q hk).cap⟩
theorem OwnZ.kept {row : Option Nat} (h : OwnZ w base A n c qs) (hg : w.grownBy w' row) (hne : ∀ g, row = some g → (Value.slice A n c).ownBlock ≠ some g ∧ ∀ (k : Nat) (q : Zq), qs[k]? = some q → q.sl.ownBlock ≠ some g) : OwnZ w' base A n c qs :=
  ⟨h.len, h.row.kept hg (by
    rcases hv : (Value.slice A n c).ownBlock with _ | g
    · exact .inl rfl
    · right; intro e; exact (hne g e.symm).1 hv), fun k q hk => (h.own k q hk).kept hg (fun g hr => (hne g hr).2 k q hk), h.sep⟩
theorem OwnZ.below (h : OwnZ w base A n c qs) (hg : Below w.heap.size w w') : OwnZ w' base A n c qs := h.kept (grown_of_below hg none) (by simp)
theorem OwnZ.alloc (h : OwnZ w base A n c qs) (o : Obj) : OwnZ (w.alloc o) base A n c qs := ⟨h.len, h.row.alloc o, fun k q hk => (h.own k q hk).alloc o, h.sep⟩
theorem OwnZ.drewN (h : OwnZ w base A n c qs) (k : Nat) : OwnZ (w.drewN k) base A n c qs := ⟨h.len, h.row, fun j q hj => (h.own j q hj).drewN k, h.sep⟩
theorem OwnZ.nil_ (w : World) (base : Nat) : OwnZ w base none 0 0 [] := ⟨rfl, World.ownsRow_nil _ _ _ _, by simp, by simp⟩
theorem OwnZ.mono {b' : Nat} (h : OwnZ w base A n c qs) (hb : b' ≤ base) : OwnZ w b' A n c qs := by
  refine ⟨h.len, ⟨h.row.1, ?_⟩, fun k q hk => (h.own k q hk).mono hb, h.sep⟩
  rcases h.row.2 with h0 | ⟨g, cap, cur, hv, hb', r⟩
  · exact .inl h0
  · exact .inr ⟨g, cap, cur, hv, by omega, r⟩
theorem OwnZ.lit0 (w : World) (base : Nat) (hb : base ≤ w.heap.size) : OwnZ (w.alloc (.cells #[] 40)) base (some ⟨w.heap.size, 0, none⟩) 0 0 [] := by
  refine ⟨rfl, ?_, by simp, by simp⟩
  have := World.ownsRow_lit (base := base) (e := 40) (size := 3) w #[] 0 hb (Nat.zero_le _) (by simp)
  simpa [flat] using this
end

/-- a store into one cell of zone k, behind work that may have moved that zone's words -/
theorem OwnZ.put {w w3 : World} {base g n c k : Nat} {qs : List Zq} {q : Zq} {row : Option Nat} (h : OwnZ w base (some ⟨g, 0, none⟩) n c qs) (hk : qs[k]? = some q) (hg : w.grownBy w3 row)
    (hrow : ∀ b, row = some b → b ≠ g ∧ ∀ (i : Nat) (r : Zq), qs[i]? = some r → i ≠ k → r.sl.ownBlock ≠ some b) (q' : Zq) (j : Nat) (v : Value) (hj : j < 3) (hv : q'.vals = q.vals.set j v)
    (hq' : Own w3 base q'.addr q'.words.length q'.cap q'.words) (hsep : ∀ (i : Nat) (r : Zq), qs[i]? = some r → i ≠ k → ∀ b, r.sl.ownBlock = some b → q'.sl.ownBlock ≠ some b) :
    OwnZ (w3.setCell ⟨g, k * 3 + j, none⟩ v) base (some ⟨g, 0, none⟩) n c (qs.set k q') ∧ w3.grownBy (w3.setCell ⟨g, k * 3 + j, none⟩ v) (some g) := by
  have hob : (Value.slice (some (⟨g, 0, none⟩ : Addr)) n c).ownBlock = some g := rfl
  have hr := h.row.kept hg (by
    rcases row with _ | b
    · exact .inr (by rw [hob]; simp)
    · exact .inr (by rw [hob]; intro e; injection e with e; exact (hrow b rfl).1 e.symm))
  have hst := hr.stored (k * 3 + j) v
  rw [flat_set hk j v hj hv] at hst
  refine ⟨⟨by rw [List.length_set]; exact h.len, hst.1, fun i r hi => ?_, fun i i' r r' hi hi' hii b hb => ?_⟩, hst.2⟩
  · rw [List.getElem?_set] at hi
    split at hi
    · split at hi
      · injection hi with hi
        subst hi
        exact hq'.kept hst.2 (fun b hb => by injection hb with hb; subst hb; exact rows_ne hr hq'.2 (by decide) hob)
      · cases hi
    · next hne =>
      have ho := (h.own i r hi).kept hg (fun b hb => (hrow b hb).2 i r hi (fun e => hne e.symm))
      exact ho.kept hst.2 (fun b hb => by injection hb with hb; subst hb; exact rows_ne hr ho.2 (by decide) hob)
  · rw [List.getElem?_set] at hi hi'
    split at hi
    · next e1 =>
      split at hi
      · injection hi with hi
        subst hi
        split at hi'
        · next e2 => exact absurd (e1.symm.trans e2) hii
        · next e2 => exact fun e => hsep i' r' hi' (fun e3 => e2 e3.symm) b e hb
      · cases hi
    · next e1 =>
      split at hi'
      · split at hi'
        · injection hi' with hi'
          subst hi'
          exact hsep i r hi (fun e3 => e1 e3.symm) b hb
        · cases hi'
      · exact h.sep i i' r r' hi hi' hii b hb

/-- .. where its words stay -/
theorem OwnZ.put_in {w : World} {base g n c k : Nat} {qs : List Zq} {q : Zq} (h : OwnZ w base (some ⟨g, 0, none⟩) n c qs) (hk : qs[k]? = some q) (q' : Zq) (j : Nat) (v : Value) (hj : j < 3) (hv : q'.vals = q.vals.set j v)
    (h1 : q'.words = q.words) (h2 : q'.addr = q.addr) (h3 : q'.cap = q.cap) :
    OwnZ (w.setCell ⟨g, k * 3 + j, none⟩ v) base (some ⟨g, 0, none⟩) n c (qs.set k q') ∧ w.grownBy (w.setCell ⟨g, k * 3 + j, none⟩ v) (some g) := by
  refine h.put hk (World.grownBy.refl w none) (by simp) q' j v hj hv ?_ ?_
  · rw [h1, h2, h3]; exact h.own k q hk
  · intro i r hi hik b hb
    have e : q'.sl = q.sl := by unfold Zq.sl; rw [h1, h2, h3]
    rw [e]
    exact h.sep i k r q hi hk hik b hb
theorem OwnZ.free {w : World} {base g n c j : Nat} {qs : List Zq} (h : OwnZ w base (some ⟨g, 0, none⟩) n c qs) : w.frozen? ⟨g, j, none⟩ = false := h.row.frozenAt j

/-! ### append of a zone -/
theorem run_append_vals {T t : TypeId} {s bytes : Nat} {z : Value} (hT : RT T t s bytes z) (w : World) (base n c m d : Nat) (A : Option Addr) (ad : Addr) (vs us : List Value) (ty : TypeId) (hown : w.ownsRow base t s (.slice A n c) n vs)
    (hu : us.length = m * s) (hone : ∀ u ∈ us, u.oneCell' = true) (hr : ∀ j u, us[j]? = some u → w.cell? (ad.add j) = some u) (hnm : n + m ≤ 1000000000000) (hbase : base ≤ w.heap.size) :
    ∃ A2 c2 w', (Builtin.append_ #[T, T] ty #[.slice A n c, .slice (some ad) m d]).run Try.prog w = .ok (.slice A2 (n + m) c2) w' ∧ w'.ownsRow base t s (.slice A2 (n + m) c2) (n + m) (vs ++ us) ∧
      w.grownBy w' (Value.slice A n c).ownBlock ∧ ((Value.slice A2 (n + m) c2).ownBlock = (Value.slice A n c).ownBlock ∨ (Value.slice A2 (n + m) c2).ownBlock = some w.heap.size) := by
  obtain ⟨i0, hi, hz0, hz1, hz2⟩ := info_parts hT.info
  obtain ⟨v', w', hrun, h2, h3, _, h5⟩ := run_append_own_at (P := Try.prog) w base T ty t i0 z s bytes hT.und hi hz0 hz1 hz2 hT.zs hT.pos
    (.slice A n c) n vs hown ad m d us hu hr hone
    (by unfold maxLen; omega) (Nat.le_trans (Nat.mul_le_mul hnm hT.small) (by decide)) hbase
  obtain ⟨A2, c2, rfl⟩ := slice_of_own h2
  exact ⟨A2, c2, w', hrun, h2, h3, h5⟩

theorem zoneT : RT 23 40 3 40 (.agg #[.slice none 0 0, .int .i64 0, .bool false]) := ⟨Try.underlying23, by kernel_rfl, by decide, by decide, by decide⟩

/-- 'append(out, z)': z one zone that lies in a block of its own -/
theorem run_append_zone (w : World) (base n c d : Nat) (A : Option Addr) (ad : Addr) (qs : List Zq) (q : Zq) (ty : TypeId) (hown : OwnZ w base A n c qs)
    (hr : ∀ j u, q.vals[j]? = some u → w.cell? (ad.add j) = some u) (hq : Own w base q.addr q.words.length q.cap q.words) (hsep : ∀ (k : Nat) (r : Zq), qs[k]? = some r → ∀ g, r.sl.ownBlock = some g → q.sl.ownBlock ≠ some g)
    (hn : n ≤ 100000000000) (hbase : base ≤ w.heap.size) :
    ∃ A2 c2 w', (Builtin.append_ #[23, 23] ty #[.slice A n c, .slice (some ad) 1 d]).run Try.prog w = .ok (.slice A2 (n + 1) c2) w' ∧ OwnZ w' base A2 (n + 1) c2 (qs ++ [q]) ∧
      w.grownBy w' (Value.slice A n c).ownBlock ∧ ((Value.slice A2 (n + 1) c2).ownBlock = (Value.slice A n c).ownBlock ∨ (Value.slice A2 (n + 1) c2).ownBlock = some w.heap.size) := by
  obtain ⟨A2, c2, w', hrun, h2, h3, h4⟩ := run_append_vals zoneT w base n c 1 d A ad (flat qs) (flat [q]) ty hown.row rfl (flat_one _) hr (by omega) hbase
  rw [← flat_append] at h2
  have get : ∀ {k r}, (qs ++ [q])[k]? = some r → qs[k]? = some r ∨ (k = n ∧ r = q) := by
    intro k r hk
    rcases Nat.lt_or_ge k qs.length with h | h
    · exact .inl (by rwa [List.getElem?_append_left h] at hk)
    · rw [List.getElem?_append_right h] at hk
      rcases e : k - qs.length with _ | i
      · rw [e] at hk
        simp at hk
        exact .inr ⟨by have := hown.len; omega, hk.symm⟩
      · rw [e] at hk
        simp at hk
  refine ⟨A2, c2, w', hrun, ⟨by simp [hown.len], h2, fun k r hk => ?_, fun i j r r' hi hj hij g hg => ?_⟩, h3, h4⟩
  · rcases get hk with hk | ⟨_, rfl⟩
    · exact (hown.own k r hk).kept h3 (fun g hg => hown.far hk hg)
    · exact hq.kept h3 (fun g hg => rows_ne hown.row hq.2 (by decide) hg)
  · rcases get hi with hi' | ⟨ei, er⟩
    · rcases get hj with hj' | ⟨ej, er'⟩
      · exact hown.sep i j r r' hi' hj' hij g hg
      · rw [er']
        exact hsep i r hi' g hg
    · rcases get hj with hj' | ⟨ej, er'⟩
      · intro h
        rw [er] at hg
        exact hsep j r' hj' g h hg
      · exact absurd (ei.trans ej.symm) hij

theorem wp_append_zone {w : World} {o : Oper} {a : Act} {K : Act → World → Prop} {Q : Exit → Act → World → Prop} (s x : Operand)
    (ho : o.op = .call { callee := .builtin .append, args := #[s, x], argTypes := #[23, 23] })
    (base n c d : Nat) (A : Option Addr) (ad : Addr) (qs : List Zq) (q : Zq) (hs : a.eval s = .slice A n c) (hx : a.eval x = .slice (some ad) 1 d) (hown : OwnZ w base A n c qs)
    (hr : ∀ j u, q.vals[j]? = some u → w.cell? (ad.add j) = some u) (hq : Own w base q.addr q.words.length q.cap q.words) (hsep : ∀ (k : Nat) (r : Zq), qs[k]? = some r → ∀ g, r.sl.ownBlock = some g → q.sl.ownBlock ≠ some g)
    (hn : n ≤ 100000000000) (hbase : base ≤ w.heap.size)
    (h : ∀ A2 c2 w', OwnZ w' base A2 (n + 1) c2 (qs ++ [q]) → w.grownBy w' (Value.slice A n c).ownBlock →
      ((Value.slice A2 (n + 1) c2).ownBlock = (Value.slice A n c).ownBlock ∨ (Value.slice A2 (n + 1) c2).ownBlock = some w.heap.size) → K (a.put o.dst (.slice A2 (n + 1) c2)) w') : o.wp Try.prog a w K Q := by
  obtain ⟨A2, c2, w', hrun, h2, h3, h4⟩ := run_append_zone w base n c d A ad qs q o.type hown hr hq hsep hn hbase
  unfold Oper.wp execOp
  simp only [ho, resolve, invoke, builtin, Sem.run_bind, Sem.run_pure, Result.andThen_ok, List.map_toArray, List.map_cons, List.map_nil, hs, hx, hrun]
  exact h A2 c2 w' h2 h3 h4

theorem wpList_append_zone {w : World} {ops : Array Oper} {rest : List Oper} {o : Oper} {a : Act} {Q : Exit → Act → World → Prop} (hgd : o.guard = none) (s x : Operand)
    (ho : o.op = .call { callee := .builtin .append, args := #[s, x], argTypes := #[23, 23] })
    (base n c d : Nat) (A : Option Addr) (ad : Addr) (qs : List Zq) (q : Zq) (hs : a.eval s = .slice A n c) (hx : a.eval x = .slice (some ad) 1 d) (hown : OwnZ w base A n c qs)
    (hr : ∀ j u, q.vals[j]? = some u → w.cell? (ad.add j) = some u) (hq : Own w base q.addr q.words.length q.cap q.words) (hsep : ∀ (k : Nat) (r : Zq), qs[k]? = some r → ∀ g, r.sl.ownBlock = some g → q.sl.ownBlock ≠ some g)
    (hn : n ≤ 100000000000) (hbase : base ≤ w.heap.size)
    (h : ∀ A2 c2 w', OwnZ w' base A2 (n + 1) c2 (qs ++ [q]) → w.grownBy w' (Value.slice A n c).ownBlock →
      ((Value.slice A2 (n + 1) c2).ownBlock = (Value.slice A n c).ownBlock ∨ (Value.slice A2 (n + 1) c2).ownBlock = some w.heap.size) → wpList Try.prog ops Q rest (a.put o.dst (.slice A2 (n + 1) c2)) w') :
    wpList Try.prog ops Q (o :: rest) a w :=
  wpList_plain hgd fun _ hK => wp_append_zone s x ho base n c d A ad qs q hs hx hown hr hq hsep hn hbase fun A2 c2 w' h2 h3 h4 => hK _ _ (h A2 c2 w' h2 h3 h4)

theorem step_append_zone {w : World} {ops : Array Oper} {o : Oper} {a : Act} {K : Act → World → Prop} {Q : Exit → Act → World → Prop} {E : Prop} (hgd : o.guard = none) (s x : Operand)
    (ho : o.op = .call { callee := .builtin .append, args := #[s, x], argTypes := #[23, 23] })
    (base n c d : Nat) (A : Option Addr) (ad : Addr) (qs : List Zq) (q : Zq) (hs : a.eval s = .slice A n c) (hx : a.eval x = .slice (some ad) 1 d) (hown : OwnZ w base A n c qs)
    (hr : ∀ j u, q.vals[j]? = some u → w.cell? (ad.add j) = some u) (hq : Own w base q.addr q.words.length q.cap q.words) (hsep : ∀ (k : Nat) (r : Zq), qs[k]? = some r → ∀ g, r.sl.ownBlock = some g → q.sl.ownBlock ≠ some g)
    (hn : n ≤ 100000000000) (hbase : base ≤ w.heap.size)
    (h : ∀ A2 c2 w', OwnZ w' base A2 (n + 1) c2 (qs ++ [q]) → w.grownBy w' (Value.slice A n c).ownBlock →
      ((Value.slice A2 (n + 1) c2).ownBlock = (Value.slice A n c).ownBlock ∨ (Value.slice A2 (n + 1) c2).ownBlock = some w.heap.size) → K (a.put o.dst (.slice A2 (n + 1) c2)) w') :
    if Region.wanted o (yielded ops a.tmps) = true then Oper.wp Try.prog o a w K Q else E := by
  have hw : Region.wanted o (yielded ops a.tmps) = true := by simp [Region.wanted, hgd]
  rw [if_pos hw]
  exact wp_append_zone s x ho base n c d A ad qs q hs hx hown hr hq hsep hn hbase h

/-- a new zone's cells -/
theorem zone_cells (w : World) (q : Zq) : ∀ j u, q.vals[j]? = some u → (w.alloc (.cells #[q.sl, .int .i64 q.synced, .bool q.full] 40)).cell? (Addr.add ⟨w.heap.size, 0, none⟩ j) = some u := by
  intro j u hu
  rw [add_plain', (Blk.new w 40 #[q.sl, .int .i64 q.synced, .bool q.full]).cell j]
  rcases j with _ | _ | _ | j
  · exact hu
  · exact hu
  · exact hu
  · simp [Zq.vals] at hu
end Go.Proofs.Ytcocboigjfjnfac

/- Ints -/
namespace Go.Proofs.Ytcocboigjfjnfac
open Go.RowKit
set_option linter.unusedVariables false
set_option maxRecDepth 100000

theorem replicate_set_succ (n k : Nat) (xs : List Int) (h : k < xs.length) (hn : xs.length = n) :
    (xs.take k ++ List.replicate (n - k) 0).set k (xs.getD k 0) = xs.take (k + 1) ++ List.replicate (n - (k + 1)) 0 := by
  have hl : (xs.take k).length = k := by rw [List.length_take]; omega
  rw [List.set_append_right _ _ (by omega), hl, Nat.sub_self]
  have : n - k = (n - (k + 1)) + 1 := by omega
  have e : xs.getD k 0 = xs[k] := by simp [List.getD, h]
  rw [this, List.replicate_succ, List.set_cons_zero, List.take_succ_eq_append_getElem h, e, List.append_assoc]
  rfl

set_option maxHeartbeats 800000 in
theorem toInts_any (A : Option Addr) (n c B : Nat) (xs : List Int) (w : World) (hr : Ints w B A n xs) (hB : B ≤ w.heap.size) (hn : n ≤ 17592186044416) :
    Calls Try.prog 61 #[.slice A n c] w fun e w' => ∃ A2 c2, e = .returned (.slice A2 n c2) ∧ Own w' w.heap.size A2 n c2 xs ∧ Below w.heap.size w w' := by
  obtain ⟨i0, hi, hz0, hz1, hz2⟩ := info_parts info_int
  have HR := hide hr
  clear hr
  go_enter Try.func61, Try.ntmps61
  go_wp2_with (at_make; refine wpList_make_full _ rfl _ _ 31 rfl w.heap.size 3 i0 (.int .i64 0) 1 Try.underlying31 hi hz0 hz1 .i64 .i64 _ _ n rfl rfl rfl rfl (by rw [hz2]; omega) (by unfold maxLen; omega) (Nat.le_refl _) ?_; intro w1 hown hgrow)
  have ho : Own w1 w.heap.size (some ⟨w.heap.size, 0, none⟩) n n (List.replicate n 0) := by
    refine ⟨by simp, ?_⟩
    have e : (madeCells (Value.int .i64 0).cells (n * 1)).toList = (List.replicate n (0 : Int)).map (Value.int .i64) := by
      rw [Nat.mul_one]
      show (madeCells #[Value.int .i64 0] n).toList = _
      rw [toList_madeCells_one, List.map_replicate]
    rw [← e]
    exact hown
  have hB1 : Below w.heap.size w w1 := below_of_grown hgrow
  clear hown hgrow hi hz0 hz1 hz2
  go_loopw [4] (fun i wr => ∃ k : Nat, k ≤ n ∧ i = .int .i64 k ∧ Own wr w.heap.size (some ⟨w.heap.size, 0, none⟩) n n (xs.take k ++ List.replicate (n - k) 0) ∧ Below w.heap.size w wr)
    (fun i _ => n - (intOf i).toNat)
  case atStart => exact ⟨0, Nat.zero_le _, rfl, by simpa using ho, hB1⟩
  case round =>
    clear ho hB1
    obtain ⟨k, hk, rfl, hown, hbel⟩ := hrel
    have HL := hide HR.out.1
    by_cases hlt : k < n
    · have hI := HR.out.below hbel hB
      obtain ⟨ad, rfl, hb, hc⟩ := hI.at_ hlt
      have hfree := hown.free (g := w.heap.size) (j := k)
      have hcell := hown.cell (g := w.heap.size) (j := k) hlt
      have hst := hown.stored (g := w.heap.size) (j := k) (xs.getD k 0)
      have hset := replicate_set_succ n k xs (by rw [HL.out]; exact hlt) HL.out
      rw [hset] at hst
      have HS := hide hst
      have HB := hide (hbel.grown hst.2 hbel.size (by intro g hg; injection hg with hg; omega))
      clear hst hset hown hbel hI HR
      generalize xs.getD k 0 = x at hc HS HB
      generalize (List.take k xs ++ List.replicate (n - k) 0).getD k 0 = y at hcell
      go_wp2
      go_roundw
      case rel => exact ⟨k + 1, by omega, by go_num, HS.out.1, HB.out⟩
      case measure => simp [intOf]; omega
    · obtain rfl : k = n := by omega
      go_wp2
      go_ret
      refine ⟨_, _, rfl, ?_, hbel⟩
      rw [List.take_of_length_le (by rw [HL.out]; exact Nat.le_refl _)] at hown
      simpa using hown

theorem take_eq_succ (xs ys : List Int) (k : Nat) (hx : k < xs.length) (hy : k < ys.length) (h : xs.take k = ys.take k) :
    (xs.getD k 0 = ys.getD k 0 → xs.take (k + 1) = ys.take (k + 1)) ∧ (xs.getD k 0 ≠ ys.getD k 0 → xs ≠ ys) := by
  refine ⟨fun e => ?_, fun e h => e (by rw [h])⟩
  rw [List.take_succ_eq_append_getElem hx, List.take_succ_eq_append_getElem hy, h]
  have : xs[k] = ys[k] := by simpa [List.getD, hx, hy] using e
  rw [this]

set_option maxHeartbeats 800000 in
theorem eqIntS_any (A A' : Option Addr) (n c m d B B' : Nat) (xs ys : List Int) (w : World) (hx : Ints w B A n xs) (hy : Ints w B' A' m ys) (hn : n ≤ maxLen) (hm : m ≤ maxLen) :
    Calls Try.prog 63 #[.slice A n c, .slice A' m d] w fun e w' => e = .returned (.bool (decide (xs = ys))) ∧ ∃ q, w' = w.drewN q := by
  unfold maxLen at hn hm
  have HX := hide hx
  have HY := hide hy
  clear hx hy
  by_cases hnm : n = m
  · subst hnm
    go_enter Try.func63, Try.ntmps63
    go_wp2
    go_loopw [5] (fun i wr => ∃ k q : Nat, k ≤ n ∧ i = .int .i64 k ∧ wr = w.drewN q ∧ Hid (xs.take k = ys.take k)) (fun i _ => n - (intOf i).toNat)
    case atStart => exact ⟨0, 0, Nat.zero_le _, rfl, rfl, rfl⟩
    case round =>
      obtain ⟨k, q, hk, rfl, rfl, HT⟩ := hrel
      by_cases hlt : k < n
      · obtain ⟨ad, rfl, hb, hc⟩ := HX.out.at_ hlt
        obtain ⟨ad', rfl, hb', hc'⟩ := HY.out.at_ hlt
        have HE := hide (take_eq_succ xs ys k (by rw [HX.out.1]; exact hlt) (by rw [HY.out.1]; exact hlt) HT.out)
        have k0 : (0 : Int) ≤ (k : Int) := by omega
        have k1 : (k : Int) < (n : Int) := by omega
        generalize xs.getD k 0 = x at hc HE
        generalize ys.getD k 0 = y at hc' HE
        by_cases hxy : x = y
        · subst hxy
          go_wp2_with fail
          go_quiet (fail)
          go_wp2
          go_roundw
          case rel => exact ⟨k + 1, _, by omega, by go_num, rfl, HE.out.1 (by trivial)⟩
          case measure => simp [intOf]; omega
        · have hxy' : (x != y) = true := by simpa using hxy
          go_wp2_with fail
          go_quiet (fail)
          go_wp2
          go_ret
          exact ⟨ret_bool (by simpa using HE.out.2 hxy), _, World.drewN_drewN _ _ _⟩
      · obtain rfl : k = n := by omega
        go_wp2
        go_ret
        refine ⟨ret_bool ?_, q, rfl⟩
        have h := HT.out
        rw [List.take_of_length_le (by rw [HX.out.1]; exact Nat.le_refl _), List.take_of_length_le (by rw [HY.out.1]; exact Nat.le_refl _)] at h
        simpa using h
  · have h' : ((n : Int) != (m : Int)) = true := by simp; omega
    have hne : xs ≠ ys := fun e => hnm (by rw [← HX.out.1, ← HY.out.1, e])
    have HN := hide hne
    clear hne
    go_enter Try.func63, Try.ntmps63
    go_wp2
    go_ret
    exact ⟨ret_bool (by simpa using HN.out), 0, rfl⟩
theorem eqIntS_yes (A A' : Option Addr) (n c m d B B' : Nat) (xs ys : List Int) (w : World) (hx : Ints w B A n xs) (hy : Ints w B' A' m ys) (hn : n ≤ maxLen) (hm : m ≤ maxLen) (h : xs = ys) :
    Calls Try.prog 63 #[.slice A n c, .slice A' m d] w fun e w' => e = .returned (.bool true) ∧ ∃ q, w' = w.drewN q :=
  (eqIntS_any A A' n c m d B B' xs ys w hx hy hn hm).mono fun e w' ⟨he, hw⟩ => ⟨by rw [he, decide_eq_true h], hw⟩
theorem eqIntS_no (A A' : Option Addr) (n c m d B B' : Nat) (xs ys : List Int) (w : World) (hx : Ints w B A n xs) (hy : Ints w B' A' m ys) (hn : n ≤ maxLen) (hm : m ≤ maxLen) (h : xs ≠ ys) :
    Calls Try.prog 63 #[.slice A n c, .slice A' m d] w fun e w' => e = .returned (.bool false) ∧ ∃ q, w' = w.drewN q :=
  (eqIntS_any A A' n c m d B B' xs ys w hx hy hn hm).mono fun e w' ⟨he, hw⟩ => ⟨by rw [he, decide_eq_false h], hw⟩

set_option maxHeartbeats 800000 in
theorem sameInts_any (A A' : Option Addr) (n c m d B B' : Nat) (xs ys : List Int) (w : World) (hx : Ints w B A n xs) (hy : Ints w B' A' m ys) (hn : n ≤ maxLen) (hm : m ≤ maxLen) :
    Calls Try.prog 35 #[.slice A n c, .slice A' m d] w fun e w' => e = .returned (.bool (decide (xs = ys))) ∧ ∃ q, w' = w.drewN q := by
  unfold maxLen at hn hm
  have HX := hide hx
  have HY := hide hy
  clear hx hy
  by_cases hnm : n = m
  · subst hnm
    go_enter Try.func35, Try.ntmps35
    go_wp2
    go_loopw [5] (fun i wr => ∃ k q : Nat, k ≤ n ∧ i = .int .i64 k ∧ wr = w.drewN q ∧ Hid (xs.take k = ys.take k)) (fun i _ => n - (intOf i).toNat)
    case atStart => exact ⟨0, 0, Nat.zero_le _, rfl, rfl, rfl⟩
    case round =>
      obtain ⟨k, q, hk, rfl, rfl, HT⟩ := hrel
      by_cases hlt : k < n
      · obtain ⟨ad, rfl, hb, hc⟩ := HX.out.at_ hlt
        obtain ⟨ad', rfl, hb', hc'⟩ := HY.out.at_ hlt
        have HE := hide (take_eq_succ xs ys k (by rw [HX.out.1]; exact hlt) (by rw [HY.out.1]; exact hlt) HT.out)
        have k0 : (0 : Int) ≤ (k : Int) := by omega
        have k1 : (k : Int) < (n : Int) := by omega
        generalize xs.getD k 0 = x at hc HE
        generalize ys.getD k 0 = y at hc' HE
        by_cases hxy : x = y
        · subst hxy
          go_wp2_with fail
          go_quiet (fail)
          go_wp2
          go_roundw
          case rel => exact ⟨k + 1, _, by omega, by go_num, rfl, HE.out.1 (by trivial)⟩
          case measure => simp [intOf]; omega
        · have hxy' : (x != y) = true := by simpa using hxy
          go_wp2_with fail
          go_quiet (fail)
          go_wp2
          go_ret
          exact ⟨ret_bool (by simpa using HE.out.2 hxy), _, World.drewN_drewN _ _ _⟩
      · obtain rfl : k = n := by omega
        go_wp2
        go_ret
        refine ⟨ret_bool ?_, q, rfl⟩
        have h := HT.out
        rw [List.take_of_length_le (by rw [HX.out.1]; exact Nat.le_refl _), List.take_of_length_le (by rw [HY.out.1]; exact Nat.le_refl _)] at h
        simpa using h
  · have h' : ((n : Int) != (m : Int)) = true := by simp; omega
    have hne : xs ≠ ys := fun e => hnm (by rw [← HX.out.1, ← HY.out.1, e])
    have HN := hide hne
    clear hne
    go_enter Try.func35, Try.ntmps35
    go_wp2
    go_ret
    exact ⟨ret_bool (by simpa using HN.out), 0, rfl⟩
theorem sameInts_yes (A A' : Option Addr) (n c m d B B' : Nat) (xs ys : List Int) (w : World) (hx : Ints w B A n xs) (hy : Ints w B' A' m ys) (hn : n ≤ maxLen) (hm : m ≤ maxLen) (h : xs = ys) :
    Calls Try.prog 35 #[.slice A n c, .slice A' m d] w fun e w' => e = .returned (.bool true) ∧ ∃ q, w' = w.drewN q :=
  (sameInts_any A A' n c m d B B' xs ys w hx hy hn hm).mono fun e w' ⟨he, hw⟩ => ⟨by rw [he, decide_eq_true h], hw⟩
theorem sameInts_no (A A' : Option Addr) (n c m d B B' : Nat) (xs ys : List Int) (w : World) (hx : Ints w B A n xs) (hy : Ints w B' A' m ys) (hn : n ≤ maxLen) (hm : m ≤ maxLen) (h : xs ≠ ys) :
    Calls Try.prog 35 #[.slice A n c, .slice A' m d] w fun e w' => e = .returned (.bool false) ∧ ∃ q, w' = w.drewN q :=
  (sameInts_any A A' n c m d B B' xs ys w hx hy hn hm).mono fun e w' ⟨he, hw⟩ => ⟨by rw [he, decide_eq_false h], hw⟩

end Go.Proofs.Ytcocboigjfjnfac

/- FrameW -/
namespace Go.Proofs.Ytcocboigjfjnfac
open Go.RowKit
set_option linter.unusedVariables false
set_option maxRecDepth 100000

/-- a quiet call in a region whose world has drawn before -/
theorem calls_again {P : Program} {f : FuncId} {args : Array Value} {W : World} {i j : Nat} {r : Value} (c : Calls P f args (W.drewN (i + j)) fun e U => e = .returned r ∧ ∃ z, U = (W.drewN (i + j)).drewN z) :
    Calls P f args (W.drewN (i + j)) fun e U => e = .returned r ∧ ∃ z, U = W.drewN (i + z) := by
  refine c.mono ?_
  rintro e U ⟨he, z, hz⟩
  exact ⟨he, j + z, by rw [hz, World.drewN_drewN, Nat.add_assoc]⟩
theorem calls_again0 {P : Program} {f : FuncId} {args : Array Value} {W : World} {i j : Nat} {r : Value} (c : Calls P f args (W.drewN (i + j)) fun e U => e = .returned r ∧ U = W.drewN (i + j)) :
    Calls P f args (W.drewN (i + j)) fun e U => e = .returned r ∧ ∃ z, U = W.drewN (i + z) := by
  refine c.mono ?_
  rintro e U ⟨he, hz⟩
  exact ⟨he, j, hz⟩

/-- two new numbers read -/
theorem Ints.two (w : World) (a b : Int) : Ints (w.alloc (.cells #[.int .i64 a, .int .i64 b] 3)) (w.heap.size + 1) (some ⟨w.heap.size, 0, none⟩) 2 [a, b] := by
  refine ⟨rfl, fun _ => ⟨_, rfl, by simp, fun j hj => ?_⟩⟩
  rw [add_plain']
  have h := (Blk.new w 3 #[.int .i64 a, .int .i64 b]).cell j
  rw [h]
  rcases j with _ | _ | j
  · rfl
  · rfl
  · omega

theorem putF_bad {k s : Int} {xs : List Int} (h : validF k s xs = false) : putF k s xs = [] := by rw [putF, if_neg (by rw [h]; simp)]
theorem putF_good {k s : Int} {xs : List Int} (h : validF k s xs = true) : putF k s xs = headF k s xs ++ [sumFrom 7 (headF k s xs)] := by rw [putF, if_pos h]
theorem putF_length {k s : Int} {xs : List Int} (h : validF k s xs = true) : (putF k s xs).length = 3 + xs.length + 1 := by rw [putF_good h]; simp [headF]; omega

set_option maxHeartbeats 1600000 in
theorem sameFrame_yes (k s : Int) (A A' : Option Addr) (n c c' B B' : Nat) (xs : List Int) (w : World) (h1 : Ints w B A n xs) (hB : B ≤ w.heap.size) (h2 : Ints w B' A' n xs) (hB' : B' ≤ w.heap.size) (hn : n ≤ maxLen) :
    Calls Try.prog 13 #[.agg #[.int .i64 k, .int .i64 s, .slice A n c], .agg #[.int .i64 k, .int .i64 s, .slice A' n c']] w fun e w' => e = .returned (.bool true) ∧ Below w.heap.size w w' := by
  have HI1 := hide fun (o o' : Obj) => (h1.alloc hB o).alloc (by simp; omega) o'
  have HI2 := hide fun (o o' : Obj) => (h2.alloc hB' o).alloc (by simp; omega) o'
  clear h1 h2
  go_enter Try.func13, Try.ntmps13
  go_wp2_with (go_at_call 35; refine (sameInts_yes A A' n c n c' B B' xs xs _ (HI1.out _ _) (HI2.out _ _) hn hn rfl).mono ?_; rintro e w1 ⟨rfl, q, rfl⟩)
  go_ret
  exact ⟨rfl, below_drewN ((below_box w _).alloc (by simp) _) q⟩

end Go.Proofs.Ytcocboigjfjnfac

/- DrawA -/
namespace Go.Proofs.Ytcocboigjfjnfac
open Go.RowKit
set_option linter.unusedVariables false
set_option maxRecDepth 100000

theorem grown_cell {w w' : World} {R : Nat} {p : Addr} (h : w.grownBy w' (some R)) (hp : p.block < w.heap.size) (hne : p.block ≠ R) : w'.cell? p = w.cell? p :=
  World.cell?_of_block (h.block p.block hp (by intro e; exact hne (by injection e)))

def four (v : Int) : Int := ([-1, 0, 9999, 10000] : List Int).getD v.toNat 0
theorem four_rng (v : Int) : -1 ≤ four v ∧ four v ≤ 10000 := by
  unfold four
  rcases h : v.toNat with _ | _ | _ | _ | n <;> simp

set_option maxHeartbeats 800000 in
theorem word_any (R : Nat) (p : Int) (w : World) (hr : Rd w R p) (hp : p < 29990) :
    Calls Try.prog 49 #[.pointer (some ⟨R, 0, none⟩)] w fun e w' => ∃ x p', e = .returned (.int .i64 x) ∧ -1 ≤ x ∧ x ≤ 10000 ∧ p ≤ p' ∧ p' ≤ p + 2 ∧ Rd w' R p' ∧ w.grownBy w' (some R) := by
  have hRw : R < w.heap.size := by obtain ⟨_, _, A, m, c, bs, _, _, hb, _⟩ := hr; exact hb.lt
  go_enter Try.func49, Try.ntmps49
  go_wp2_with fail
  refine (pick_any R p 16 _ hr (by omega) (by omega)).mono ?_
  rintro e w1 ⟨v, rfl, hv0, hv1, hr1, hg1⟩
  have hs1 := hg1.size
  by_cases h0 : v = 0
  · subst h0
    go_wp2_with fail
    have hr1' : Rd (w1.alloc (.cells #[.int .i64 (-1), .int .i64 0, .int .i64 9999, .int .i64 10000] 3)) R (p + 1) := by
      obtain ⟨a, b, A, m, c, bs, d, e, hb, hbs⟩ := hr1
      exact ⟨a, b, A, m, c, bs, d, e, hb.alloc _, hbs.keep fun q hq => World.cell?_alloc_lt w1 _ q (by omega)⟩
    refine (pick_any R (p + 1) 4 _ hr1' (by omega) (by omega)).mono ?_
    rintro e w2 ⟨u, rfl, hu0, hu1, hr2, hg2⟩
    have hc : w2.cell? ⟨w1.heap.size, u.toNat, none⟩ = some (.int .i64 (four u)) := by
      rw [grown_cell hg2 (by simp) (by simp; omega), (Blk.new w1 3 _).cell]
      have : u = 0 ∨ u = 1 ∨ u = 2 ∨ u = 3 := by omega
      rcases this with rfl | rfl | rfl | rfl <;> rfl
    have hf := four_rng u
    have HG := hide hg2
    clear hg2
    go_wp2
    go_ret
    exact ⟨_, _, rfl, hf.1, hf.2, by omega, by omega, hr2, grown_trans' (grown_alloc hg1 _) HG.out⟩
  · by_cases h1 : v = 1
    · subst h1
      go_wp2_with fail
      refine (pick_any R (p + 1) 100 _ hr1 (by omega) (by omega)).mono ?_
      rintro e w2 ⟨u, rfl, hu0, hu1, hr2, hg2⟩
      go_wp2
      go_ret
      exact ⟨_, _, rfl, by omega, by omega, by omega, by omega, hr2, grown_trans' hg1 hg2⟩
    · have h0' : (v == 0) = false := by simpa using h0
      have h1' : (v == 1) = false := by simpa using h1
      go_wp2_with fail
      refine (pick_any R (p + 1) 20 _ hr1 (by omega) (by omega)).mono ?_
      rintro e w2 ⟨u, rfl, hu0, hu1, hr2, hg2⟩
      go_wp2
      go_ret
      exact ⟨_, _, rfl, by omega, by omega, by omega, by omega, hr2, grown_trans' hg1 hg2⟩

theorem Rd.lt {w : World} {R : Nat} {p : Int} (h : Rd w R p) : R < w.heap.size := by obtain ⟨_, _, A, m, c, bs, _, _, hb, _⟩ := h; exact hb.lt
theorem Rd.grown {w w' : World} {R : Nat} {p : Int} {row : Option Nat} (h : Rd w R p) (hg : w.grownBy w' row) (hr : ∀ g, row = some g → R < g) : Rd w' R p := by
  have hl := h.lt
  obtain ⟨a, b, A, m, c, bs, d, e, hb, hbs⟩ := h
  exact ⟨a, b, A, m, c, bs, d, e, hb.grown hg (fun e => by have := hr R e.symm; omega), hbs.keep fun q hq => World.cell?_of_block (hg.block q.block (by omega) (fun e => by have := hr _ e.symm; omega))⟩
theorem Rd.alloc {w : World} {R : Nat} {p : Int} (h : Rd w R p) (o : Obj) : Rd (w.alloc o) R p := h.grown (World.grownBy_alloc w o none) (by simp)
theorem Rd.drewN {w : World} {R : Nat} {p : Int} (h : Rd w R p) (n : Nat) : Rd (w.drewN n) R p := h
theorem Rd.below {w w' : World} {R : Nat} {p : Int} (h : Rd w R p) (hg : Below w.heap.size w w') : Rd w' R p := h.grown (grown_of_below hg none) (by simp)

theorem Blk.ne_ {w : World} {g g' : Nat} {t t' : TypeId} {cs cs' : Array Value} (h : Blk w g t cs) (h' : Blk w g' t' cs') (hne : t ≠ t') : g ≠ g' := by
  rintro rfl
  unfold Blk at h h'
  rw [h] at h'
  injection h' with h'
  injection h' with _ ht
  exact hne ht
theorem own_blk_ne {w : World} {g base n c : Nat} {t : TypeId} {cs : Array Value} {A : Option Addr} {xs : List Int} (h : Own w base A n c xs) (hg : Blk w g t cs) (hne : 3 ≠ t) : (Value.slice A n c).ownBlock ≠ some g := by
  rcases h.2.2 with ⟨hv, _⟩ | ⟨g', cap, cur, hv, _, hh, _⟩
  · rw [hv]; simp [Value.ownBlock]
  · rw [hv]
    intro he
    have : g' = g := by simpa [Value.ownBlock] using he
    subst this
    exact Blk.ne_ (t := 3) hh hg hne rfl
theorem Own.firsts {w : World} {base n c m : Nat} {A : Option Addr} {xs : List Int} (h : Own w base A n c xs) (hm : m ≤ n) : Own w base A m c (xs.take m) := by
  refine ⟨by rw [List.length_take, h.1]; omega, by simp [h.1]; omega, ?_⟩
  rcases h.2.2 with ⟨hv, h0⟩ | ⟨g, cap, cur, hv, hb, hh, hc, hmx, hs, ht⟩
  · injection hv with e1 e2 e3
    subst e1 e2 e3
    exact .inl ⟨by rw [show m = 0 by omega], by omega⟩
  · injection hv with e1 e2 e3
    subst e1 e3
    refine .inr ⟨g, c, cur, rfl, hb, hh, by omega, hmx, hs, ?_⟩
    have : (cur.toList.take (n * 1)).take (m * 1) = (xs.map (Value.int .i64)).take (m * 1) := by rw [ht]
    rw [List.take_take] at this
    rw [show min (m * 1) (n * 1) = m * 1 by omega] at this
    rw [this, Nat.mul_one, List.map_take]

set_option maxHeartbeats 1000000 in
theorem words91_any (R : Nat) (p n : Int) (w : World) (hr : Rd w R p) (hn0 : 0 ≤ n) (hn : n ≤ 200) (hp : p < 29000) :
    Calls Try.prog 46 #[.pointer (some ⟨R, 0, none⟩), .int .i64 n] w fun e w' => ∃ A k c xs p', e = .returned (.slice A k c) ∧ Own w' w.heap.size A k c xs ∧ k ≤ n ∧ Rng (-1) 10000 xs ∧
      p ≤ p' ∧ p' ≤ p + n + 5 ∧ Rd w' R p' ∧ w.grownBy w' (some R) := by
  have hRw := hr.lt
  go_enter Try.func46, Try.ntmps46
  go_wp2_with fail
  refine (pick_any R p (n + 1) _ (hr.alloc _) (by omega) (by omega)).mono ?_
  rintro e w1 ⟨m, rfl, hm0, hm1, hr1, hg1⟩
  have hs1 : w.heap.size < w1.heap.size := by have := hg1.size; simp at this; omega
  have ho1 : Own w1 w.heap.size (some ⟨w.heap.size, 0, none⟩) 0 0 [] := (Own.lit0 w w.heap.size (Nat.le_refl _)).kept hg1 (by
    intro k hk; injection hk with hk; subst hk; simp [Value.ownBlock]; omega)
  have hG1 : w.grownBy w1 (some R) := grown_trans' (grown_alloc (grown_refl w _) _) hg1
  clear hg1
  obtain ⟨K, rfl⟩ := Int.eq_ofNat_of_zero_le hm0
  go_wp2_with fail
  go_loopw [5, 7] (fun v i wr => ∃ (k c : Nat) (A : Option Addr) (xs : List Int), k ≤ K ∧ i = .int .i64 k ∧ v = .slice A k c ∧ Own wr w.heap.size A k c xs ∧ Rng (-1) 10000 xs ∧ Rd wr R (p + 1 + k) ∧ w.grownBy wr (some R))
    (fun _ i _ => K - (intOf i).toNat)
  case atStart => exact ⟨0, 0, _, [], Nat.zero_le _, rfl, rfl, ho1, by simp [Rng], by simpa using hr1, hG1⟩
  case round =>
    clear ho1 hr1 hG1
    obtain ⟨k, c, Ao, xs, hk, rfl, rfl, hown, hrng, hrd, hG⟩ := hrel
    have HO := hide hown
    have HG := hide hG
    have HR := hide hrd
    have hsz := hG.size
    clear hown hG hrd
    by_cases hlt : k < K
    · go_wp2_with fail
      refine (pick_any R (p + 1 + k) 100 _ HR.out (by omega) (by omega)).mono ?_
      rintro e w2 ⟨u, rfl, hu0, hu1, hr2, hg2⟩
      have hs2 := hg2.size
      have ho2 := HO.out.kept hg2 (by intro g hg; injection hg with hg; subst hg; intro e; have := HO.out.block _ e; omega)
      have HO2 := hide ho2
      have HR2 := hide hr2
      have HG2 := hide (grown_trans' HG.out hg2)
      clear hr2 hg2 ho2
      go_wp2_with (at_builtin; refine wpList_append_ints rfl _ _ rfl w.heap.size k c _ 1 _ Ao _ xs [u] rfl (HO2.out.alloc _) rfl (Ints.one _ u) (by omega) (by simp; omega) ?_; intro A2 c2 w3 ho3 hg3 hat3)
      have hb := (HO2.out.block)
      have HO3 := hide ho3
      have hrow : ∀ g, (Value.slice Ao k c).ownBlock = some g → w.heap.size ≤ g := fun g hg => (hb g hg).1
      have HR3 := hide ((HR2.out.alloc (.cells #[.int .i64 u] 3)).grown hg3 (fun g hg => by have := hrow g hg; omega))
      have HG3 := hide (grown_own (grown_alloc HG2.out (.cells #[.int .i64 u] 3)) hg3 hrow)
      clear ho3 hg3 hat3 hb hrow
      go_roundw
      case rel => exact ⟨k + 1, c2, A2, xs ++ [u], by omega, by go_num, rfl, HO3.out, hrng.snoc (by omega) (by omega), by have := HR3.out; rw [show p + 1 + ((k + 1 : Nat) : Int) = p + 1 + k + 1 from by omega]; exact this, HG3.out⟩
      case measure => simp [intOf]; omega
    · obtain rfl : k = K := by omega
      by_cases hk0 : k = 0
      · subst hk0
        have h00 : decide ((0 : Int) < 0) = false := by decide
        go_wp2
        go_ret
        exact ⟨_, _, _, xs, p + 1, rfl, HO.out, by omega, hrng, by omega, by omega, by simpa using HR.out, HG.out⟩
      · have hkp : decide ((0 : Int) < (k : Int)) = true := by simp; omega
        have hkp' : 0 < k := by omega
        go_wp2_with fail
        refine (pick_any R (p + 1 + k) 12 _ HR.out (by omega) (by omega)).mono ?_
        rintro e w2 ⟨u, rfl, hu0, hu1, hr2, hg2⟩
        have hs2 := hg2.size
        have ho2 := HO.out.kept hg2 (by intro g hg; injection hg with hg; subst hg; intro e; have := HO.out.block _ e; omega)
        have HO2 := hide ho2
        have HR2 := hide hr2
        have HG2 := hide (grown_trans' HG.out hg2)
        clear hr2 hg2 ho2
        by_cases hu : u = 0
        · subst hu
          go_wp2_with fail
          refine (pick_any R (p + 1 + k + 1) k _ HR2.out (by omega) (by omega)).mono ?_
          rintro e w3 ⟨j, rfl, hj0, hj1, hr3, hg3⟩
          have hs3 := hg3.size
          have ho3 := HO2.out.kept hg3 (by intro g hg; injection hg with hg; subst hg; intro e; have := HO2.out.block _ e; omega)
          have HO3 := hide ho3
          have HR3 := hide hr3
          have HG3 := hide (grown_trans' HG2.out hg3)
          clear hr3 hg3 ho3
          go_wp2_with fail
          refine (word_any R (p + 1 + k + 1 + 1) _ HR3.out (by omega)).mono ?_
          rintro e w4 ⟨x, p4, rfl, hx0, hx1, hp4, hp4', hr4, hg4⟩
          have hs4 := hg4.size
          have ho4 := HO3.out.kept hg4 (by intro g hg; injection hg with hg; subst hg; intro e; have := HO3.out.block _ e; omega)
          obtain ⟨g, rfl, hgb, hgl⟩ := ho4.shape hkp'
          obtain ⟨J, rfl⟩ := Int.eq_ofNat_of_zero_le hj0
          have hcell := ho4.cell (g := g) (j := J) (by omega)
          have hfree := ho4.free (g := g) (j := J)
          have hst := ho4.stored (g := g) (j := J) x
          have HG4 := hide (grown_own (grown_trans' HG3.out hg4) hst.2 (by intro q hq; injection hq with hq; omega))
          have HR4 := hide (hr4.grown hst.2 (by intro q hq; injection hq with hq; omega))
          have HO4 := hide hst.1
          clear ho4 hg4 hr4 hst HO HO2 HO3 HG HG2 HG3 HR HR2 HR3
          go_wp2
          go_ret
          exact ⟨_, _, _, _, p4, rfl, HO4.out, by omega, hrng.set _ hx0 hx1, by omega, by omega, HR4.out, HG4.out⟩
        · have hu' : (u == 0) = false := by simpa using hu
          go_wp2
          go_ret
          exact ⟨_, _, _, xs, p + 1 + k + 1, rfl, HO2.out, by omega, hrng, by omega, by omega, HR2.out, HG2.out⟩
end Go.Proofs.Ytcocboigjfjnfac

/- PairM -/
namespace Go.Proofs.Ytcocboigjfjnfac
open Go.RowKit
set_option linter.unusedVariables false
set_option maxRecDepth 100000

theorem all_succ (k : Nat) (f : Nat → Bool) : (List.range (k + 1)).all f = ((List.range k).all f && f k) := by simp [List.range_succ]
theorem all_no {n k : Nat} {f : Nat → Bool} (hk : k < n) (h : f k = false) : (List.range n).all f = false := by
  rw [List.all_eq_false]
  exact ⟨k, by simpa using hk, by simp [h]⟩
theorem all_le {n k : Nat} {f : Nat → Bool} (hk : k ≤ n) (h : (List.range k).all f = false) : (List.range n).all f = false := by
  rw [List.all_eq_false] at h ⊢
  obtain ⟨j, hj, hf⟩ := h
  exact ⟨j, by simp at hj ⊢; omega, hf⟩
theorem all_at {n k : Nat} {f : Nat → Bool} (h : (List.range n).all f = true) (hk : k < n) : f k = true := List.all_eq_true.1 h k (by simpa using hk)
theorem all_of {n : Nat} {f : Nat → Bool} (h : ∀ k, k < n → f k = true) : (List.range n).all f = true := List.all_eq_true.2 fun k hk => h k (by simpa using hk)

/-- the block ahead of record j, or -1 -/
def prevR (s : Nat) (xs : List Int) : Nat → Int
  | 0 => -1
  | j + 1 => xs.getD (j * s) 0
/-- record j's block may follow -/
def stepR (s : Nat) (xs : List Int) (j : Nat) : Bool := decide (prevR s xs j < xs.getD (j * s) 0) && decide (xs.getD (j * s) 0 ≤ 11)
def fldP (xs : List Int) (j : Nat) : Bool := decide (0 ≤ xs.getD (j * 2 + 1) 0) && decide (xs.getD (j * 2 + 1) 0 ≤ 99)
def fldC (xs : List Int) (j : Nat) : Bool := (decide (1 ≤ xs.getD (j * 3 + 1) 0) && decide (xs.getD (j * 3 + 1) 0 ≤ 999)) && (decide (0 ≤ xs.getD (j * 3 + 2) 0) && decide (xs.getD (j * 3 + 2) 0 ≤ 5))
def vals (f : List Int → Nat → Bool) (xs : List Int) (k : Nat) : Bool := (List.range k).all (f xs)
def asc (s : Nat) (xs : List Int) (k : Nat) : Bool := (List.range k).all (stepR s xs)
/-- n records, s numbers each, are valid: as many as may be, all fields in range, the blocks ascending -/
def validR (s : Nat) (mx : Int) (f : List Int → Nat → Bool) (xs : List Int) (n : Nat) : Bool := inB n 1 mx && vals f xs n && asc s xs n
abbrev validP (xs : List Int) (n : Nat) : Bool := validR 2 9 fldP xs n
abbrev validC (xs : List Int) (n : Nat) : Bool := validR 3 6 fldC xs n

theorem validR_iff {s : Nat} {mx : Int} {f : List Int → Nat → Bool} {xs : List Int} {n : Nat} : validR s mx f xs n = true ↔ (1 ≤ (n : Int) ∧ (n : Int) ≤ mx) ∧ (∀ j, j < n → f xs j = true) ∧ (∀ j, j < n → stepR s xs j = true) := by
  unfold validR vals asc
  rw [Bool.and_eq_true, Bool.and_eq_true, inB_iff]
  constructor
  · rintro ⟨⟨h1, h2⟩, h3⟩
    exact ⟨h1, fun j hj => all_at h2 hj, fun j hj => all_at h3 hj⟩
  · rintro ⟨h1, h2, h3⟩
    exact ⟨⟨h1, all_of h2⟩, all_of h3⟩
theorem prevR_ge {s : Nat} {xs : List Int} {k : Nat} (h : ∀ j, j < k → stepR s xs j = true) : -1 ≤ prevR s xs k := by
  induction k with
  | zero => exact Int.le_refl _
  | succ k ih =>
    have := h k (by omega)
    have ih' := ih fun j hj => h j (by omega)
    simp [stepR] at this
    show -1 ≤ xs.getD (k * s) 0
    simp only [List.getD_eq_getElem?_getD]
    omega
theorem validR_step {s : Nat} {mx : Int} {f : List Int → Nat → Bool} {xs : List Int} {n k : Nat} (hk : k < n) (h : stepR s xs k = false) : validR s mx f xs n = false := by
  unfold validR asc; rw [all_no hk h]; simp
theorem validR_fld {s : Nat} {mx : Int} {f : List Int → Nat → Bool} {xs : List Int} {n k : Nat} (hk : k < n) (h : f xs k = false) : validR s mx f xs n = false := by
  unfold validR vals; rw [all_no hk h]; simp
theorem validR_eq {s : Nat} {mx : Int} {f : List Int → Nat → Bool} {xs : List Int} {n : Nat} (h1 : vals f xs n = true) (h2 : asc s xs n = true) : validR s mx f xs n = inB n 1 mx := by
  unfold validR; rw [h1, h2]; simp
theorem validR_asc {s : Nat} {mx : Int} {f : List Int → Nat → Bool} {xs : List Int} {n : Nat} (h : inB n 1 mx = true) (h1 : vals f xs n = true) : validR s mx f xs n = asc s xs n := by
  unfold validR; rw [h, h1]; simp
theorem validR_len {s : Nat} {mx : Int} {f : List Int → Nat → Bool} {xs : List Int} {n : Nat} (h : inB n 1 mx = false) : validR s mx f xs n = false := by
  unfold validR; rw [h]; simp
theorem vals_succ {f : List Int → Nat → Bool} {xs : List Int} {k : Nat} (h : vals f xs k = true) (h2 : f xs k = true) : vals f xs (k + 1) = true := by
  unfold vals at h ⊢; rw [all_succ, h, h2]; rfl
theorem asc_succ {s : Nat} {xs : List Int} {k : Nat} (h : asc s xs k = true) (h2 : stepR s xs k = true) : asc s xs (k + 1) = true := by
  unfold asc at h ⊢; rw [all_succ, h, h2]; rfl
theorem stepR_in (s : Nat) (xs : List Int) (k : Nat) : stepR s xs k = inB (xs.getD (k * s) 0) (prevR s xs k + 1) 11 := by
  unfold stepR inB
  congr 1
theorem stepR_prev {s : Nat} {xs : List Int} {k : Nat} (h : stepR s xs k = true) : prevR s xs (k + 1) ≤ 11 ∧ prevR s xs k < prevR s xs (k + 1) := by
  have h1 : stepR s xs k = (decide (prevR s xs k < prevR s xs (k + 1)) && decide (prevR s xs (k + 1) ≤ 11)) := rfl
  rw [h1, Bool.and_eq_true] at h
  exact ⟨by simpa using h.2, by simpa using h.1⟩
theorem fldP_in (xs : List Int) (k : Nat) : fldP xs k = inB (xs.getD (k * 2 + 1) 0) 0 99 := rfl
theorem fldC_in (xs : List Int) (k : Nat) : fldC xs k = (inB (xs.getD (k * 3 + 1) 0) 1 999 && inB (xs.getD (k * 3 + 2) 0) 0 5) := rfl
end Go.Proofs.Ytcocboigjfjnfac

/- SameP -/
namespace Go.Proofs.Ytcocboigjfjnfac
open Go.RowKit
set_option linter.unusedVariables false
set_option maxRecDepth 100000

theorem take_rec_succ (s : Nat) (xs ys : List Int) (k : Nat) (hx : k * s + s ≤ xs.length) (hy : k * s + s ≤ ys.length) (h : xs.take (k * s) = ys.take (k * s)) :
    ((∀ j, j < s → xs.getD (k * s + j) 0 = ys.getD (k * s + j) 0) → xs.take ((k + 1) * s) = ys.take ((k + 1) * s)) ∧ ((∃ j, xs.getD (k * s + j) 0 ≠ ys.getD (k * s + j) 0) → xs ≠ ys) := by
  refine ⟨fun e => ?_, fun ⟨j, e⟩ h => e (by rw [h])⟩
  have hl : (k + 1) * s = k * s + s := Nat.succ_mul k s
  rw [hl]
  apply List.ext_getElem?
  intro i
  rcases Nat.lt_or_ge i (k * s) with hi | hi
  · have h2 : (xs.take (k * s))[i]? = (ys.take (k * s))[i]? := by rw [h]
    rw [List.getElem?_take_of_lt hi, List.getElem?_take_of_lt hi] at h2
    rw [List.getElem?_take_of_lt (by omega), List.getElem?_take_of_lt (by omega), h2]
  · rcases Nat.lt_or_ge i (k * s + s) with hi2 | hi2
    · obtain ⟨j, rfl⟩ := Nat.exists_eq_add_of_le hi
      have := e j (by omega)
      have h1 : k * s + j < xs.length := by omega
      have h2 : k * s + j < ys.length := by omega
      rw [List.getElem?_take_of_lt hi2, List.getElem?_take_of_lt hi2]
      simpa [List.getD, h1, h2] using this
    · rw [List.getElem?_eq_none (by rw [List.length_take]; omega), List.getElem?_eq_none (by rw [List.length_take]; omega)]

theorem cell_next {w : World} {ad p : Addr} {m i : Nat} {v : Value} (hi : i ≠ 0) (e : ad.add m = p) (h : w.cell? (ad.add (m + i)) = some v) : w.cell? ⟨p.block, p.off + i, none⟩ = some v := by
  rw [← add_of_add, e] at h
  simpa [Addr.add, hi] using h
theorem ints_at2 {w : World} {B n k : Nat} {A : Option Addr} {xs : List Int} (h : Ints w B A (n * 2) xs) (hk : k < n) : ∃ ad p, A = some ad ∧ ad.add (k * 2) = p ∧ p.block < B ∧ w.cell? p = some (.int .i64 (xs.getD (k * 2) 0)) ∧ w.cell? ⟨p.block, p.off + 1, none⟩ = some (.int .i64 (xs.getD (k * 2 + 1) 0)) := by
  obtain ⟨ad, e, hb, hc⟩ := h.2 (by omega)
  exact ⟨ad, _, e, rfl, by rw [block_of_add]; exact hb, hc _ (by omega), cell_next (by decide) rfl (hc (k * 2 + 1) (by omega))⟩
theorem ints_at3 {w : World} {B n k : Nat} {A : Option Addr} {xs : List Int} (h : Ints w B A (n * 3) xs) (hk : k < n) : ∃ ad p, A = some ad ∧ ad.add (k * 3) = p ∧ p.block < B ∧ w.cell? p = some (.int .i64 (xs.getD (k * 3) 0)) ∧ w.cell? ⟨p.block, p.off + 1, none⟩ = some (.int .i64 (xs.getD (k * 3 + 1) 0)) ∧ w.cell? ⟨p.block, p.off + 2, none⟩ = some (.int .i64 (xs.getD (k * 3 + 2) 0)) := by
  obtain ⟨ad, e, hb, hc⟩ := h.2 (by omega)
  exact ⟨ad, _, e, rfl, by rw [block_of_add]; exact hb, hc _ (by omega), cell_next (by decide) rfl (hc (k * 3 + 1) (by omega)), cell_next (by decide) rfl (hc (k * 3 + 2) (by omega))⟩

theorem take_rec2 (xs : List Int) (k : Nat) (h : k * 2 + 2 ≤ xs.length) : xs.take (k * 2) ++ [xs.getD (k * 2) 0, xs.getD (k * 2 + 1) 0] = xs.take ((k + 1) * 2) := by
  have h0 : k * 2 < xs.length := by omega
  have h1 : k * 2 + 1 < xs.length := by omega
  have e0 : xs.getD (k * 2) 0 = xs[k * 2] := by simp [List.getD, h0]
  have e1 : xs.getD (k * 2 + 1) 0 = xs[k * 2 + 1] := by simp [List.getD, h1]
  rw [show (k + 1) * 2 = k * 2 + 1 + 1 by omega, List.take_succ_eq_append_getElem h1, List.take_succ_eq_append_getElem h0, e0, e1, List.append_assoc]
  rfl
theorem take_rec3 (xs : List Int) (k : Nat) (h : k * 3 + 3 ≤ xs.length) : xs.take (k * 3) ++ [xs.getD (k * 3) 0, xs.getD (k * 3 + 1) 0, xs.getD (k * 3 + 2) 0] = xs.take ((k + 1) * 3) := by
  have h0 : k * 3 < xs.length := by omega
  have h1 : k * 3 + 1 < xs.length := by omega
  have h2 : k * 3 + 2 < xs.length := by omega
  have e0 : xs.getD (k * 3) 0 = xs[k * 3] := by simp [List.getD, h0]
  have e1 : xs.getD (k * 3 + 1) 0 = xs[k * 3 + 1] := by simp [List.getD, h1]
  have e2 : xs.getD (k * 3 + 2) 0 = xs[k * 3 + 2] := by simp [List.getD, h2]
  rw [show (k + 1) * 3 = k * 3 + 1 + 1 + 1 by omega, List.take_succ_eq_append_getElem h2, List.take_succ_eq_append_getElem h1, List.take_succ_eq_append_getElem h0, e0, e1, e2, List.append_assoc, List.append_assoc]
  rfl

/-- what PairsPut and ColdPut answer: the numbers themselves, or nothing -/
def PutPost (w : World) (v : Bool) (xs : List Int) (e : Ending) (w' : World) : Prop :=
  ∃ A2 m c2, e = .returned (.tuple #[.slice A2 m c2, .bool v]) ∧ Own w' w.heap.size A2 m c2 (if v then xs else []) ∧ Below w.heap.size w w'
/-- what PairsGet and ColdGet answer -/
def GetPost (w : World) (t : TypeId) (s : Nat) (v : Bool) (xs : List Int) (e : Ending) (w' : World) : Prop :=
  ∃ A2 m c2, e = .returned (.tuple #[.slice A2 m c2, .bool v]) ∧ OwnR w' w.heap.size t s A2 m c2 (if v then xs else []) ∧ Below w.heap.size w w'
/-- n numbers are a valid body -/
def okG (s : Nat) (mx : Int) (f : List Int → Nat → Bool) (xs : List Int) (n : Nat) : Bool := decide (n % s = 0) && validR s mx f xs (n / s)



end Go.Proofs.Ytcocboigjfjnfac
