/-
  The model's l3Sync, DeviceErase, DeviceAppend.
-/
import Derived.Test.YtcocboigjfjnfacSpecZ2
namespace Go.Proofs.Ytcocboigjfjnfac
open Go.RowKit
set_option linter.unusedVariables false
set_option maxRecDepth 100000

def syncZ (z : List Int × Int × Bool) : List Int × Int × Bool := (z.1, (z.1.length : Int), z.2.2)
def syncD (ds : Dev) : Dev := ds.map syncZ

theorem set_step {α : Type} {s d : List α} {k : Nat} {y : α} (hl : s.length = d.length) (hy : s[k]? = some y) : (s.take k ++ d.drop k).set k y = s.take (k + 1) ++ d.drop (k + 1) := by
  have hk : k < s.length := (List.getElem?_eq_some_iff.1 hy).1
  apply List.ext_getElem?
  intro i
  rw [List.getElem?_set]
  have h1 : (s.take k).length = k := by rw [List.length_take]; omega
  have h2 : (s.take (k + 1)).length = k + 1 := by rw [List.length_take]; omega
  rcases Nat.lt_trichotomy i k with h | h | h
  · rw [if_neg (by omega), List.getElem?_append_left (by omega), List.getElem?_append_left (by omega), List.getElem?_take_of_lt h, List.getElem?_take_of_lt (by omega)]
  · subst h
    rw [if_pos rfl, if_pos (by rw [List.length_append, h1, List.length_drop]; omega), List.getElem?_append_left (by omega), List.getElem?_take_of_lt (by omega), hy]
  · rw [if_neg (by omega), List.getElem?_append_right (by omega), List.getElem?_append_right (by omega), h1, h2, List.getElem?_drop, List.getElem?_drop]
    congr 1
    omega

theorem zns_set (qs : List Zq) (k : Nat) (q : Zq) : zns (qs.set k q) = (zns qs).set k q.zn := by unfold zns; rw [List.map_set]

theorem OwnZ.at_ {w : World} {base g n c k : Nat} {qs : List Zq} {q : Zq} (h : OwnZ w base (some ⟨g, 0, none⟩) n c qs) (hk : qs[k]? = some q) :
    w.cell? ⟨g, k * 3, none⟩ = some q.sl ∧ w.cell? ⟨g, k * 3 + 1, none⟩ = some (.int .i64 q.synced) ∧ w.cell? ⟨g, k * 3 + 2, none⟩ = some (.bool q.full) := by
  obtain ⟨ad, p, e, hp, _, h0, h1, h2⟩ := h.zns.at_ hk
  injection e with e
  subst e
  rw [add_plain'] at hp
  subst hp
  exact ⟨h0, h1, h2⟩

set_option maxHeartbeats 3200000 in
theorem specSyncZ (A : Option Addr) (n c B : Nat) (qs : List Zq) (w : World) (hr : Zns w B A n qs) (hB : B ≤ w.heap.size) (hn : n ≤ 100000000000) (hl : ∀ q ∈ qs, q.words.length ≤ 1000000000000) :
    Calls Try.prog 48 #[.slice A n c] w fun e w' => ∃ A2 c2 qs2, e = .returned (.slice A2 n c2) ∧ OwnZ w' w.heap.size A2 n c2 qs2 ∧ zns qs2 = syncD (zns qs) ∧ Below w.heap.size w w' := by
  have HC := hide (specCopy A n c B qs w hr hB hn hl)
  have hds : (zns qs).length = n := by unfold zns; rw [List.length_map]; exact hr.1
  generalize zns qs = ds at HC hds ⊢
  clear hr hl
  have HDS := hide hds
  clear hds
  go_enter Try.func48, Try.ntmps48
  go_wp2_with fail
  refine HC.out.mono ?_
  rintro e w1 ⟨A2, c2, qs2, rfl, ho1, hz1, hb1⟩
  have HO1 := hide ho1
  have HZ1 := hide hz1
  have HB1 := hide hb1
  clear ho1 hz1 hb1
  go_wp2
  go_loopw [4] (fun i wr => ∃ (k : Nat) (rs : List Zq), k ≤ n ∧ i = .int .i64 k ∧ Hid (OwnZ wr w.heap.size A2 n c2 rs) ∧ Hid (zns rs = (syncD ds).take k ++ ds.drop k) ∧ Hid (Below w.heap.size w wr)) (fun i _ => n - (intOf i).toNat)
  case atStart => exact ⟨0, qs2, Nat.zero_le _, rfl, HO1.out, by show _ = _; rw [HZ1.out]; simp, HB1.out⟩
  case round =>
    obtain ⟨k, rs, hk, rfl, HO, HZ, HB⟩ := hrel
    by_cases hlt : k < n
    · obtain ⟨g, rfl, hg0, hg1⟩ := HO.out.shape (by omega)
      obtain ⟨q, hq⟩ : ∃ q, rs[k]? = some q := ⟨_, List.getElem?_eq_getElem (by rw [HO.out.len]; exact hlt)⟩
      obtain ⟨hc0, hc1, hc2⟩ := HO.out.at_ hq
      have hfz := HO.out.free (j := k * 3 + 1)
      have hml := (HO.out.own k q hq).cap
      have hqz : (zns rs)[k]? = some q.zn := by unfold zns; rw [List.getElem?_map, hq]; rfl
      have hput := HO.out.put_in hq ⟨q.words, (q.words.length : Int), q.full, q.addr, q.cap⟩ 1 (.int .i64 q.words.length) (by omega) rfl rfl rfl rfl
      have hset : zns (rs.set k ⟨q.words, (q.words.length : Int), q.full, q.addr, q.cap⟩) = (syncD ds).take (k + 1) ++ ds.drop (k + 1) := by
        have hl := HDS.out
        have hd : ds[k]? = some q.zn := by
          rw [HZ.out, List.getElem?_append_right (by rw [List.length_take]; omega), List.getElem?_drop] at hqz
          rw [← hqz]
          congr 1
          rw [List.length_take]
          unfold syncD
          rw [List.length_map]
          omega
        rw [zns_set, HZ.out]
        refine set_step (by unfold syncD; rw [List.length_map]) ?_
        unfold syncD
        rw [List.getElem?_map, hd]
        rfl
      have HP := hide hput
      have HS := hide hset
      clear hput hset hqz hq
      obtain ⟨ws, sy, fu, qa, qc⟩ := q
      simp only [Zq.sl] at hc0 hc1 hc2 hml HP HS
      generalize ws.length = m at hc0 hml HP HS
      have hmx : m ≤ 9223372036854775807 := by unfold maxLen at hml; omega
      have k0 : (0 : Int) ≤ (k : Int) := by omega
      have k1 : (k : Int) < (n : Int) := by omega
      clear hml hc2
      go_wp2
      go_roundw
      case rel => exact ⟨k + 1, _, by omega, by go_num, HP.out.1, HS.out, HB.out.grown HP.out.2 HB.out.size (fun b hb => by injection hb with hb; omega)⟩
      case measure => simp [intOf]; omega
    · obtain rfl : k = n := by omega
      go_wp2
      go_ret
      have h := HZ.out
      have hl := HDS.out
      rw [List.take_of_length_le (by unfold syncD; rw [List.length_map]; omega), List.drop_of_length_le (by omega), List.append_nil] at h
      exact ⟨_, _, _, rfl, HO.out, h, HB.out⟩
end Go.Proofs.Ytcocboigjfjnfac
