/-
  The numbers of a shelf in order: slices.Sorted(maps.Keys(all)).
-/
import Derived.Test.YtfianpjoifcphaaGreatShelf
import Derived.Test.YtfianpjoifcphaaGreatLay
import Derived.Shelf.SlIterI.Nil
import Derived.Shelf.SlIterI.Sorted
import Derived.Shelf.SortM.Plain
import Derived.Shelf.SortM.SortNone
namespace Go.Proofs.YtfianpjoifcphaaGreat
open Go.RowKit Go.Maps Go.Sort Go.Shelf
set_option linter.unusedVariables false
set_option maxRecDepth 100000

theorem keys_any (mb : Option Nat) (W : World) :
    Calls Tryz.prog 178 #[.map mb] W fun e w' => e = .returned (.func (.func 220) #[] #[.pointer (some ⟨W.heap.size, 0, none⟩)]) ∧ w' = W.alloc (.cells #[.map mb] 79) :=
  (callsIn_wide (n := 5)).1 (AnyZI.keys_in keysA Fence.wide 5 trivial rfl mb W)

theorem size_allocS (w : World) (o : Obj) : (w.alloc o).heap.size = w.heap.size + 1 := by simp

theorem sortsA (m : Nat) : AnyZI.SortsIn Tryz.prog sortedA_ren Fence.wide m :=
  ⟨fun blk off cap ss W hH hblk hsz => callsIn_wide.2 (AnyM.slices_Sort_int sortA_Lay blk off cap ss W hH hblk hsz),
   fun p cap W => callsIn_wide.2 (AnyM.slices_Sort_int_none sortA_Lay p cap W)⟩

set_option maxHeartbeats 1000000 in
/-- the numbers, ascending, in new memory -/
theorem sorted_any (b N : Nat) (f : Int → Option Value) (ks : List Int) (w : World) (hs : Shelf w b N f) (hd : Dom f ks) (hN : N ≤ 1000000000000) :
    Calls Tryz.prog 177 #[.func (.func 220) #[] #[.pointer (some ⟨w.heap.size, 0, none⟩)]] (w.alloc (.cells #[.map (some b)] 79))
      fun e w' => ∃ A c, e = .returned (.slice A ks.length c) ∧ Own w' (w.heap.size + 1) A ks.length c ks ∧ Below (w.heap.size + 1) (w.alloc (.cells #[.map (some b)] 79)) w' := by
  obtain ⟨n, D, hown, hn, hh, ha⟩ := hs
  have hsz := hown.size_le
  have hbl := hown.lt
  have hseq : SeqGives Fence.wide 2 Tryz.prog 220 #[.pointer (some ⟨w.heap.size, 0, none⟩)] encZ (fun ss => ss.Perm (intKeys D)) (Maps.size D) (w.alloc (.cells #[.map (some b)] 79)) :=
    AnyZI.keys_gives (ρ := keysA_ren) { keysA with } Fence.wide _ trivial rfl (by omega) w.heap.size b n D _ (by simp) (by simp) (by
      obtain ⟨es, clock, hb, Ft, hs, hD⟩ := hown
      exact ⟨es, clock, (Below.heap_alloc _ _ b hbl).trans hb, Ft, hs, hD⟩)
  have cS := AnyZI.sorted_in sortedA Fence.wide 5 trivial trivial trivial trivial rfl (by omega) (sortsA _) (enters_of Tryz.func219 (by kernel_rfl) rfl) 220 #[.pointer (some ⟨w.heap.size, 0, none⟩)] trivial (enters_of Tryz.func220 (by kernel_rfl) rfl) _ _ (by unfold maxLen; omega) (by omega) _ hseq
  refine ((callsIn_wide (n := 5)).1 cS).mono ?_
  rintro e w' ⟨v, ss, rfl, hS, hrow, hnil, hb⟩
  have hks := sort_keys hd hown hh hS
  have hlen : ss.length = ks.length := by rw [← hks]; simp
  obtain ⟨A, c, rfl⟩ := slice_of_own hrow
  rw [hks, hlen] at hrow
  rw [size_allocS] at hrow hb
  exact ⟨A, c, by rw [hlen], ⟨rfl, hrow⟩, hb⟩
end Go.Proofs.YtfianpjoifcphaaGreat
