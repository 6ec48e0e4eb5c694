/-
  The draws of scans: DrawScanZone, DrawScanDevice.
-/
import Derived.Test.YtcocboigjfjnfaaDrawZ4
namespace Go.Proofs.Ytcocboigjfjnfaa
open Go.RowKit
set_option linter.unusedVariables false
set_option maxRecDepth 100000

set_option maxHeartbeats 800000 in
theorem drawScanZone_any (A : Option Addr) (n c : Nat) (bs : Nat → Int) (w : World) (hb : Bytes w w.heap.size A n bs) (hn : n ≤ c) (hc : c ≤ maxLen) :
    Calls Try.prog 7 #[.slice A n c] w fun e w' => ∃ A2 m c2 qs z, e = .returned (.tuple #[.slice A2 m c2, .int .i64 z]) ∧ DevDrawn w w' A2 m c2 qs ∧ -1 ≤ z ∧ z ≤ 5 := by
  have HD := hide (drawFinish_any A n c bs w hb hn hc)
  clear hb
  go_enter Try.func7, Try.ntmps7
  go_wp2_with fail
  refine HD.out.mono ?_
  rintro e w1 ⟨A2, m, c2, qs, z, rfl, hd, h1, h2⟩
  have HDD := hide hd
  clear hd
  go_wp2
  try simp only [Exit.inBlock, Exit.then]
  refine bodyPost_ret (results_tmp2 rfl _ _ _) rfl ?_
  exact ⟨A2, m, c2, qs, z, rfl, HDD.out, h1, h2⟩

end Go.Proofs.Ytcocboigjfjnfaa
