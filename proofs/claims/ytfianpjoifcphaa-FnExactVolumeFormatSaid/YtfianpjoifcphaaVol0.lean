/-
  Volumes as values, and one without values. Plain.
-/
import Derived.Test.YtfianpjoifcphaaZone
import Derived.Test.YtfianpjoifcphaaObj
import Derived.Test.YtfianpjoifcphaaNewM
namespace Go.Proofs.Ytfianpjoifcphaa
open Go.RowKit
set_option linter.unusedVariables false
set_option maxRecDepth 100000

structure Vol where
  dev : Dev
  sto : Sto
  map : List Wh
  heat : List Int
  seq : Int
  zone : Int
def newV : Vol := { dev := List.replicate 4 ([], 0, false), sto := [], map := new12, heat := List.replicate 12 0, seq := 1, zone := 0 }
end Go.Proofs.Ytfianpjoifcphaa
