/-
  The program's functions on extents: their contracts, together.
-/
import Derived.Test.YtphnckknhlmgaaaSpecE5
import Derived.Test.YtphnckknhlmgaaaImpE5
import Derived.Test.YtphnckknhlmgaaaImpE6
import Derived.Test.YtphnckknhlmgaaaImpE7
namespace Go.Proofs.Ytphnckknhlmgaaa
end Go.Proofs.Ytphnckknhlmgaaa
