/-
  The program's functions on extents: their contracts, together.
-/
import Derived.Test.YthpipgcgnhgphaaSpecE5
import Derived.Test.YthpipgcgnhgphaaImpE5
import Derived.Test.YthpipgcgnhgphaaImpE6
import Derived.Test.YthpipgcgnhgphaaImpE7
namespace Go.Proofs.Ythpipgcgnhgphaa
end Go.Proofs.Ythpipgcgnhgphaa
