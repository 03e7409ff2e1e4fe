/-
  The program's plus.
-/
import Derived.Test.YtoildgknpfehoaaDoorNatC
import Derived.Deep.RegionHeld3
namespace Go.Proofs.YtoildgknpfehoaaDoor
open Go.RowKit

end Go.Proofs.YtoildgknpfehoaaDoor
