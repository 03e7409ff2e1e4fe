/-
  The specification's Hex answers two figures a byte ('hexL').
-/
import Derived.Test.YtoildgknpfehoaaDoorHexP
namespace Go.Proofs.YtoildgknpfehoaaDoor
open Go.RowKit

end Go.Proofs.YtoildgknpfehoaaDoor
