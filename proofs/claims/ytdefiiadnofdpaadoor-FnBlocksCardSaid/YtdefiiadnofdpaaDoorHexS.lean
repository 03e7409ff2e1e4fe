/-
  The specification's Hex answers two figures a byte ('hexL').
-/
import Derived.Test.YtdefiiadnofdpaaDoorHexP
namespace Go.Proofs.YtdefiiadnofdpaaDoor
open Go.RowKit

end Go.Proofs.YtdefiiadnofdpaaDoor
