/-
  The laws' heldItemS, heldItem, markItem.
-/
import Derived.Test.YtbiiihjohbnodaaItH
namespace Go.Proofs.Ytbiiihjohbnodaa
open Go.RowKit Der
set_option linter.unusedVariables false

end Go.Proofs.Ytbiiihjohbnodaa
