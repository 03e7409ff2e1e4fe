/-
  The specification's BodyItem: what of a letter is signed, as an item.
-/
import Derived.Test.YtbiiihjohbnodaaCrE
import Derived.Test.YtbiiihjohbnodaaCrO
import Derived.Deep.RegionHeld3
namespace Go.Proofs.Ytbiiihjohbnodaa
open Go.RowKit Der
set_option linter.unusedVariables false

end Go.Proofs.Ytbiiihjohbnodaa
