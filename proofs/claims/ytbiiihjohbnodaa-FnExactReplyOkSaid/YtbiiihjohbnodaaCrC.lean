/-
  The laws' szCert: what is left of a bound when a letter is weighed.
-/
import Derived.Test.YtbiiihjohbnodaaCrB
namespace Go.Proofs.Ytbiiihjohbnodaa
open Go.RowKit
set_option linter.unusedVariables false

end Go.Proofs.Ytbiiihjohbnodaa
