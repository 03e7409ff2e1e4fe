/-
  The laws' eqCert, of letters that are the same.
-/
import Derived.Test.YtbiiihjohbnodaaCrB
namespace Go.Proofs.Ytbiiihjohbnodaa
open Go.RowKit
set_option linter.unusedVariables false

end Go.Proofs.Ytbiiihjohbnodaa
