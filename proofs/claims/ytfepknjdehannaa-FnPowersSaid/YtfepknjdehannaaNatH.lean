/-
  The program's minus.
-/
import Derived.Test.YtfepknjdehannaaNatC
import Derived.Deep.RegionHeld3
namespace Go.Proofs.Ytfepknjdehannaa
open Go.RowKit

end Go.Proofs.Ytfepknjdehannaa
