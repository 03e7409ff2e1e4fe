/-
  Texts of the proof.
-/
import Derived.Test.YtajhelkihfdlcaaGreatAQ31
namespace Go.Proofs.YtajhelkihfdlcaaGreat
open Go.RowKit Der
set_option linter.unusedVariables false
theorem Below.on {B : Nat} {w W W' : World} (h : Below B w W) (hb : Below W.heap.size W W') (hB : B <= W.heap.size) : Below B w W' := h.trans (hb.mono hB)
end Go.Proofs.YtajhelkihfdlcaaGreat
