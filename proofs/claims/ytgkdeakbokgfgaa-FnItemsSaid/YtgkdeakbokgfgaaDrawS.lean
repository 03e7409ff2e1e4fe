/-
  What chapter 2's laws draw: a text, and twelve places.
-/
import Derived.Test.YtgkdeakbokgfgaaDrawT
namespace Go.Proofs.Ytgkdeakbokgfgaa
open Go.RowKit


theorem len_ok8 (k : Nat) (h : k < 5000) : (k + 1) * 8 ≤ 140737488355328 := by omega

end Go.Proofs.Ytgkdeakbokgfgaa
