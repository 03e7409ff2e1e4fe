/-
  What the laws' walks carry along beside what is turned.
-/
import Derived.Test.YtllmgjfffkhocaaCrB
import Derived.Test.YtllmgjfffkhocaaItG
namespace Go.Proofs.Ytllmgjfffkhocaa
open Go.RowKit
set_option linter.unusedVariables false

theorem Blk.out {w w' : World} {b : Nat} {t : TypeId} {vs : Array Value} {fp : List Nat} (h : Blk w b t vs) (ho : Out fp w w') (hn : b ∉ fp) : Blk w' b t vs := (ho.2.2.2.2 b h.lt hn).trans h
theorem Below.on {B : Nat} {w W W' : World} (h : Below B w W) (hb : Below W.heap.size W W') (hB : B ≤ W.heap.size) : Below B w W' := h.trans (hb.mono hB)
theorem Below.out {B : Nat} {w W W' : World} {fp : List Nat} (h : Below B w W) (ho : Out fp W W') (hf : ∀ b ∈ fp, B ≤ b) (hB : B ≤ W.heap.size) : Below B w W' := h.trans (ho.below hf hB)
end Go.Proofs.Ytllmgjfffkhocaa
