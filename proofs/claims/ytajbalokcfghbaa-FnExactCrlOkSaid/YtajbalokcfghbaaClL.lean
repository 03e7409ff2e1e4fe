/-
  What the laws over lists share: one that came in in a variable's block, one of one's own in another.
-/
import Derived.Test.YtajbalokcfghbaaClB
import Derived.Test.YtajbalokcfghbaaClE
import Derived.Deep.RegionHeld3
namespace Go.Proofs.Ytajbalokcfghbaa
open Go.RowKit
set_option linter.unusedVariables false

theorem wtL_len {c : Cl} (h : wtL c ≤ 1048576) : c.revs.length ≤ 1048576 := (wtL_parts h).2.1
/-- What came in, and a list of one's own, each in a variable's block. -/
def KL (w W : World) (g1 g2 : Nat) (t1 t2 : TypeId) (a b : Array Value) (c : Cl) : Prop := Below w.heap.size w W ∧ Blk W g1 t1 a ∧ Blk W g2 t2 b ∧ ClAt W (.agg b) c
theorem KL.below {w W W' : World} {g1 g2 : Nat} {t1 t2 : TypeId} {a b : Array Value} {c : Cl} (h : KL w W g1 g2 t1 t2 a b c) (hb : Below W.heap.size W W') : KL w W' g1 g2 t1 t2 a b c :=
  ⟨h.1.trans (hb.mono h.1.size), h.2.1.below hb h.2.1.lt, h.2.2.1.below hb h.2.2.1.lt, h.2.2.2.below hb⟩
end Go.Proofs.Ytajbalokcfghbaa
