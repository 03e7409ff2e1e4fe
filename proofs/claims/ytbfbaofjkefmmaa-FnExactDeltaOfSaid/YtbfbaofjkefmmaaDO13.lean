/-
  Texts of the proof, one behind the other: NmL, ClL.
-/
import Derived.WalkKit
import Derived.Laws.RangeString
import Derived.Laws.RangeAny
import Derived.Deep.RegionHeld3
import Derived.Test.YtbfbaofjkefmmaaDO2
import Derived.Test.YtbfbaofjkefmmaaDO7
import Derived.Test.YtbfbaofjkefmmaaDO8
import Derived.Test.YtbfbaofjkefmmaaDO11
import Derived.Test.YtbfbaofjkefmmaaDO12

/-
  Lists of names and of rules: NamesOk, PoliciesOk, ascending, underOneOf, Allowed, of both.
-/
namespace Go.Proofs.Ytbfbaofjkefmmaa
open Go.RowKit
set_option linter.unusedVariables false

theorem IntAt.each {w : World} {v : Value} {l : List Int} (h : IntAt w v l) : ∃ ao cap, v = .slice ao l.length cap ∧ ∀ j, j < l.length → ∃ g, ao = some ⟨g, 0, none⟩ ∧ g < w.heap.size ∧ w.cell? ⟨g, j, none⟩ = some (.int .i64 (l.getD j 0)) := by
  obtain ⟨ao, cap, hv, h⟩ := h
  refine ⟨ao, cap, hv, fun j hj => ?_⟩
  obtain ⟨g, hg, hlt, hc⟩ := h (by omega)
  refine ⟨g, hg, hlt, ?_⟩
  rw [hc j hj]
  simp [List.getD, hj]

end Go.Proofs.Ytbfbaofjkefmmaa

/-
  What the laws over lists share: one that came in in a variable's block, one of one's own in another.
-/
namespace Go.Proofs.Ytbfbaofjkefmmaa
open Go.RowKit
set_option linter.unusedVariables false

theorem wtL_len {c : Cl} (h : wtL c ≤ 1048576) : c.revs.length ≤ 1048576 := (wtL_parts h).2.1
/-- What came in, and a list of one's own, each in a variable's block. -/
def KL (w W : World) (g1 g2 : Nat) (t1 t2 : TypeId) (a b : Array Value) (c : Cl) : Prop := Below w.heap.size w W ∧ Blk W g1 t1 a ∧ Blk W g2 t2 b ∧ ClAt W (.agg b) c
theorem KL.below {w W W' : World} {g1 g2 : Nat} {t1 t2 : TypeId} {a b : Array Value} {c : Cl} (h : KL w W g1 g2 t1 t2 a b c) (hb : Below W.heap.size W W') : KL w W' g1 g2 t1 t2 a b c :=
  ⟨h.1.trans (hb.mono h.1.size), h.2.1.below hb h.2.1.lt, h.2.2.1.below hb h.2.2.1.lt, h.2.2.2.below hb⟩
end Go.Proofs.Ytbfbaofjkefmmaa
