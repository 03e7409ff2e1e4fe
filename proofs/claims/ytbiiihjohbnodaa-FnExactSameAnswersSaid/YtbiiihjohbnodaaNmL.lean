/-
  Lists of names and of rules: NamesOk, PoliciesOk, ascending, underOneOf, Allowed, of both.
-/
import Derived.Test.YtbiiihjohbnodaaNmS
import Derived.Test.YtbiiihjohbnodaaTxS
namespace Go.Proofs.Ytbiiihjohbnodaa
open Go.RowKit
set_option linter.unusedVariables false

theorem IntAt.each {w : World} {v : Value} {l : List Int} (h : IntAt w v l) : ∃ ao cap, v = .slice ao l.length cap ∧ ∀ j, j < l.length → ∃ g, ao = some ⟨g, 0, none⟩ ∧ g < w.heap.size ∧ w.cell? ⟨g, j, none⟩ = some (.int .i64 (l.getD j 0)) := by
  obtain ⟨ao, cap, hv, h⟩ := h
  refine ⟨ao, cap, hv, fun j hj => ?_⟩
  obtain ⟨g, hg, hlt, hc⟩ := h (by omega)
  refine ⟨g, hg, hlt, ?_⟩
  rw [hc j hj]
  simp [List.getD, hj]

end Go.Proofs.Ytbiiihjohbnodaa
