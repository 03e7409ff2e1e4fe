/-
  A letter that came in, opened.
-/
import Derived.Test.YtbiiihjohbnodaaCrA
import Derived.ChangeArms
import Derived.ChangeSlices
import Derived.ChangeOld
import Derived.DataElems
import Derived.OpenShut
namespace Go.Proofs.Ytbiiihjohbnodaa
open Go.RowKit Go.ChangeShapes
set_option linter.unusedVariables false

theorem cI : Try.prog.cellsOf 3 = 1 := by kernel_rfl
theorem cS : Try.prog.cellsOf 9 = 1 := by kernel_rfl
theorem cB : Try.prog.cellsOf 4 = 1 := by kernel_rfl
theorem cT : Try.prog.cellsOf 22 = 1 := by kernel_rfl
theorem take_one {cs : List Value} {k : Nat} {v : Value} (h : (cs.drop k).take 1 = [v]) : cs[k]? = some v := by
  have := congrArg (·[0]?) h
  simpa [List.getElem?_take, List.getElem?_drop] using this
theorem texts_in {H : Type} {enc : TypeId × Value → H} {W : World} {fuel : Nat} {cs : List Value} {x : DataW H × List MemPlace} (h : DataW.trod enc Try.prog W 0 (fun _ => true) true fuel 22 cs = some x) :
    ∃ ao cap, ∃ l : List ByteArray, cs = [.slice ao l.length cap] ∧ l.length ≤ maxLen ∧ WdT l ∧ ArgT W.heap.size W ao l := by
  rcases open_strings Try.underlying22 Try.underlying9 (by kernel_rfl) h with ⟨hcs, _⟩ | ⟨x, l, c, zs, hcs, _, hl, hm, hz, _, hcell, hwz⟩
  · exact ⟨none, 0, [], hcs, Nat.zero_le _, fun x hx => by simp at hx, fun j hj => by simp at hj⟩
  · obtain ⟨h1, h2, h3⟩ := argT_of hl (by simpa using hz) hcell hwz
    exact ⟨some x, c, zs.take l, by rw [h1]; exact hcs, by rw [h1]; exact Nat.le_trans hl hm, h2, h3⟩
end Go.Proofs.Ytbiiihjohbnodaa
