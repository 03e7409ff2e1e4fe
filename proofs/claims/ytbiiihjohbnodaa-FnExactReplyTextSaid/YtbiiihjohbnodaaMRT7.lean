/-
  Texts of the proof.
-/
import Derived.WalkKit
import Derived.Laws.RangeString
import Derived.Laws.RangeAny
import Derived.ChangeArms
import Derived.ChangeSlices
import Derived.ChangeOld
import Derived.DataElems
import Derived.OpenShut
import Derived.Deep.RegionHeld3
import Derived.Test.YtbiiihjohbnodaaMRT6
namespace Go.Proofs.Ytbiiihjohbnodaa
open Go.RowKit
set_option linter.unusedVariables false
def inB (n lo hi : Int) : Bool := decide (lo <= n /\ n <= hi)
theorem in_any (n lo hi : Int) (w : World) : Calls Try.prog 41 #[.int .i64 n, .int .i64 lo, .int .i64 hi] w fun e w' => e = .returned (.bool (inB n lo hi)) /\ Below w.heap.size w w' := by
 by_cases h : lo <= n /\ n <= hi
 ·refine (in_yes _ _ _ _ h.1 h.2).mono ?_
  rintro e w' ⟨rfl, rfl⟩
  exact ⟨by simp [inB, h], Below.refl _ _⟩
 ·refine (in_no _ _ _ _ (by omega)).mono ?_
  rintro e w' ⟨rfl, rfl⟩
  exact ⟨by unfold inB; rw [decide_eq_false h], Below.refl _ _⟩
end Go.Proofs.Ytbiiihjohbnodaa
namespace Go.Proofs.Ytbiiihjohbnodaa
open Go.RowKit Go.ChangeShapes
set_option linter.unusedVariables false
theorem cI : Try.prog.cellsOf 3 = 1 := by kernel_rfl
theorem cS : Try.prog.cellsOf 9 = 1 := by kernel_rfl
theorem cT : Try.prog.cellsOf 22 = 1 := by kernel_rfl
theorem take_one {cs : List Value} {k : Nat} {v : Value} (h : (cs.drop k).take 1 = [v]) : cs[k]? = some v := by
 have := congrArg (·[0]?) h
 simpa [List.getElem?_take, List.getElem?_drop] using this
theorem texts_in {H : Type} {enc : TypeId × Value -> H} {W : World} {fuel : Nat} {cs : List Value} {x : DataW H × List MemPlace} (h : DataW.trod enc Try.prog W 0 (fun _ => true) true fuel 22 cs = some x) :
  ∃ ao cap, ∃ l : List ByteArray, cs = [.slice ao l.length cap] /\ l.length <= maxLen /\ WdT l /\ ArgT W.heap.size W ao l := by
 rcases open_strings Try.underlying22 Try.underlying9 (by kernel_rfl) h with ⟨hcs, _⟩ | ⟨x, l, c, zs, hcs, _, hl, hm, hz, _, hcell, hwz⟩
 ·exact ⟨none, 0, [], hcs, Nat.zero_le _, fun x hx => by simp at hx, fun j hj => by simp at hj⟩
 ·obtain ⟨h1, h2, h3⟩ := argT_of hl (by simpa using hz) hcell hwz
  exact ⟨some x, c, zs.take l, by rw [h1]; exact hcs, by rw [h1]; exact Nat.le_trans hl hm, h2, h3⟩
end Go.Proofs.Ytbiiihjohbnodaa
namespace Go.Proofs.Ytbiiihjohbnodaa
open Go.RowKit
set_option linter.unusedVariables false
set_option linter.unusedSimpArgs false
theorem rowOne {w : World} {base t n : Nat} {s : Nat} {p : Value} {l : List Value} (h : w.ownsRow base t s p n l) : p.oneCell' = true := by
 rcases h.2 with ⟨rfl, _⟩ | ⟨g, cap, cur, rfl, _⟩ <;> rfl
theorem ap_ne {p e : Value} (h : Ap p e) {g : Nat} (h1 : p.ownBlock = some g) (h2 : e.ownBlock = some g) : False := by
 rcases h with h | h
 ·rw [h] at h1; cases h1
 ·exact h (h1.trans h2.symm)
theorem optNodup (o : Option Nat) : o.toList.Nodup := by cases o <;> simp
theorem sumM_take {l : List Nat} {k : Nat} (h : k < l.length) : (l.take (k + 1)).sum = (l.take k).sum + l[k] := by
 rw [List.take_add_one, List.sum_append, List.getElem?_eq_getElem h]
 simp
theorem sumM_take_le (l : List Nat) (k : Nat) : (l.take k).sum <= l.sum := by
 have h : (l.take k ++ l.drop k).sum = (l.take k).sum + (l.drop k).sum := List.sum_append
 rw [List.take_append_drop] at h
 omega
end Go.Proofs.Ytbiiihjohbnodaa
