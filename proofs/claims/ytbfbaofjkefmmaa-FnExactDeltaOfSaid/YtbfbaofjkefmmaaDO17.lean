/-
  Texts of the proof, one behind the other: CrP, CloI.
-/
import Derived.Test.YtbfbaofjkefmmaaShelf
import Derived.Laws.IdiomStrings
import Derived.Test.YtbfbaofjkefmmaaDO1
import Derived.Test.YtbfbaofjkefmmaaDO2
import Derived.Test.YtbfbaofjkefmmaaDO3
import Derived.Test.YtbfbaofjkefmmaaDO8
import Derived.Test.YtbfbaofjkefmmaaDO9
import Derived.Test.YtbfbaofjkefmmaaDO13
import Derived.Test.YtbfbaofjkefmmaaDO16

/-
  Plain: letters as items tell them: kid by kid, as the program reads them, and all at once, as the specification does; of a right item both tell the one letter whose item it is.
-/
namespace Go.Proofs.Ytbfbaofjkefmmaa
open Go.RowKit Der
set_option linter.unusedVariables false

/-- The next kid, of this tag, and those behind it. -/
def nextP {k : Nat} (tag : Int) : List (It (k + 1)) → Option (It (k + 1) × List (It (k + 1)))
  | [] => none
  | y :: r => if It.tag y = tag then some (y, r) else none
def numP {k : Nat} (ks : List (It (k + 1))) : Option (Int × List (It (k + 1))) :=
  match nextP 2 ks with
  | none => none
  | some (y, r) => match inI (k + 1) y with
    | none => none
    | some v => some ((v : Int), r)
theorem next_some {k : Nat} {tag : Int} {ks : List (It (k + 1))} {y : It (k + 1)} {r : List (It (k + 1))} (h : nextP tag ks = some (y, r)) : ks = y :: r ∧ It.tag y = tag := by
  cases ks with
  | nil => cases h
  | cons a l =>
    change (if It.tag a = tag then some (a, l) else none) = some (y, r) at h
    by_cases ht : It.tag a = tag
    · rw [if_pos ht] at h
      injection h with h
      injection h with h1 h2
      subst h1 h2
      exact ⟨rfl, ht⟩
    · rw [if_neg ht] at h
      cases h
theorem num_some {k : Nat} {ks : List (It (k + 1))} {p : Int × List (It (k + 1))} (h : numP ks = some p) : ∃ y n, ks = y :: p.2 ∧ It.tag y = 2 ∧ inI (k + 1) y = some n ∧ p.1 = (n : Int) := by
  unfold numP at h
  split at h
  · cases h
  · next y r hn =>
    obtain ⟨h1, h2⟩ := next_some hn
    split at h
    · cases h
    · next v hv =>
      simp only [Option.some.injEq] at h
      subst h
      exact ⟨y, v, h1, h2, hv, rfl⟩
end Go.Proofs.Ytbfbaofjkefmmaa

/-
  The program's plainLine, and strings.Clone.
-/
namespace Go.Proofs.Ytbfbaofjkefmmaa
open Go.RowKit Der

theorem cloneB_any (s : ByteArray) (w : World) (hs : s.size ≤ 1000000000000) : Calls Try.prog 76 #[.string s] w fun e w' => e = .returned (.string s) ∧ Below w.heap.size w w' := by
  go_enter Try.func76, Try.ntmps76
  go_wp2_with (go_at_call 89; refine (Try.stringslite_Clone s _ (by omega)).mono ?_; rintro e w1 ⟨rfl, hb1⟩)
  go_ret
  exact ⟨rfl, hb1⟩
end Go.Proofs.Ytbfbaofjkefmmaa
