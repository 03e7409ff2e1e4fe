/-
  Texts of the proof.
-/
import Derived.Test.YthbdgdfanpbkeaaGreatAQ3
namespace Go.Proofs.YthbdgdfanpbkeaaGreat
open Go.RowKit
def okL (l : List Int) : Bool := decide (l.length <= 40) && (l.all fun x => decide (0 <= x) && decide (x <= 9999)) && (l.length == 0 || !(l.getD (l.length - 1) 0 == 0))
theorem okL_iff (l : List Int) : okL l = true ↔ l.length <= 40 /\ Dig l /\ Top l := by
 unfold okL
 rw [Bool.and_eq_true, Bool.and_eq_true, decide_eq_true_iff, List.all_eq_true, Bool.or_eq_true, beq_iff_eq, Bool.not_eq_true', beq_eq_false_iff_ne]
 constructor
 ·rintro ⟨⟨h1, h2⟩, h3⟩
  refine ⟨h1, fun x hx => ?_, fun h0 => ?_⟩
  ·have := h2 x hx
   rw [Bool.and_eq_true, decide_eq_true_iff, decide_eq_true_iff] at this
   exact this
  ·rcases h3 with h3 | h3
   ·omega
   ·exact h3
 ·rintro ⟨h1, h2, h3⟩
  refine ⟨⟨h1, fun x hx => ?_⟩, ?_⟩
  ·rw [Bool.and_eq_true, decide_eq_true_iff, decide_eq_true_iff]
   exact h2 x hx
  ·by_cases h0 : l.length = 0
   ·exact .inl h0
   ·exact .inr (h3 (by omega))
theorem okL_yes {l : List Int} (h1 : l.length <= 40) (h2 : Dig l) (h3 : Top l) : okL l = true := (okL_iff l).2 ⟨h1, h2, h3⟩
theorem okL_no {l : List Int} (h : ¬ (l.length <= 40 /\ Dig l /\ Top l)) : okL l = false := by
 rcases e : okL l with _ | _
 ·rfl
 ·exact absurd ((okL_iff l).1 e) h
end Go.Proofs.YthbdgdfanpbkeaaGreat
