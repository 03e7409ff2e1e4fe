/-
  The laws' own helpers over items: szItem, szItemS: how great an item is.
-/
import Derived.Test.YtllmgjfffkhocaaItB
namespace Go.Proofs.Ytllmgjfffkhocaa
open Go.RowKit Der
set_option linter.unusedVariables false

/-- What any item that came in keeps to. -/
def ItWd : (n : Nat) → It n → Prop
  | 0, _ => False
  | n + 1, x => (-9223372036854775808 ≤ It.tag x ∧ It.tag x ≤ 9223372036854775807) ∧ (It.text x).length ≤ 9223372036854775807 ∧ (It.kids x).length ≤ 9223372036854775807 ∧ ∀ y ∈ It.kids x, ItWd n y
/-- What is left of a number that so much is taken from; -1 when it is too much. -/
def szR (left : Int) (z : Nat) : Int := if (z : Int) ≤ left then left - z else -1
/-- How great a row of items is. -/
def szS (n : Nat) (ks : List (It n)) : Nat := ks.length + (ks.map (szI n)).sum
theorem take_sum {n : Nat} {ks : List (It n)} {k : Nat} (h : k < ks.length) : ((ks.take (k + 1)).map (szI n)).sum = ((ks.take k).map (szI n)).sum + szI n ks[k] := by
  rw [List.take_add_one, List.map_append, List.sum_append]
  simp [h]
theorem take_sum_le {n : Nat} (ks : List (It n)) (k : Nat) : ((ks.take k).map (szI n)).sum ≤ (ks.map (szI n)).sum := by
  have h := congrArg (fun l => (l.map (szI n)).sum) (List.take_append_drop k ks)
  simp only [List.map_append, List.sum_append] at h
  omega
theorem one_laid (w : World) (a b c : Value) (t : TypeId) : ∀ W, W = w.alloc (Obj.cells #[a, b, c] t) →
    Below w.heap.size w W ∧ w.heap.size < W.heap.size ∧ (W.cell? ⟨w.heap.size, 0, none⟩ = some a ∧ W.cell? ⟨w.heap.size, 1, none⟩ = some b ∧ W.cell? ⟨w.heap.size, 2, none⟩ = some c) := by
  rintro W rfl
  have e : (w.alloc (Obj.cells #[a, b, c] t)).heap.size = w.heap.size + 1 := Array.size_push _
  have h0 := heap_alloc_new w (Obj.cells #[a, b, c] t)
  refine ⟨(Below.refl _ _).alloc (Nat.le_refl _) _, by omega, ?_⟩
  simp only [World.cell?, h0]
  exact ⟨rfl, rfl, rfl⟩
end Go.Proofs.Ytllmgjfffkhocaa
