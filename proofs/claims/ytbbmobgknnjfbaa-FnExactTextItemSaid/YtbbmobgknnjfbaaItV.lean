/-
  The laws' helpers at an item without kids.
-/
import Derived.Test.YtbbmobgknnjfbaaItI
import Derived.Test.YtbbmobgknnjfbaaItT
namespace Go.Proofs.Ytbbmobgknnjfbaa
open Go.RowKit Der
set_option linter.unusedVariables false

theorem leaf_at (t : Int) (s : ByteArray) (w : World) : ItAt w 1 (.agg #[.int .i64 t, .string s, .slice none 0 0]) (It.mk t s.data.toList ([] : List (It 0))) := by
  refine ⟨.slice none 0 0, ?_, none, 0, rfl, fun h => absurd h (Nat.lt_irrefl _)⟩
  show Value.agg #[.int .i64 t, .string s, .slice none 0 0] = Value.agg #[.int .i64 t, .string ⟨s.data.toList.toArray⟩, .slice none 0 0]
  simp
theorem eqLeaf (t : Int) (s : ByteArray) (w : World) (hs : s.size ≤ 10000000) : Calls Try.prog 40 #[.agg #[.int .i64 t, .string s, .slice none 0 0], .agg #[.int .i64 t, .string s, .slice none 0 0]] w fun e w' => e = .returned (.bool true) ∧ Below w.heap.size w w' := by
  have hz : szI 1 (It.mk t s.data.toList ([] : List (It 0))) ≤ 10000000 := by
    show s.data.toList.length + 0 + 0 ≤ 10000000
    exact hs
  have E := eqItem_any 1 1 _ _ _ _ w (leaf_at t s w) (leaf_at t s w) hz hz
  rw [same_refl] at E
  exact E
theorem markLeaf (t : Int) (s : ByteArray) (w : World) : Calls Try.prog 42 #[.agg #[.int .i64 t, .string s, .slice none 0 0], .int .i64 1] w fun e w' => e = .returned (.int .i64 1) ∧ Below w.heap.size w w' :=
  (markItem_any 0 t s [] (.slice none 0 0) [] 0 1 w ⟨⟨none, 0, rfl⟩, rfl⟩ (Nat.le_refl _) (by show 1 + 2 * (0 + 0) ≤ 1000000000; omega)).mono fun e w' ⟨h1, _, h3⟩ => ⟨h1, h3.below (fun x hx => by cases hx) (Nat.le_refl _)⟩
theorem heldLeaf (t : Int) (s : ByteArray) (w : World) : Calls Try.prog 43 #[.agg #[.int .i64 t, .string s, .slice none 0 0], .int .i64 1] w fun e w' => e = .returned (.int .i64 1) ∧ Below w.heap.size w w' :=
  heldItem_any 0 t s [] (.slice none 0 0) 1 w ⟨none, 0, rfl, fun h => absurd h (Nat.lt_irrefl _)⟩ (Nat.le_refl _) (by show 1 + 2 * (0 + 0) ≤ 1000000000; omega)
end Go.Proofs.Ytbbmobgknnjfbaa
