/-
  The specification's numbers of the rounds.
-/
import Derived.Test.YtoildgknpfehoaaDoorBlkS
namespace Go.Proofs.YtoildgknpfehoaaDoor
open Go.RowKit

set_option maxHeartbeats 800000 in
set_option maxRecDepth 100000 in
theorem keys_any (w : World) : Calls Tryd.prog 51 #[] w fun e w' => e = .returned (.agg (arrN 64 keyf)) ∧ Below w.heap.size w w' := by
  go_enter Tryd.func51, Tryd.ntmps51
  go_wp2_with (refine step_storeRow 61 w.heap.size 64 keyf (Row.new w 61 64 fun _ => 0) rfl rfl rfl rfl rfl info64 ?_; intro W2 HW2)
  have hW2 := HW2.out
  subst hW2
  have hrow := Row.setRow (g := keyf) (Row.new w 61 64 fun _ => 0)
  refine bodyPost_ret (v := .agg (arrN 64 keyf)) ?_ rfl ⟨rfl, below_setRow ((Below.refl _ _).alloc (Nat.le_refl _) _) (Nat.le_refl _) _⟩
  exact results_cell_row rfl _ _ w.heap.size _ (arrN 64 keyf) (0, 0) _ rfl hrow Tryd.underlying61 rfl (by rw [arrN_size]; exact info64)
end Go.Proofs.YtoildgknpfehoaaDoor
