/-
  The specification's NatMul and NatDiv.
-/
import Derived.Test.YtoildgknpfehoaaDoorSpE
namespace Go.Proofs.YtoildgknpfehoaaDoor
open Go.RowKit
theorem OwnI.empty (w : World) {base : Nat} (h : base ≤ w.heap.size) : OwnI (w.alloc (.cells #[] 3)) base (.slice (some ⟨w.heap.size, 0, none⟩) 0 0) [] := World.ownsRow_made w #[] 0 h (Nat.zero_le _) rfl
theorem OwnI.empty2 (w : World) (o : Obj) {base : Nat} (h : base ≤ w.heap.size) : OwnI ((w.alloc o).alloc (.cells #[] 3)) base (.slice (some ⟨w.heap.size + 1, 0, none⟩) 0 0) [] := by
  have h2 := OwnI.empty (base := base) (w.alloc o) (size_ok h o)
  have e : (w.alloc o).heap.size = w.heap.size + 1 := by simp
  rw [e] at h2
  exact h2

end Go.Proofs.YtoildgknpfehoaaDoor
