/-
  The program's figureValues, to base 10 or 16: the row of what the figures are worth ('fvals'), or nothing.
-/
import Derived.Test.YtfepknjdehannaaFigP
import Derived.Test.YtfepknjdehannaaHexI
import Derived.Deep.LoopGhost
namespace Go.Proofs.Ytfepknjdehannaa
open Go.RowKit

theorem idx_fig_i (x : Nat) (h1 : x < 16) (w : World) : (Instr.index 9 (.string ⟨#[48, 49, 50, 51, 52, 53, 54, 55, 56, 57, 97, 98, 99, 100, 101, 102]⟩) (.int .i64 x)).run Try.prog w = .ok (.int .u8 ((fig x).toNat : Int)) w := by
  have h : x = 0 ∨ x = 1 ∨ x = 2 ∨ x = 3 ∨ x = 4 ∨ x = 5 ∨ x = 6 ∨ x = 7 ∨ x = 8 ∨ x = 9 ∨ x = 10 ∨ x = 11 ∨ x = 12 ∨ x = 13 ∨ x = 14 ∨ x = 15 := by omega
  rcases h with h | h | h | h | h | h | h | h | h | h | h | h | h | h | h | h <;> (subst h; show _ = _; kernel_rfl)

theorem cells_over1 {s : ByteArray} {wr w2 : World} {b : Nat} {v : Value} {o : Obj} (hb : b < wr.heap.size) (h : ∀ j (hj : j < s.size), wr.cell? ⟨b, j, none⟩ = some (.int .u8 ((s[j]'hj).toNat : Int))) (hv : v.ownBlock ≠ some b)
    (hg : (wr.alloc o).grownBy w2 v.ownBlock) : ∀ j (hj : j < s.size), w2.cell? ⟨b, j, none⟩ = some (.int .u8 ((s[j]'hj).toNat : Int)) := fun j hj => by
  refine hg.cell ?_ (fun e => hv e.symm)
  exact (((Below.refl wr.heap.size wr).alloc (Nat.le_refl _) o).cell (p := ⟨b, j, none⟩) hb).trans (h j hj)

end Go.Proofs.Ytfepknjdehannaa
