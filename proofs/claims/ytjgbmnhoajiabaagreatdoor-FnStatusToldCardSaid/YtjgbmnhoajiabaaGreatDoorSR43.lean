/-
  Texts of the proof.
-/
import Derived.Recover
import Derived.Deep.RegionHeld3
import Derived.LaidEqlPtr
import Derived.Laws.StructEq
import Derived.ChangeKeysEq
import Derived.Test.YtjgbmnhoajiabaaGreatDoorSR42
namespace Go.Proofs.YtjgbmnhoajiabaaGreatDoor
open Go.RowKit Der
set_option linter.unusedVariables false
set_option linter.unusedSimpArgs false
theorem set13 {V0 : World} {p : Nat} {ta : TypeId} {a0 a1 a2 a3 a4 a5 a6 a7 a8 a9 a10 a11 a12 z0 z1 z2 z3 z4 z5 z6 z7 z8 z9 z10 z11 z12 : Value} (h : Blk V0 p ta #[a0, a1, a2, a3, a4, a5, a6, a7, a8, a9, a10, a11, a12]) : Blk (((((((((((((V0.setCell ⟨p, 0, none⟩ z0).setCell ⟨p, 1, none⟩ z1).setCell ⟨p, 2, none⟩ z2).setCell ⟨p, 3, none⟩ z3).setCell ⟨p, 4, none⟩ z4).setCell ⟨p, 5, none⟩ z5).setCell ⟨p, 6, none⟩ z6).setCell ⟨p, 7, none⟩ z7).setCell ⟨p, 8, none⟩ z8).setCell ⟨p, 9, none⟩ z9).setCell ⟨p, 10, none⟩ z10).setCell ⟨p, 11, none⟩ z11).setCell ⟨p, 12, none⟩ z12) p ta #[z0, z1, z2, z3, z4, z5, z6, z7, z8, z9, z10, z11, z12] := by
 have g0 : Blk _ p ta #[z0, a1, a2, a3, a4, a5, a6, a7, a8, a9, a10, a11, a12] := h.set 0 z0
 have g1 : Blk _ p ta #[z0, z1, a2, a3, a4, a5, a6, a7, a8, a9, a10, a11, a12] := g0.set 1 z1
 have g2 : Blk _ p ta #[z0, z1, z2, a3, a4, a5, a6, a7, a8, a9, a10, a11, a12] := g1.set 2 z2
 have g3 : Blk _ p ta #[z0, z1, z2, z3, a4, a5, a6, a7, a8, a9, a10, a11, a12] := g2.set 3 z3
 have g4 : Blk _ p ta #[z0, z1, z2, z3, z4, a5, a6, a7, a8, a9, a10, a11, a12] := g3.set 4 z4
 have g5 : Blk _ p ta #[z0, z1, z2, z3, z4, z5, a6, a7, a8, a9, a10, a11, a12] := g4.set 5 z5
 have g6 : Blk _ p ta #[z0, z1, z2, z3, z4, z5, z6, a7, a8, a9, a10, a11, a12] := g5.set 6 z6
 have g7 : Blk _ p ta #[z0, z1, z2, z3, z4, z5, z6, z7, a8, a9, a10, a11, a12] := g6.set 7 z7
 have g8 : Blk _ p ta #[z0, z1, z2, z3, z4, z5, z6, z7, z8, a9, a10, a11, a12] := g7.set 8 z8
 have g9 : Blk _ p ta #[z0, z1, z2, z3, z4, z5, z6, z7, z8, z9, a10, a11, a12] := g8.set 9 z9
 have g10 : Blk _ p ta #[z0, z1, z2, z3, z4, z5, z6, z7, z8, z9, z10, a11, a12] := g9.set 10 z10
 have g11 : Blk _ p ta #[z0, z1, z2, z3, z4, z5, z6, z7, z8, z9, z10, z11, a12] := g10.set 11 z11
 have g12 : Blk _ p ta #[z0, z1, z2, z3, z4, z5, z6, z7, z8, z9, z10, z11, z12] := g11.set 12 z12
 exact g12
theorem rone_rev (w : World) (x : Int × Int) : OwnR (w.alloc (Obj.cells #[.int .i64 x.1, .int .i64 x.2] 161)) w.heap.size (.slice (some ⟨w.heap.size, 0, none⟩) 1 1) [x] := World.ownsRow_lit w #[.int .i64 x.1, .int .i64 x.2] 1 (Nat.le_refl _) (by decide) rfl
end Go.Proofs.YtjgbmnhoajiabaaGreatDoor
namespace Go.Proofs.YtjgbmnhoajiabaaGreatDoor
open Go.RowKit Der
set_option linter.unusedVariables false
def IsMap (w : World) (b : Nat) (es : Array MapEntry) (clock : Nat) : Prop := w.heap[b]? = some (.map es clock)
end Go.Proofs.YtjgbmnhoajiabaaGreatDoor
