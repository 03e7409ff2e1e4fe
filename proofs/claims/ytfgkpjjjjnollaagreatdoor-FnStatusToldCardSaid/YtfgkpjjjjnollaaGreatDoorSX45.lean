/-
  Texts of the proof, one behind the other: CsB, DrP, DrB.
-/
import Derived.Recover
import Derived.Test.YtfgkpjjjjnollaaGreatDoorSX10
import Derived.Test.YtfgkpjjjjnollaaGreatDoorSX12
import Derived.Test.YtfgkpjjjjnollaaGreatDoorSX17
import Derived.Test.YtfgkpjjjjnollaaGreatDoorSX22
import Derived.Test.YtfgkpjjjjnollaaGreatDoorSX43
import Derived.Test.YtfgkpjjjjnollaaGreatDoorSX44

/-
  The program's letterIn: the letter that an item tells, or none, a reader's panic being caught.
-/
namespace Go.Proofs.YtfgkpjjjjnollaaGreatDoor
open Go.RowKit Der
set_option linter.unusedVariables false
set_option linter.unusedSimpArgs false

theorem set13 {V0 : World} {p : Nat} {ta : TypeId} {a0 a1 a2 a3 a4 a5 a6 a7 a8 a9 a10 a11 a12 z0 z1 z2 z3 z4 z5 z6 z7 z8 z9 z10 z11 z12 : Value} (h : Blk V0 p ta #[a0, a1, a2, a3, a4, a5, a6, a7, a8, a9, a10, a11, a12]) : Blk (((((((((((((V0.setCell ⟨p, 0, none⟩ z0).setCell ⟨p, 1, none⟩ z1).setCell ⟨p, 2, none⟩ z2).setCell ⟨p, 3, none⟩ z3).setCell ⟨p, 4, none⟩ z4).setCell ⟨p, 5, none⟩ z5).setCell ⟨p, 6, none⟩ z6).setCell ⟨p, 7, none⟩ z7).setCell ⟨p, 8, none⟩ z8).setCell ⟨p, 9, none⟩ z9).setCell ⟨p, 10, none⟩ z10).setCell ⟨p, 11, none⟩ z11).setCell ⟨p, 12, none⟩ z12) p ta #[z0, z1, z2, z3, z4, z5, z6, z7, z8, z9, z10, z11, z12] := by
  have g0 : Blk _ p ta #[z0, a1, a2, a3, a4, a5, a6, a7, a8, a9, a10, a11, a12] := h.set 0 z0
  have g1 : Blk _ p ta #[z0, z1, a2, a3, a4, a5, a6, a7, a8, a9, a10, a11, a12] := g0.set 1 z1
  have g2 : Blk _ p ta #[z0, z1, z2, a3, a4, a5, a6, a7, a8, a9, a10, a11, a12] := g1.set 2 z2
  have g3 : Blk _ p ta #[z0, z1, z2, z3, a4, a5, a6, a7, a8, a9, a10, a11, a12] := g2.set 3 z3
  have g4 : Blk _ p ta #[z0, z1, z2, z3, z4, a5, a6, a7, a8, a9, a10, a11, a12] := g3.set 4 z4
  have g5 : Blk _ p ta #[z0, z1, z2, z3, z4, z5, a6, a7, a8, a9, a10, a11, a12] := g4.set 5 z5
  have g6 : Blk _ p ta #[z0, z1, z2, z3, z4, z5, z6, a7, a8, a9, a10, a11, a12] := g5.set 6 z6
  have g7 : Blk _ p ta #[z0, z1, z2, z3, z4, z5, z6, z7, a8, a9, a10, a11, a12] := g6.set 7 z7
  have g8 : Blk _ p ta #[z0, z1, z2, z3, z4, z5, z6, z7, z8, a9, a10, a11, a12] := g7.set 8 z8
  have g9 : Blk _ p ta #[z0, z1, z2, z3, z4, z5, z6, z7, z8, z9, a10, a11, a12] := g8.set 9 z9
  have g10 : Blk _ p ta #[z0, z1, z2, z3, z4, z5, z6, z7, z8, z9, z10, a11, a12] := g9.set 10 z10
  have g11 : Blk _ p ta #[z0, z1, z2, z3, z4, z5, z6, z7, z8, z9, z10, z11, a12] := g10.set 11 z11
  have g12 : Blk _ p ta #[z0, z1, z2, z3, z4, z5, z6, z7, z8, z9, z10, z11, z12] := g11.set 12 z12
  exact g12
end Go.Proofs.YtfgkpjjjjnollaaGreatDoor

/-
  Plain: lists as items tell them: kid by kid, as the program reads them, and all at once, as the specification does; of a right item both tell the one list whose item it is.
-/
namespace Go.Proofs.YtfgkpjjjjnollaaGreatDoor
open Go.RowKit Der
set_option linter.unusedVariables false

/-- A list's head, and what is behind it. -/
def headP {m : Nat} (ks : List (It (m + 3))) : Option (Cl × List (It (m + 3))) := (txtP 12 ks).bind fun a0 => (numP a0.2).bind fun a1 => (numP a1.2).bind fun a2 => (numP a2.2).bind fun a3 => (numP a3.2).bind fun a4 => some (⟨a0.1, a1.1, a2.1, a3.1, a4.1, [], ⟨#[]⟩⟩, a4.2)
end Go.Proofs.YtfgkpjjjjnollaaGreatDoor

/-
  The program's rowIn of what was called back.
-/
namespace Go.Proofs.YtfgkpjjjjnollaaGreatDoor
open Go.RowKit Der
set_option linter.unusedVariables false
set_option linter.unusedSimpArgs false

theorem rone_rev (w : World) (x : Int × Int) : OwnR (w.alloc (Obj.cells #[.int .i64 x.1, .int .i64 x.2] 145)) w.heap.size (.slice (some ⟨w.heap.size, 0, none⟩) 1 1) [x] := World.ownsRow_lit w #[.int .i64 x.1, .int .i64 x.2] 1 (Nat.le_refl _) (by decide) rfl
end Go.Proofs.YtfgkpjjjjnollaaGreatDoor
