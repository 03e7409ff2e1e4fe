/-
  Texts of the proof, one behind the other: DrP, DrB, DrC.
-/
import Derived.Test.YtfgkpjjjjnollaaGreatDoorST10
import Derived.Test.YtfgkpjjjjnollaaGreatDoorST12
import Derived.Test.YtfgkpjjjjnollaaGreatDoorST17
import Derived.Test.YtfgkpjjjjnollaaGreatDoorST22
import Derived.Test.YtfgkpjjjjnollaaGreatDoorST43
import Derived.Test.YtfgkpjjjjnollaaGreatDoorST44

/-
  Plain: lists as items tell them: kid by kid, as the program reads them, and all at once, as the specification does; of a right item both tell the one list whose item it is.
-/
namespace Go.Proofs.YtfgkpjjjjnollaaGreatDoor
open Go.RowKit Der
set_option linter.unusedVariables false

/-- A list's head, and what is behind it. -/
def headP {m : Nat} (ks : List (It (m + 3))) : Option (Cl × List (It (m + 3))) := (txtP 12 ks).bind fun a0 => (numP a0.2).bind fun a1 => (numP a1.2).bind fun a2 => (numP a2.2).bind fun a3 => (numP a3.2).bind fun a4 => some (⟨a0.1, a1.1, a2.1, a3.1, a4.1, [], ⟨#[]⟩⟩, a4.2)
end Go.Proofs.YtfgkpjjjjnollaaGreatDoor

/-
  The program's rowIn of what was called back.
-/
namespace Go.Proofs.YtfgkpjjjjnollaaGreatDoor
open Go.RowKit Der
set_option linter.unusedVariables false
set_option linter.unusedSimpArgs false

theorem rone_rev (w : World) (x : Int × Int) : OwnR (w.alloc (Obj.cells #[.int .i64 x.1, .int .i64 x.2] 145)) w.heap.size (.slice (some ⟨w.heap.size, 0, none⟩) 1 1) [x] := World.ownsRow_lit w #[.int .i64 x.1, .int .i64 x.2] 1 (Nat.le_refl _) (by decide) rfl
end Go.Proofs.YtfgkpjjjjnollaaGreatDoor

/-
  The program's tidings: what is signed of a list; withSig.
-/
namespace Go.Proofs.YtfgkpjjjjnollaaGreatDoor
open Go.RowKit Der
set_option linter.unusedVariables false
set_option linter.unusedSimpArgs false

theorem SzL.head {m : Nat} {ks r : List (It (m + 3))} {c : Cl} (h : SzL ks) (hn : headP ks = some (c, r)) : SzL r := by
  unfold headP at hn
  obtain ⟨a0, h0, hn⟩ := Option.bind_eq_some_iff.1 hn
  obtain ⟨a1, h1, hn⟩ := Option.bind_eq_some_iff.1 hn
  obtain ⟨a2, h2, hn⟩ := Option.bind_eq_some_iff.1 hn
  obtain ⟨a3, h3, hn⟩ := Option.bind_eq_some_iff.1 hn
  obtain ⟨a4, h4, hn⟩ := Option.bind_eq_some_iff.1 hn
  simp only [Option.some.injEq, Prod.mk.injEq] at hn
  rw [← hn.2]
  exact ((((h.txt h0).num h1).num h2).num h3).num h4
end Go.Proofs.YtfgkpjjjjnollaaGreatDoor
