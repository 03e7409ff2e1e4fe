/-
  DERIVED. GIVEN WITH THE SEED: THE CARDS: each row of YtieabkmfhpnahabDoorRows.lean that lists a variable, with what it lists TIED to the program's text (the seventh form; the later family's looks); each row that meets fmt, with fmt's text TOLD by the authors' own Lean function (tested against real Go, not proved from fmt's source: count such statements apart). THE CARD IS WHAT COUNTS. Prove the row's statement (the work); the ties are given (YtieabkmfhpnahabDoorTie.lean); close each card by the builder's one call (the guide's Derived/Test/ToyasCard.lean, 'card_holds'). Laid BY PROGRAM, IN A SANDBOX (cutbox-door.mjs). By AI agents, Wed Nov 11 2026. No macro, syntax, notation, axiom, sorry.
-/
import Derived.Test.YtieabkmfhpnahabDoorRows
import GoSem.ClaimSeven
namespace Go.Proofs.YtieabkmfhpnahabDoor
namespace Rows

/-- THE TIED CARD OF 'laws.FnExactCutDigest'. -/
def fnExactCutDigestCard : Claim7 := { stood := { row := fnExactCutDigestRow, standIns := [], harness := (true, "6ce9123cf96016946fafbd2d6ad04978406b5e6c3977e2816d6a988721f1eae5"), looks := false }, kinds := [], alts := [], laidByText := true, laidKinds := [.data, .data], laidTests := true, laidLooks := .later }
def FnExactCutDigestCardSaid : Prop := Claim7.holds Tryd.pinned (.plain (OpenSpec.ofChange fnExactCutDigestSpec)) fnExactCutDigestCard

/-- THE SECOND FORM's CARD OF 'laws.FnExactCutDigest'. -/
def fnExactCutDigestUptoCard : Claim7 := { stood := { row := fnExactCutDigestUptoRow, standIns := [], harness := (true, "6ce9123cf96016946fafbd2d6ad04978406b5e6c3977e2816d6a988721f1eae5"), looks := false }, kinds := [], alts := [], laidByText := true, laidKinds := [.data, .data], laidTests := true, laidLooks := .later }
def FnExactCutDigestUptoCardSaid : Prop := Claim7.holds Tryd.pinned (.plain (OpenSpec.upto fnExactCutDigestSpec)) fnExactCutDigestUptoCard
end Rows
end Go.Proofs.YtieabkmfhpnahabDoor
