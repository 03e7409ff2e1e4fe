/-
  DERIVED. GIVEN WITH THE SEED: THE CARDS: each row of YtcbjlbpkoneibaaGreatDoorRows.lean that lists a variable, with what it lists TIED to the program's text (the seventh form; the later family's looks); each row that meets fmt, with fmt's text TOLD by the authors' own Lean function (tested against real Go, not proved from fmt's source: count such statements apart). THE CARD IS WHAT COUNTS. Prove the row's statement (the work); the ties are given (YtcbjlbpkoneibaaGreatDoorTie.lean); close each card by the builder's one call (the guide's Derived/Test/ToyasCard.lean, 'card_holds'). Laid BY PROGRAM, IN A SANDBOX (cutbox-door.mjs). By AI agents, Wed Nov 11 2026. No macro, syntax, notation, axiom, sorry.
-/
import Derived.Test.YtcbjlbpkoneibaaGreatDoorRows
import GoSem.ClaimSeven
namespace Go.Proofs.YtcbjlbpkoneibaaGreatDoor
namespace Rows

/-- THE TIED CARD OF 'laws.FnCrls'. -/
def fnCrlsCard : Claim7 := { stood := { row := fnCrlsRow, standIns := [], harness := (true, "2791ba62d886b8a7f23b35b3b8dbd79fcbc0a792f9247e58820543dc3c4b5397"), looks := true }, kinds := [], alts := [], laidByText := true, laidKinds := [.data, .data, .data], laidTests := true, laidLooks := .later }
def FnCrlsCardSaid : Prop := Claim7.holds Tryz.pinned (.plain (OpenSpec.ofChange fnCrlsSpec)) fnCrlsCard

/-- THE SECOND FORM's CARD OF 'laws.FnCrls'. -/
def fnCrlsUptoCard : Claim7 := { stood := { row := fnCrlsUptoRow, standIns := [], harness := (true, "2791ba62d886b8a7f23b35b3b8dbd79fcbc0a792f9247e58820543dc3c4b5397"), looks := true }, kinds := [], alts := [], laidByText := true, laidKinds := [.data, .data, .data], laidTests := true, laidLooks := .later }
def FnCrlsUptoCardSaid : Prop := Claim7.holds Tryz.pinned (.plain (OpenSpec.upto fnCrlsSpec)) fnCrlsUptoCard
end Rows
end Go.Proofs.YtcbjlbpkoneibaaGreatDoor
