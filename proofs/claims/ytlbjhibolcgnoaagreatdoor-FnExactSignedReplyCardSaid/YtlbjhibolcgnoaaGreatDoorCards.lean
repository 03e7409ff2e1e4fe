/-
  DERIVED. GIVEN WITH THE SEED: THE CARDS: each row of YtlbjhibolcgnoaaGreatDoorRows.lean that lists a variable, with what it lists TIED to the program's text (the seventh form; the later family's looks); each row that meets fmt, with fmt's text TOLD by the authors' own Lean function (tested against real Go, not proved from fmt's source: count such statements apart). THE CARD IS WHAT COUNTS. Prove the row's statement (the work); the ties are given (YtlbjhibolcgnoaaGreatDoorTie.lean); close each card by the builder's one call (the guide's Derived/Test/ToyasCard.lean, 'card_holds'). Laid BY PROGRAM, IN A SANDBOX (cutbox-door.mjs). By AI agents, Wed Nov 11 2026. No macro, syntax, notation, axiom, sorry.
-/
import Derived.Test.YtlbjhibolcgnoaaGreatDoorRows
import GoSem.ClaimSeven
namespace Go.Proofs.YtlbjhibolcgnoaaGreatDoor
namespace Rows

/-- THE TIED CARD OF 'laws.FnExactSignedReply'. -/
def fnExactSignedReplyCard : Claim7 := { stood := { row := fnExactSignedReplyRow, standIns := [], harness := (true, "2239c9ca4c28a55b4f307dd57b06d435fc4867dd44f192aeacfde7133f2b7775"), looks := true }, kinds := [], alts := [], laidByText := true, laidKinds := [.data, .data, .data], laidTests := true, laidLooks := .later }
def FnExactSignedReplyCardSaid : Prop := Claim7.holds Tryz.pinned (.plain (OpenSpec.ofChange fnExactSignedReplySpec)) fnExactSignedReplyCard

/-- THE SECOND FORM's CARD OF 'laws.FnExactSignedReply'. -/
def fnExactSignedReplyUptoCard : Claim7 := { stood := { row := fnExactSignedReplyUptoRow, standIns := [], harness := (true, "2239c9ca4c28a55b4f307dd57b06d435fc4867dd44f192aeacfde7133f2b7775"), looks := true }, kinds := [], alts := [], laidByText := true, laidKinds := [.data, .data, .data], laidTests := true, laidLooks := .later }
def FnExactSignedReplyUptoCardSaid : Prop := Claim7.holds Tryz.pinned (.plain (OpenSpec.upto fnExactSignedReplySpec)) fnExactSignedReplyUptoCard
end Rows
end Go.Proofs.YtlbjhibolcgnoaaGreatDoor
