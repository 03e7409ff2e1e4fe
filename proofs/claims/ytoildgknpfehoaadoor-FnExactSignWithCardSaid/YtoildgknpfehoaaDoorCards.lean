/-
  DERIVED. GIVEN WITH THE SEED: THE CARDS: each row of YtoildgknpfehoaaDoorRows.lean that lists a variable, with what it lists TIED to the program's text (the seventh form; the later family's looks); each row that meets fmt, with fmt's text TOLD by the authors' own Lean function (tested against real Go, not proved from fmt's source: count such statements apart). THE CARD IS WHAT COUNTS. Prove the row's statement (the work); the ties are given (YtoildgknpfehoaaDoorTie.lean); close each card by the builder's one call (the guide's Derived/Test/ToyasCard.lean, 'card_holds'). Laid BY PROGRAM, IN A SANDBOX (cutbox-door.mjs). By AI agents, Wed Nov 11 2026. No macro, syntax, notation, axiom, sorry.
-/
import Derived.Test.YtoildgknpfehoaaDoorRows
import GoSem.ClaimSeven
namespace Go.Proofs.YtoildgknpfehoaaDoor
namespace Rows

/-- THE TIED CARD OF 'laws.FnExactPublicAt'. -/
def fnExactPublicAtCard : Claim7 := { stood := { row := fnExactPublicAtRow, standIns := [], harness := (true, "f3bf03df88c7890b78b77895707d7f1b443bb3162faffd9de33a71fc7a74c5de"), looks := false }, kinds := [], alts := [], laidByText := true, laidKinds := [.data], laidTests := true, laidLooks := .later }
def FnExactPublicAtCardSaid : Prop := Claim7.holds Tryd.pinned (.plain (OpenSpec.ofChange fnExactPublicAtSpec)) fnExactPublicAtCard

/-- THE TIED CARD OF 'laws.FnExactSecretAt'. -/
def fnExactSecretAtCard : Claim7 := { stood := { row := fnExactSecretAtRow, standIns := [], harness := (true, "f3bf03df88c7890b78b77895707d7f1b443bb3162faffd9de33a71fc7a74c5de"), looks := false }, kinds := [], alts := [], laidByText := true, laidKinds := [.data], laidTests := true, laidLooks := .later }
def FnExactSecretAtCardSaid : Prop := Claim7.holds Tryd.pinned (.plain (OpenSpec.ofChange fnExactSecretAtSpec)) fnExactSecretAtCard

/-- THE TIED CARD OF 'laws.FnExactPadded'. -/
def fnExactPaddedCard : Claim7 := { stood := { row := fnExactPaddedRow, standIns := [], harness := (true, "f3bf03df88c7890b78b77895707d7f1b443bb3162faffd9de33a71fc7a74c5de"), looks := false }, kinds := [], alts := [], laidByText := true, laidKinds := [.data, .data], laidTests := true, laidLooks := .later }
def FnExactPaddedCardSaid : Prop := Claim7.holds Tryd.pinned (.plain (OpenSpec.ofChange fnExactPaddedSpec)) fnExactPaddedCard

/-- THE TIED CARD OF 'laws.FnExactSignWith'. -/
def fnExactSignWithCard : Claim7 := { stood := { row := fnExactSignWithRow, standIns := [], harness := (true, "f3bf03df88c7890b78b77895707d7f1b443bb3162faffd9de33a71fc7a74c5de"), looks := false }, kinds := [], alts := [], laidByText := true, laidKinds := [.data, .data, .data], laidTests := true, laidLooks := .later }
def FnExactSignWithCardSaid : Prop := Claim7.holds Tryd.pinned (.plain (OpenSpec.ofChange fnExactSignWithSpec)) fnExactSignWithCard

/-- THE TIED CARD OF 'laws.FnExactSigOk'. -/
def fnExactSigOkCard : Claim7 := { stood := { row := fnExactSigOkRow, standIns := [], harness := (true, "f3bf03df88c7890b78b77895707d7f1b443bb3162faffd9de33a71fc7a74c5de"), looks := false }, kinds := [], alts := [], laidByText := true, laidKinds := [.data, .data], laidTests := true, laidLooks := .later }
def FnExactSigOkCardSaid : Prop := Claim7.holds Tryd.pinned (.plain (OpenSpec.ofChange fnExactSigOkSpec)) fnExactSigOkCard

/-- THE SECOND FORM's CARD OF 'laws.FnExactPublicAt'. -/
def fnExactPublicAtUptoCard : Claim7 := { stood := { row := fnExactPublicAtUptoRow, standIns := [], harness := (true, "f3bf03df88c7890b78b77895707d7f1b443bb3162faffd9de33a71fc7a74c5de"), looks := false }, kinds := [], alts := [], laidByText := true, laidKinds := [.data], laidTests := true, laidLooks := .later }
def FnExactPublicAtUptoCardSaid : Prop := Claim7.holds Tryd.pinned (.plain (OpenSpec.upto fnExactPublicAtSpec)) fnExactPublicAtUptoCard

/-- THE SECOND FORM's CARD OF 'laws.FnExactSecretAt'. -/
def fnExactSecretAtUptoCard : Claim7 := { stood := { row := fnExactSecretAtUptoRow, standIns := [], harness := (true, "f3bf03df88c7890b78b77895707d7f1b443bb3162faffd9de33a71fc7a74c5de"), looks := false }, kinds := [], alts := [], laidByText := true, laidKinds := [.data], laidTests := true, laidLooks := .later }
def FnExactSecretAtUptoCardSaid : Prop := Claim7.holds Tryd.pinned (.plain (OpenSpec.upto fnExactSecretAtSpec)) fnExactSecretAtUptoCard

/-- THE SECOND FORM's CARD OF 'laws.FnExactPadded'. -/
def fnExactPaddedUptoCard : Claim7 := { stood := { row := fnExactPaddedUptoRow, standIns := [], harness := (true, "f3bf03df88c7890b78b77895707d7f1b443bb3162faffd9de33a71fc7a74c5de"), looks := false }, kinds := [], alts := [], laidByText := true, laidKinds := [.data, .data], laidTests := true, laidLooks := .later }
def FnExactPaddedUptoCardSaid : Prop := Claim7.holds Tryd.pinned (.plain (OpenSpec.upto fnExactPaddedSpec)) fnExactPaddedUptoCard

/-- THE SECOND FORM's CARD OF 'laws.FnExactSignWith'. -/
def fnExactSignWithUptoCard : Claim7 := { stood := { row := fnExactSignWithUptoRow, standIns := [], harness := (true, "f3bf03df88c7890b78b77895707d7f1b443bb3162faffd9de33a71fc7a74c5de"), looks := false }, kinds := [], alts := [], laidByText := true, laidKinds := [.data, .data, .data], laidTests := true, laidLooks := .later }
def FnExactSignWithUptoCardSaid : Prop := Claim7.holds Tryd.pinned (.plain (OpenSpec.upto fnExactSignWithSpec)) fnExactSignWithUptoCard

/-- THE SECOND FORM's CARD OF 'laws.FnExactSigOk'. -/
def fnExactSigOkUptoCard : Claim7 := { stood := { row := fnExactSigOkUptoRow, standIns := [], harness := (true, "f3bf03df88c7890b78b77895707d7f1b443bb3162faffd9de33a71fc7a74c5de"), looks := false }, kinds := [], alts := [], laidByText := true, laidKinds := [.data, .data], laidTests := true, laidLooks := .later }
def FnExactSigOkUptoCardSaid : Prop := Claim7.holds Tryd.pinned (.plain (OpenSpec.upto fnExactSigOkSpec)) fnExactSigOkUptoCard
end Rows
end Go.Proofs.YtoildgknpfehoaaDoor
