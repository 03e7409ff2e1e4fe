/-
  DERIVED. GIVEN WITH THE SEED: THE CARDS: each row of YtnakaeaejfpmkaaGreatDoorRows.lean that lists a variable, with what it lists TIED to the program's text (the seventh form; the later family's looks); each row that meets fmt, with fmt's text TOLD by the authors' own Lean function (tested against real Go, not proved from fmt's source: count such statements apart). THE CARD IS WHAT COUNTS. Prove the row's statement (the work); the ties are given (YtnakaeaejfpmkaaGreatDoorTie.lean); close each card by the builder's one call (the guide's Derived/Test/ToyasCard.lean, 'card_holds'). Laid BY PROGRAM, IN A SANDBOX (cutbox-door.mjs). By AI agents, Wed Nov 11 2026. No macro, syntax, notation, axiom, sorry.
-/
import Derived.Test.YtnakaeaejfpmkaaGreatDoorRows
import GoSem.ClaimSeven
namespace Go.Proofs.YtnakaeaejfpmkaaGreatDoor
namespace Rows

/-- THE TIED CARD OF 'laws.FnCerts'. -/
def fnCertsCard : Claim7 := { stood := { row := fnCertsRow, standIns := [], harness := (true, "09f153b1a38be3f8555d852f7a61f8cbaf96e38e6c6d41e8fe0a37be227c36bb"), looks := true }, kinds := [], alts := [], laidByText := true, laidKinds := [.data, .data, .data], laidTests := true, laidLooks := .later }
def FnCertsCardSaid : Prop := Claim7.holds Tryz.pinned (.plain (OpenSpec.ofChange fnCertsSpec)) fnCertsCard

/-- THE TIED CARD OF 'laws.FnCrls'. -/
def fnCrlsCard : Claim7 := { stood := { row := fnCrlsRow, standIns := [], harness := (true, "09f153b1a38be3f8555d852f7a61f8cbaf96e38e6c6d41e8fe0a37be227c36bb"), looks := true }, kinds := [], alts := [], laidByText := true, laidKinds := [.data, .data, .data], laidTests := true, laidLooks := .later }
def FnCrlsCardSaid : Prop := Claim7.holds Tryz.pinned (.plain (OpenSpec.ofChange fnCrlsSpec)) fnCrlsCard

/-- THE TIED CARD OF 'laws.FnExactSigned'. -/
def fnExactSignedCard : Claim7 := { stood := { row := fnExactSignedRow, standIns := [], harness := (true, "09f153b1a38be3f8555d852f7a61f8cbaf96e38e6c6d41e8fe0a37be227c36bb"), looks := true }, kinds := [], alts := [], laidByText := true, laidKinds := [.data, .data, .data], laidTests := true, laidLooks := .later }
def FnExactSignedCardSaid : Prop := Claim7.holds Tryz.pinned (.plain (OpenSpec.ofChange fnExactSignedSpec)) fnExactSignedCard

/-- THE TIED CARD OF 'laws.FnExactSignedCrl'. -/
def fnExactSignedCrlCard : Claim7 := { stood := { row := fnExactSignedCrlRow, standIns := [], harness := (true, "09f153b1a38be3f8555d852f7a61f8cbaf96e38e6c6d41e8fe0a37be227c36bb"), looks := true }, kinds := [], alts := [], laidByText := true, laidKinds := [.data, .data, .data], laidTests := true, laidLooks := .later }
def FnExactSignedCrlCardSaid : Prop := Claim7.holds Tryz.pinned (.plain (OpenSpec.ofChange fnExactSignedCrlSpec)) fnExactSignedCrlCard

/-- THE SECOND FORM's CARD OF 'laws.FnCerts'. -/
def fnCertsUptoCard : Claim7 := { stood := { row := fnCertsUptoRow, standIns := [], harness := (true, "09f153b1a38be3f8555d852f7a61f8cbaf96e38e6c6d41e8fe0a37be227c36bb"), looks := true }, kinds := [], alts := [], laidByText := true, laidKinds := [.data, .data, .data], laidTests := true, laidLooks := .later }
def FnCertsUptoCardSaid : Prop := Claim7.holds Tryz.pinned (.plain (OpenSpec.upto fnCertsSpec)) fnCertsUptoCard

/-- THE SECOND FORM's CARD OF 'laws.FnCrls'. -/
def fnCrlsUptoCard : Claim7 := { stood := { row := fnCrlsUptoRow, standIns := [], harness := (true, "09f153b1a38be3f8555d852f7a61f8cbaf96e38e6c6d41e8fe0a37be227c36bb"), looks := true }, kinds := [], alts := [], laidByText := true, laidKinds := [.data, .data, .data], laidTests := true, laidLooks := .later }
def FnCrlsUptoCardSaid : Prop := Claim7.holds Tryz.pinned (.plain (OpenSpec.upto fnCrlsSpec)) fnCrlsUptoCard

/-- THE SECOND FORM's CARD OF 'laws.FnExactSigned'. -/
def fnExactSignedUptoCard : Claim7 := { stood := { row := fnExactSignedUptoRow, standIns := [], harness := (true, "09f153b1a38be3f8555d852f7a61f8cbaf96e38e6c6d41e8fe0a37be227c36bb"), looks := true }, kinds := [], alts := [], laidByText := true, laidKinds := [.data, .data, .data], laidTests := true, laidLooks := .later }
def FnExactSignedUptoCardSaid : Prop := Claim7.holds Tryz.pinned (.plain (OpenSpec.upto fnExactSignedSpec)) fnExactSignedUptoCard

/-- THE SECOND FORM's CARD OF 'laws.FnExactSignedCrl'. -/
def fnExactSignedCrlUptoCard : Claim7 := { stood := { row := fnExactSignedCrlUptoRow, standIns := [], harness := (true, "09f153b1a38be3f8555d852f7a61f8cbaf96e38e6c6d41e8fe0a37be227c36bb"), looks := true }, kinds := [], alts := [], laidByText := true, laidKinds := [.data, .data, .data], laidTests := true, laidLooks := .later }
def FnExactSignedCrlUptoCardSaid : Prop := Claim7.holds Tryz.pinned (.plain (OpenSpec.upto fnExactSignedCrlSpec)) fnExactSignedCrlUptoCard
end Rows
end Go.Proofs.YtnakaeaejfpmkaaGreatDoor
