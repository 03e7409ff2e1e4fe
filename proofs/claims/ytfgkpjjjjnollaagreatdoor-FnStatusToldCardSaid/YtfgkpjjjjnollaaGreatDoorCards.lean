/-
  DERIVED. GIVEN WITH THE SEED: THE CARDS: each row of YtfgkpjjjjnollaaGreatDoorRows.lean that lists a variable, with what it lists TIED to the program's text (the seventh form; the later family's looks); each row that meets fmt, with fmt's text TOLD by the authors' own Lean function (tested against real Go, not proved from fmt's source: count such statements apart). THE CARD IS WHAT COUNTS. Prove the row's statement (the work); the ties are given (YtfgkpjjjjnollaaGreatDoorTie.lean); close each card by the builder's one call (the guide's Derived/Test/ToyasCard.lean, 'card_holds'). Laid BY PROGRAM, IN A SANDBOX (cutbox-door.mjs). By AI agents, Wed Nov 11 2026. No macro, syntax, notation, axiom, sorry.
-/
import Derived.Test.YtfgkpjjjjnollaaGreatDoorRows
import GoSem.ClaimSeven
namespace Go.Proofs.YtfgkpjjjjnollaaGreatDoor
namespace Rows

/-- THE TIED CARD OF 'laws.FnCerts'. -/
def fnCertsCard : Claim7 := { stood := { row := fnCertsRow, standIns := [], harness := (true, "c85926510c7412536081653a852a082075e37b66b998d7cd7514a29551f6d6b8"), looks := true }, kinds := [], alts := [], laidByText := true, laidKinds := [.data, .data, .data], laidTests := true, laidLooks := .later }
def FnCertsCardSaid : Prop := Claim7.holds Tryz.pinned (.plain (OpenSpec.ofChange fnCertsSpec)) fnCertsCard

/-- THE TIED CARD OF 'laws.FnCrls'. -/
def fnCrlsCard : Claim7 := { stood := { row := fnCrlsRow, standIns := [], harness := (true, "c85926510c7412536081653a852a082075e37b66b998d7cd7514a29551f6d6b8"), looks := true }, kinds := [], alts := [], laidByText := true, laidKinds := [.data, .data, .data], laidTests := true, laidLooks := .later }
def FnCrlsCardSaid : Prop := Claim7.holds Tryz.pinned (.plain (OpenSpec.ofChange fnCrlsSpec)) fnCrlsCard

/-- THE TIED CARD OF 'laws.FnStatuses'. -/
def fnStatusesCard : Claim7 := { stood := { row := fnStatusesRow, standIns := [], harness := (true, "c85926510c7412536081653a852a082075e37b66b998d7cd7514a29551f6d6b8"), looks := true }, kinds := [], alts := [], laidByText := true, laidKinds := [.data, .data], laidTests := true, laidLooks := .later }
def FnStatusesCardSaid : Prop := Claim7.holds Tryz.pinned (.plain (OpenSpec.ofChange fnStatusesSpec)) fnStatusesCard

/-- THE TIED CARD OF 'laws.FnStatusTold'. -/
def fnStatusToldCard : Claim7 := { stood := { row := fnStatusToldRow, standIns := [], harness := (true, "c85926510c7412536081653a852a082075e37b66b998d7cd7514a29551f6d6b8"), looks := true }, kinds := [], alts := [], laidByText := true, laidKinds := [.data, .data], laidTests := true, laidLooks := .later }
def FnStatusToldCardSaid : Prop := Claim7.holds Tryz.pinned (.plain (OpenSpec.ofChange fnStatusToldSpec)) fnStatusToldCard

/-- THE TIED CARD OF 'laws.FnExactSignedCrl'. -/
def fnExactSignedCrlCard : Claim7 := { stood := { row := fnExactSignedCrlRow, standIns := [], harness := (true, "c85926510c7412536081653a852a082075e37b66b998d7cd7514a29551f6d6b8"), looks := true }, kinds := [], alts := [], laidByText := true, laidKinds := [.data, .data, .data], laidTests := true, laidLooks := .later }
def FnExactSignedCrlCardSaid : Prop := Claim7.holds Tryz.pinned (.plain (OpenSpec.ofChange fnExactSignedCrlSpec)) fnExactSignedCrlCard

/-- THE TIED CARD OF 'laws.FnExactCrlsOf'. -/
def fnExactCrlsOfCard : Claim7 := { stood := { row := fnExactCrlsOfRow, standIns := [], harness := (true, "c85926510c7412536081653a852a082075e37b66b998d7cd7514a29551f6d6b8"), looks := true }, kinds := [], alts := [], laidByText := true, laidKinds := [.data, .data], laidTests := true, laidLooks := .later }
def FnExactCrlsOfCardSaid : Prop := Claim7.holds Tryz.pinned (.plain (OpenSpec.ofChange fnExactCrlsOfSpec)) fnExactCrlsOfCard

/-- THE TIED CARD OF 'laws.FnExactStatusOf'. -/
def fnExactStatusOfCard : Claim7 := { stood := { row := fnExactStatusOfRow, standIns := [], harness := (true, "c85926510c7412536081653a852a082075e37b66b998d7cd7514a29551f6d6b8"), looks := true }, kinds := [], alts := [], laidByText := true, laidKinds := [.data, .data], laidTests := true, laidLooks := .later }
def FnExactStatusOfCardSaid : Prop := Claim7.holds Tryz.pinned (.plain (OpenSpec.ofChange fnExactStatusOfSpec)) fnExactStatusOfCard

/-- THE SECOND FORM's CARD OF 'laws.FnCerts'. -/
def fnCertsUptoCard : Claim7 := { stood := { row := fnCertsUptoRow, standIns := [], harness := (true, "c85926510c7412536081653a852a082075e37b66b998d7cd7514a29551f6d6b8"), looks := true }, kinds := [], alts := [], laidByText := true, laidKinds := [.data, .data, .data], laidTests := true, laidLooks := .later }
def FnCertsUptoCardSaid : Prop := Claim7.holds Tryz.pinned (.plain (OpenSpec.upto fnCertsSpec)) fnCertsUptoCard

/-- THE SECOND FORM's CARD OF 'laws.FnCrls'. -/
def fnCrlsUptoCard : Claim7 := { stood := { row := fnCrlsUptoRow, standIns := [], harness := (true, "c85926510c7412536081653a852a082075e37b66b998d7cd7514a29551f6d6b8"), looks := true }, kinds := [], alts := [], laidByText := true, laidKinds := [.data, .data, .data], laidTests := true, laidLooks := .later }
def FnCrlsUptoCardSaid : Prop := Claim7.holds Tryz.pinned (.plain (OpenSpec.upto fnCrlsSpec)) fnCrlsUptoCard

/-- THE SECOND FORM's CARD OF 'laws.FnStatuses'. -/
def fnStatusesUptoCard : Claim7 := { stood := { row := fnStatusesUptoRow, standIns := [], harness := (true, "c85926510c7412536081653a852a082075e37b66b998d7cd7514a29551f6d6b8"), looks := true }, kinds := [], alts := [], laidByText := true, laidKinds := [.data, .data], laidTests := true, laidLooks := .later }
def FnStatusesUptoCardSaid : Prop := Claim7.holds Tryz.pinned (.plain (OpenSpec.upto fnStatusesSpec)) fnStatusesUptoCard

/-- THE SECOND FORM's CARD OF 'laws.FnStatusTold'. -/
def fnStatusToldUptoCard : Claim7 := { stood := { row := fnStatusToldUptoRow, standIns := [], harness := (true, "c85926510c7412536081653a852a082075e37b66b998d7cd7514a29551f6d6b8"), looks := true }, kinds := [], alts := [], laidByText := true, laidKinds := [.data, .data], laidTests := true, laidLooks := .later }
def FnStatusToldUptoCardSaid : Prop := Claim7.holds Tryz.pinned (.plain (OpenSpec.upto fnStatusToldSpec)) fnStatusToldUptoCard

/-- THE SECOND FORM's CARD OF 'laws.FnExactSignedCrl'. -/
def fnExactSignedCrlUptoCard : Claim7 := { stood := { row := fnExactSignedCrlUptoRow, standIns := [], harness := (true, "c85926510c7412536081653a852a082075e37b66b998d7cd7514a29551f6d6b8"), looks := true }, kinds := [], alts := [], laidByText := true, laidKinds := [.data, .data, .data], laidTests := true, laidLooks := .later }
def FnExactSignedCrlUptoCardSaid : Prop := Claim7.holds Tryz.pinned (.plain (OpenSpec.upto fnExactSignedCrlSpec)) fnExactSignedCrlUptoCard

/-- THE SECOND FORM's CARD OF 'laws.FnExactCrlsOf'. -/
def fnExactCrlsOfUptoCard : Claim7 := { stood := { row := fnExactCrlsOfUptoRow, standIns := [], harness := (true, "c85926510c7412536081653a852a082075e37b66b998d7cd7514a29551f6d6b8"), looks := true }, kinds := [], alts := [], laidByText := true, laidKinds := [.data, .data], laidTests := true, laidLooks := .later }
def FnExactCrlsOfUptoCardSaid : Prop := Claim7.holds Tryz.pinned (.plain (OpenSpec.upto fnExactCrlsOfSpec)) fnExactCrlsOfUptoCard

/-- THE SECOND FORM's CARD OF 'laws.FnExactStatusOf'. -/
def fnExactStatusOfUptoCard : Claim7 := { stood := { row := fnExactStatusOfUptoRow, standIns := [], harness := (true, "c85926510c7412536081653a852a082075e37b66b998d7cd7514a29551f6d6b8"), looks := true }, kinds := [], alts := [], laidByText := true, laidKinds := [.data, .data], laidTests := true, laidLooks := .later }
def FnExactStatusOfUptoCardSaid : Prop := Claim7.holds Tryz.pinned (.plain (OpenSpec.upto fnExactStatusOfSpec)) fnExactStatusOfUptoCard
end Rows
end Go.Proofs.YtfgkpjjjjnollaaGreatDoor
