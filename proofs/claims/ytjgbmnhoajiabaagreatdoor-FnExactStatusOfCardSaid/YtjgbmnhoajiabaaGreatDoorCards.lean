/-
  DERIVED. GIVEN WITH THE SEED: THE CARDS: each row of YtjgbmnhoajiabaaGreatDoorRows.lean that lists a variable, with what it lists TIED to the program's text (the seventh form; the later family's looks); each row that meets fmt, with fmt's text TOLD by the authors' own Lean function (tested against real Go, not proved from fmt's source: count such statements apart). THE CARD IS WHAT COUNTS. Prove the row's statement (the work); the ties are given (YtjgbmnhoajiabaaGreatDoorTie.lean); close each card by the builder's one call (the guide's Derived/Test/ToyasCard.lean, 'card_holds'). Laid BY PROGRAM, IN A SANDBOX (cutbox-door.mjs). By AI agents, Wed Nov 11 2026. No macro, syntax, notation, axiom, sorry.
-/
import Derived.Test.YtjgbmnhoajiabaaGreatDoorRows
import GoSem.ClaimSeven
namespace Go.Proofs.YtjgbmnhoajiabaaGreatDoor
namespace Rows

/-- THE TIED CARD OF 'laws.FnCerts'. -/
def fnCertsCard : Claim7 := { stood := { row := fnCertsRow, standIns := [], harness := (true, "3361db57a41f8e42cfafae9b75b76719c2e5cd4bd6f5c673063a58d07d0e401a"), looks := true }, kinds := [], alts := [], laidByText := true, laidKinds := [.data, .data, .data], laidTests := true, laidLooks := .later }
def FnCertsCardSaid : Prop := Claim7.holds Tryz.pinned (.plain (OpenSpec.ofChange fnCertsSpec)) fnCertsCard

/-- THE TIED CARD OF 'laws.FnCrls'. -/
def fnCrlsCard : Claim7 := { stood := { row := fnCrlsRow, standIns := [], harness := (true, "3361db57a41f8e42cfafae9b75b76719c2e5cd4bd6f5c673063a58d07d0e401a"), looks := true }, kinds := [], alts := [], laidByText := true, laidKinds := [.data, .data, .data], laidTests := true, laidLooks := .later }
def FnCrlsCardSaid : Prop := Claim7.holds Tryz.pinned (.plain (OpenSpec.ofChange fnCrlsSpec)) fnCrlsCard

/-- THE TIED CARD OF 'laws.FnStatusTold'. -/
def fnStatusToldCard : Claim7 := { stood := { row := fnStatusToldRow, standIns := [], harness := (true, "3361db57a41f8e42cfafae9b75b76719c2e5cd4bd6f5c673063a58d07d0e401a"), looks := true }, kinds := [], alts := [], laidByText := true, laidKinds := [.data, .data], laidTests := true, laidLooks := .later }
def FnStatusToldCardSaid : Prop := Claim7.holds Tryz.pinned (.plain (OpenSpec.ofChange fnStatusToldSpec)) fnStatusToldCard

/-- THE TIED CARD OF 'laws.FnPaths'. -/
def fnPathsCard : Claim7 := { stood := { row := fnPathsRow, standIns := [], harness := (true, "3361db57a41f8e42cfafae9b75b76719c2e5cd4bd6f5c673063a58d07d0e401a"), looks := true }, kinds := [], alts := [], laidByText := true, laidKinds := [.data, .data], laidTests := true, laidLooks := .later }
def FnPathsCardSaid : Prop := Claim7.holds Tryz.pinned (.plain (OpenSpec.ofChange fnPathsSpec)) fnPathsCard

/-- THE TIED CARD OF 'laws.FnPathsShort'. -/
def fnPathsShortCard : Claim7 := { stood := { row := fnPathsShortRow, standIns := [], harness := (true, "3361db57a41f8e42cfafae9b75b76719c2e5cd4bd6f5c673063a58d07d0e401a"), looks := true }, kinds := [], alts := [], laidByText := true, laidKinds := [.data, .data], laidTests := true, laidLooks := .later }
def FnPathsShortCardSaid : Prop := Claim7.holds Tryz.pinned (.plain (OpenSpec.ofChange fnPathsShortSpec)) fnPathsShortCard

/-- THE TIED CARD OF 'laws.FnExactStatusOf'. -/
def fnExactStatusOfCard : Claim7 := { stood := { row := fnExactStatusOfRow, standIns := [], harness := (true, "3361db57a41f8e42cfafae9b75b76719c2e5cd4bd6f5c673063a58d07d0e401a"), looks := true }, kinds := [], alts := [], laidByText := true, laidKinds := [.data, .data], laidTests := true, laidLooks := .later }
def FnExactStatusOfCardSaid : Prop := Claim7.holds Tryz.pinned (.plain (OpenSpec.ofChange fnExactStatusOfSpec)) fnExactStatusOfCard

/-- THE TIED CARD OF 'laws.FnExactPathCode'. -/
def fnExactPathCodeCard : Claim7 := { stood := { row := fnExactPathCodeRow, standIns := [], harness := (true, "3361db57a41f8e42cfafae9b75b76719c2e5cd4bd6f5c673063a58d07d0e401a"), looks := true }, kinds := [], alts := [], laidByText := true, laidKinds := [.data, .data], laidTests := true, laidLooks := .later }
def FnExactPathCodeCardSaid : Prop := Claim7.holds Tryz.pinned (.plain (OpenSpec.ofChange fnExactPathCodeSpec)) fnExactPathCodeCard

/-- THE SECOND FORM's CARD OF 'laws.FnCerts'. -/
def fnCertsUptoCard : Claim7 := { stood := { row := fnCertsUptoRow, standIns := [], harness := (true, "3361db57a41f8e42cfafae9b75b76719c2e5cd4bd6f5c673063a58d07d0e401a"), looks := true }, kinds := [], alts := [], laidByText := true, laidKinds := [.data, .data, .data], laidTests := true, laidLooks := .later }
def FnCertsUptoCardSaid : Prop := Claim7.holds Tryz.pinned (.plain (OpenSpec.upto fnCertsSpec)) fnCertsUptoCard

/-- THE SECOND FORM's CARD OF 'laws.FnCrls'. -/
def fnCrlsUptoCard : Claim7 := { stood := { row := fnCrlsUptoRow, standIns := [], harness := (true, "3361db57a41f8e42cfafae9b75b76719c2e5cd4bd6f5c673063a58d07d0e401a"), looks := true }, kinds := [], alts := [], laidByText := true, laidKinds := [.data, .data, .data], laidTests := true, laidLooks := .later }
def FnCrlsUptoCardSaid : Prop := Claim7.holds Tryz.pinned (.plain (OpenSpec.upto fnCrlsSpec)) fnCrlsUptoCard

/-- THE SECOND FORM's CARD OF 'laws.FnStatusTold'. -/
def fnStatusToldUptoCard : Claim7 := { stood := { row := fnStatusToldUptoRow, standIns := [], harness := (true, "3361db57a41f8e42cfafae9b75b76719c2e5cd4bd6f5c673063a58d07d0e401a"), looks := true }, kinds := [], alts := [], laidByText := true, laidKinds := [.data, .data], laidTests := true, laidLooks := .later }
def FnStatusToldUptoCardSaid : Prop := Claim7.holds Tryz.pinned (.plain (OpenSpec.upto fnStatusToldSpec)) fnStatusToldUptoCard

/-- THE SECOND FORM's CARD OF 'laws.FnPaths'. -/
def fnPathsUptoCard : Claim7 := { stood := { row := fnPathsUptoRow, standIns := [], harness := (true, "3361db57a41f8e42cfafae9b75b76719c2e5cd4bd6f5c673063a58d07d0e401a"), looks := true }, kinds := [], alts := [], laidByText := true, laidKinds := [.data, .data], laidTests := true, laidLooks := .later }
def FnPathsUptoCardSaid : Prop := Claim7.holds Tryz.pinned (.plain (OpenSpec.upto fnPathsSpec)) fnPathsUptoCard

/-- THE SECOND FORM's CARD OF 'laws.FnPathsShort'. -/
def fnPathsShortUptoCard : Claim7 := { stood := { row := fnPathsShortUptoRow, standIns := [], harness := (true, "3361db57a41f8e42cfafae9b75b76719c2e5cd4bd6f5c673063a58d07d0e401a"), looks := true }, kinds := [], alts := [], laidByText := true, laidKinds := [.data, .data], laidTests := true, laidLooks := .later }
def FnPathsShortUptoCardSaid : Prop := Claim7.holds Tryz.pinned (.plain (OpenSpec.upto fnPathsShortSpec)) fnPathsShortUptoCard

/-- THE SECOND FORM's CARD OF 'laws.FnExactStatusOf'. -/
def fnExactStatusOfUptoCard : Claim7 := { stood := { row := fnExactStatusOfUptoRow, standIns := [], harness := (true, "3361db57a41f8e42cfafae9b75b76719c2e5cd4bd6f5c673063a58d07d0e401a"), looks := true }, kinds := [], alts := [], laidByText := true, laidKinds := [.data, .data], laidTests := true, laidLooks := .later }
def FnExactStatusOfUptoCardSaid : Prop := Claim7.holds Tryz.pinned (.plain (OpenSpec.upto fnExactStatusOfSpec)) fnExactStatusOfUptoCard

/-- THE SECOND FORM's CARD OF 'laws.FnExactPathCode'. -/
def fnExactPathCodeUptoCard : Claim7 := { stood := { row := fnExactPathCodeUptoRow, standIns := [], harness := (true, "3361db57a41f8e42cfafae9b75b76719c2e5cd4bd6f5c673063a58d07d0e401a"), looks := true }, kinds := [], alts := [], laidByText := true, laidKinds := [.data, .data], laidTests := true, laidLooks := .later }
def FnExactPathCodeUptoCardSaid : Prop := Claim7.holds Tryz.pinned (.plain (OpenSpec.upto fnExactPathCodeSpec)) fnExactPathCodeUptoCard
end Rows
end Go.Proofs.YtjgbmnhoajiabaaGreatDoor
