/-
  DERIVED. GIVEN WITH THE SEED: THE CARDS: each row of YtmjojahkbjlcdaaDoorRows.lean that lists a variable, with what it lists TIED to the program's text (the seventh form; the later family's looks); each row that meets fmt, with fmt's text TOLD by the authors' own Lean function (tested against real Go, not proved from fmt's source: count such statements apart). THE CARD IS WHAT COUNTS. Prove the row's statement (the work); the ties are given (YtmjojahkbjlcdaaDoorTie.lean); close each card by the builder's one call (the guide's Derived/Test/ToyasCard.lean, 'card_holds'). Laid BY PROGRAM, IN A SANDBOX (cutbox-door.mjs). By AI agents, Wed Nov 11 2026. No macro, syntax, notation, axiom, sorry.
-/
import Derived.Test.YtmjojahkbjlcdaaDoorRows
import GoSem.ClaimSeven
namespace Go.Proofs.YtmjojahkbjlcdaaDoor
namespace Rows

/-- THE TIED CARD OF 'rootstocklaw05.RegsChecks'. -/
def regsChecksCard : Claim7 := { stood := { row := regsChecksRow, standIns := [], harness := (true, "b5f659c7874909f7598cad3e3c5dd01df14912f8a630f75017047cc98a6a6038"), looks := true }, kinds := [], alts := [], laidByText := true, laidKinds := [.data], laidTests := true, laidLooks := .later }
def RegsChecksCardSaid : Prop := Claim7.holds Tryd.pinned (.plain (OpenSpec.ofChange regsChecksSpec)) regsChecksCard

/-- THE TIED CARD OF 'rootstocklaw05.RegsParses'. -/
def regsParsesCard : Claim7 := { stood := { row := regsParsesRow, standIns := [], harness := (true, "b5f659c7874909f7598cad3e3c5dd01df14912f8a630f75017047cc98a6a6038"), looks := true }, kinds := [], alts := [], laidByText := true, laidKinds := [.data], laidTests := true, laidLooks := .later }
def RegsParsesCardSaid : Prop := Claim7.holds Tryd.pinned (.plain (OpenSpec.ofChange regsParsesSpec)) regsParsesCard

/-- THE TIED CARD OF 'rootstocklaw05.RegsPrints'. -/
def regsPrintsCard : Claim7 := { stood := { row := regsPrintsRow, standIns := [], harness := (true, "b5f659c7874909f7598cad3e3c5dd01df14912f8a630f75017047cc98a6a6038"), looks := true }, kinds := [], alts := [], laidByText := true, laidKinds := [.data], laidTests := true, laidLooks := .later }
def RegsPrintsCardSaid : Prop := Claim7.holds Tryd.pinned (.plain (OpenSpec.ofChange regsPrintsSpec)) regsPrintsCard

/-- THE TIED CARD OF 'rootstocklaw05.RegsMatches'. -/
def regsMatchesCard : Claim7 := { stood := { row := regsMatchesRow, standIns := [], harness := (true, "b5f659c7874909f7598cad3e3c5dd01df14912f8a630f75017047cc98a6a6038"), looks := true }, kinds := [], alts := [], laidByText := true, laidKinds := [.data], laidTests := true, laidLooks := .later }
def RegsMatchesCardSaid : Prop := Claim7.holds Tryd.pinned (.plain (OpenSpec.ofChange regsMatchesSpec)) regsMatchesCard

/-- THE TIED CARD OF 'rootstocklaw05.RegsBack'. -/
def regsBackCard : Claim7 := { stood := { row := regsBackRow, standIns := [], harness := (true, "b5f659c7874909f7598cad3e3c5dd01df14912f8a630f75017047cc98a6a6038"), looks := true }, kinds := [], alts := [], laidByText := true, laidKinds := [.data], laidTests := true, laidLooks := .later }
def RegsBackCardSaid : Prop := Claim7.holds Tryd.pinned (.plain (OpenSpec.ofChange regsBackSpec)) regsBackCard

/-- THE TIED CARD OF 'rootstocklaw05.RegsTold'. -/
def regsToldCard : Claim7 := { stood := { row := regsToldRow, standIns := [], harness := (true, "b5f659c7874909f7598cad3e3c5dd01df14912f8a630f75017047cc98a6a6038"), looks := true }, kinds := [], alts := [], laidByText := true, laidKinds := [.data], laidTests := true, laidLooks := .later }
def RegsToldCardSaid : Prop := Claim7.holds Tryd.pinned (.plain (OpenSpec.ofChange regsToldSpec)) regsToldCard

/-- THE TIED CARD OF 'rootstocklaw05.RegsParts'. -/
def regsPartsCard : Claim7 := { stood := { row := regsPartsRow, standIns := [], harness := (true, "b5f659c7874909f7598cad3e3c5dd01df14912f8a630f75017047cc98a6a6038"), looks := true }, kinds := [], alts := [], laidByText := true, laidKinds := [.data], laidTests := true, laidLooks := .later }
def RegsPartsCardSaid : Prop := Claim7.holds Tryd.pinned (.plain (OpenSpec.ofChange regsPartsSpec)) regsPartsCard

/-- THE TIED CARD OF 'rootstocklaw05.RegsAgain'. -/
def regsAgainCard : Claim7 := { stood := { row := regsAgainRow, standIns := [], harness := (true, "b5f659c7874909f7598cad3e3c5dd01df14912f8a630f75017047cc98a6a6038"), looks := true }, kinds := [], alts := [], laidByText := true, laidKinds := [.data], laidTests := true, laidLooks := .later }
def RegsAgainCardSaid : Prop := Claim7.holds Tryd.pinned (.plain (OpenSpec.ofChange regsAgainSpec)) regsAgainCard

/-- THE TIED CARD OF 'rootstocklaw05.RegsWrap'. -/
def regsWrapCard : Claim7 := { stood := { row := regsWrapRow, standIns := [], harness := (true, "b5f659c7874909f7598cad3e3c5dd01df14912f8a630f75017047cc98a6a6038"), looks := true }, kinds := [], alts := [], laidByText := true, laidKinds := [.data], laidTests := true, laidLooks := .later }
def RegsWrapCardSaid : Prop := Claim7.holds Tryd.pinned (.plain (OpenSpec.ofChange regsWrapSpec)) regsWrapCard

/-- THE TIED CARD OF 'rootstocklaw05.RegsRow'. -/
def regsRowCard : Claim7 := { stood := { row := regsRowRow, standIns := [], harness := (true, "b5f659c7874909f7598cad3e3c5dd01df14912f8a630f75017047cc98a6a6038"), looks := true }, kinds := [], alts := [], laidByText := true, laidKinds := [.data], laidTests := true, laidLooks := .later }
def RegsRowCardSaid : Prop := Claim7.holds Tryd.pinned (.plain (OpenSpec.ofChange regsRowSpec)) regsRowCard

/-- THE SECOND FORM's CARD OF 'rootstocklaw05.RegsChecks'. -/
def regsChecksUptoCard : Claim7 := { stood := { row := regsChecksUptoRow, standIns := [], harness := (true, "b5f659c7874909f7598cad3e3c5dd01df14912f8a630f75017047cc98a6a6038"), looks := true }, kinds := [], alts := [], laidByText := true, laidKinds := [.data], laidTests := true, laidLooks := .later }
def RegsChecksUptoCardSaid : Prop := Claim7.holds Tryd.pinned (.plain (OpenSpec.upto regsChecksSpec)) regsChecksUptoCard

/-- THE SECOND FORM's CARD OF 'rootstocklaw05.RegsParses'. -/
def regsParsesUptoCard : Claim7 := { stood := { row := regsParsesUptoRow, standIns := [], harness := (true, "b5f659c7874909f7598cad3e3c5dd01df14912f8a630f75017047cc98a6a6038"), looks := true }, kinds := [], alts := [], laidByText := true, laidKinds := [.data], laidTests := true, laidLooks := .later }
def RegsParsesUptoCardSaid : Prop := Claim7.holds Tryd.pinned (.plain (OpenSpec.upto regsParsesSpec)) regsParsesUptoCard

/-- THE SECOND FORM's CARD OF 'rootstocklaw05.RegsPrints'. -/
def regsPrintsUptoCard : Claim7 := { stood := { row := regsPrintsUptoRow, standIns := [], harness := (true, "b5f659c7874909f7598cad3e3c5dd01df14912f8a630f75017047cc98a6a6038"), looks := true }, kinds := [], alts := [], laidByText := true, laidKinds := [.data], laidTests := true, laidLooks := .later }
def RegsPrintsUptoCardSaid : Prop := Claim7.holds Tryd.pinned (.plain (OpenSpec.upto regsPrintsSpec)) regsPrintsUptoCard

/-- THE SECOND FORM's CARD OF 'rootstocklaw05.RegsMatches'. -/
def regsMatchesUptoCard : Claim7 := { stood := { row := regsMatchesUptoRow, standIns := [], harness := (true, "b5f659c7874909f7598cad3e3c5dd01df14912f8a630f75017047cc98a6a6038"), looks := true }, kinds := [], alts := [], laidByText := true, laidKinds := [.data], laidTests := true, laidLooks := .later }
def RegsMatchesUptoCardSaid : Prop := Claim7.holds Tryd.pinned (.plain (OpenSpec.upto regsMatchesSpec)) regsMatchesUptoCard

/-- THE SECOND FORM's CARD OF 'rootstocklaw05.RegsBack'. -/
def regsBackUptoCard : Claim7 := { stood := { row := regsBackUptoRow, standIns := [], harness := (true, "b5f659c7874909f7598cad3e3c5dd01df14912f8a630f75017047cc98a6a6038"), looks := true }, kinds := [], alts := [], laidByText := true, laidKinds := [.data], laidTests := true, laidLooks := .later }
def RegsBackUptoCardSaid : Prop := Claim7.holds Tryd.pinned (.plain (OpenSpec.upto regsBackSpec)) regsBackUptoCard

/-- THE SECOND FORM's CARD OF 'rootstocklaw05.RegsTold'. -/
def regsToldUptoCard : Claim7 := { stood := { row := regsToldUptoRow, standIns := [], harness := (true, "b5f659c7874909f7598cad3e3c5dd01df14912f8a630f75017047cc98a6a6038"), looks := true }, kinds := [], alts := [], laidByText := true, laidKinds := [.data], laidTests := true, laidLooks := .later }
def RegsToldUptoCardSaid : Prop := Claim7.holds Tryd.pinned (.plain (OpenSpec.upto regsToldSpec)) regsToldUptoCard

/-- THE SECOND FORM's CARD OF 'rootstocklaw05.RegsParts'. -/
def regsPartsUptoCard : Claim7 := { stood := { row := regsPartsUptoRow, standIns := [], harness := (true, "b5f659c7874909f7598cad3e3c5dd01df14912f8a630f75017047cc98a6a6038"), looks := true }, kinds := [], alts := [], laidByText := true, laidKinds := [.data], laidTests := true, laidLooks := .later }
def RegsPartsUptoCardSaid : Prop := Claim7.holds Tryd.pinned (.plain (OpenSpec.upto regsPartsSpec)) regsPartsUptoCard

/-- THE SECOND FORM's CARD OF 'rootstocklaw05.RegsAgain'. -/
def regsAgainUptoCard : Claim7 := { stood := { row := regsAgainUptoRow, standIns := [], harness := (true, "b5f659c7874909f7598cad3e3c5dd01df14912f8a630f75017047cc98a6a6038"), looks := true }, kinds := [], alts := [], laidByText := true, laidKinds := [.data], laidTests := true, laidLooks := .later }
def RegsAgainUptoCardSaid : Prop := Claim7.holds Tryd.pinned (.plain (OpenSpec.upto regsAgainSpec)) regsAgainUptoCard

/-- THE SECOND FORM's CARD OF 'rootstocklaw05.RegsWrap'. -/
def regsWrapUptoCard : Claim7 := { stood := { row := regsWrapUptoRow, standIns := [], harness := (true, "b5f659c7874909f7598cad3e3c5dd01df14912f8a630f75017047cc98a6a6038"), looks := true }, kinds := [], alts := [], laidByText := true, laidKinds := [.data], laidTests := true, laidLooks := .later }
def RegsWrapUptoCardSaid : Prop := Claim7.holds Tryd.pinned (.plain (OpenSpec.upto regsWrapSpec)) regsWrapUptoCard

/-- THE SECOND FORM's CARD OF 'rootstocklaw05.RegsRow'. -/
def regsRowUptoCard : Claim7 := { stood := { row := regsRowUptoRow, standIns := [], harness := (true, "b5f659c7874909f7598cad3e3c5dd01df14912f8a630f75017047cc98a6a6038"), looks := true }, kinds := [], alts := [], laidByText := true, laidKinds := [.data], laidTests := true, laidLooks := .later }
def RegsRowUptoCardSaid : Prop := Claim7.holds Tryd.pinned (.plain (OpenSpec.upto regsRowSpec)) regsRowUptoCard
end Rows
end Go.Proofs.YtmjojahkbjlcdaaDoor
