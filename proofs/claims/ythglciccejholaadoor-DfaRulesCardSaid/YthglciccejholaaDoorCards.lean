/-
  DERIVED. GIVEN WITH THE SEED: THE CARDS: each row of YthglciccejholaaDoorRows.lean that lists a variable, with what it lists TIED to the program's text (the seventh form; the later family's looks); each row that meets fmt, with fmt's text TOLD by the authors' own Lean function (tested against real Go, not proved from fmt's source: count such statements apart). THE CARD IS WHAT COUNTS. Prove the row's statement (the work); the ties are given (YthglciccejholaaDoorTie.lean); close each card by the builder's one call (the guide's Derived/Test/ToyasCard.lean, 'card_holds'). Laid BY PROGRAM, IN A SANDBOX (cutbox-door.mjs). By AI agents, Wed Nov 11 2026. No macro, syntax, notation, axiom, sorry.
-/
import Derived.Test.YthglciccejholaaDoorRows
import GoSem.ClaimSeven
namespace Go.Proofs.YthglciccejholaaDoor
namespace Rows

/-- THE TIED CARD OF 'rootstocklaw06.NfaOne'. -/
def nfaOneCard : Claim7 := { stood := { row := nfaOneRow, standIns := [], harness := (true, "07c5db6d6a55e9eb3fad945402a4f75e65311b76b0f1e1d554cabccacba78997"), looks := false }, kinds := [], alts := [], laidByText := true, laidKinds := [.data], laidTests := true, laidLooks := .later }
def NfaOneCardSaid : Prop := Claim7.holds Tryd.pinned (.plain (OpenSpec.ofChange nfaOneSpec)) nfaOneCard

/-- THE TIED CARD OF 'rootstocklaw07.DfaChecks'. -/
def dfaChecksCard : Claim7 := { stood := { row := dfaChecksRow, standIns := [], harness := (true, "07c5db6d6a55e9eb3fad945402a4f75e65311b76b0f1e1d554cabccacba78997"), looks := false }, kinds := [], alts := [], laidByText := true, laidKinds := [.data], laidTests := true, laidLooks := .later }
def DfaChecksCardSaid : Prop := Claim7.holds Tryd.pinned (.plain (OpenSpec.ofChange dfaChecksSpec)) dfaChecksCard

/-- THE TIED CARD OF 'rootstocklaw07.DfaMakes'. -/
def dfaMakesCard : Claim7 := { stood := { row := dfaMakesRow, standIns := [], harness := (true, "07c5db6d6a55e9eb3fad945402a4f75e65311b76b0f1e1d554cabccacba78997"), looks := false }, kinds := [], alts := [], laidByText := true, laidKinds := [.data], laidTests := true, laidLooks := .later }
def DfaMakesCardSaid : Prop := Claim7.holds Tryd.pinned (.plain (OpenSpec.ofChange dfaMakesSpec)) dfaMakesCard

/-- THE TIED CARD OF 'rootstocklaw07.DfaRuns'. -/
def dfaRunsCard : Claim7 := { stood := { row := dfaRunsRow, standIns := [], harness := (true, "07c5db6d6a55e9eb3fad945402a4f75e65311b76b0f1e1d554cabccacba78997"), looks := false }, kinds := [], alts := [], laidByText := true, laidKinds := [.data], laidTests := true, laidLooks := .later }
def DfaRunsCardSaid : Prop := Claim7.holds Tryd.pinned (.plain (OpenSpec.ofChange dfaRunsSpec)) dfaRunsCard

/-- THE TIED CARD OF 'rootstocklaw07.DfaTells'. -/
def dfaTellsCard : Claim7 := { stood := { row := dfaTellsRow, standIns := [], harness := (true, "07c5db6d6a55e9eb3fad945402a4f75e65311b76b0f1e1d554cabccacba78997"), looks := false }, kinds := [], alts := [], laidByText := true, laidKinds := [.data], laidTests := true, laidLooks := .later }
def DfaTellsCardSaid : Prop := Claim7.holds Tryd.pinned (.plain (OpenSpec.ofChange dfaTellsSpec)) dfaTellsCard

/-- THE TIED CARD OF 'rootstocklaw07.DfaRules'. -/
def dfaRulesCard : Claim7 := { stood := { row := dfaRulesRow, standIns := [], harness := (true, "07c5db6d6a55e9eb3fad945402a4f75e65311b76b0f1e1d554cabccacba78997"), looks := false }, kinds := [], alts := [], laidByText := true, laidKinds := [.data], laidTests := true, laidLooks := .later }
def DfaRulesCardSaid : Prop := Claim7.holds Tryd.pinned (.plain (OpenSpec.ofChange dfaRulesSpec)) dfaRulesCard

/-- THE TIED CARD OF 'rootstocklaw07.DfaReaches'. -/
def dfaReachesCard : Claim7 := { stood := { row := dfaReachesRow, standIns := [], harness := (true, "07c5db6d6a55e9eb3fad945402a4f75e65311b76b0f1e1d554cabccacba78997"), looks := false }, kinds := [], alts := [], laidByText := true, laidKinds := [.data], laidTests := true, laidLooks := .later }
def DfaReachesCardSaid : Prop := Claim7.holds Tryd.pinned (.plain (OpenSpec.ofChange dfaReachesSpec)) dfaReachesCard

/-- THE TIED CARD OF 'rootstocklaw07.DfaJoins'. -/
def dfaJoinsCard : Claim7 := { stood := { row := dfaJoinsRow, standIns := [], harness := (true, "07c5db6d6a55e9eb3fad945402a4f75e65311b76b0f1e1d554cabccacba78997"), looks := false }, kinds := [], alts := [], laidByText := true, laidKinds := [.data], laidTests := true, laidLooks := .later }
def DfaJoinsCardSaid : Prop := Claim7.holds Tryd.pinned (.plain (OpenSpec.ofChange dfaJoinsSpec)) dfaJoinsCard

/-- THE TIED CARD OF 'rootstocklaw07.DfaTurned'. -/
def dfaTurnedCard : Claim7 := { stood := { row := dfaTurnedRow, standIns := [], harness := (true, "07c5db6d6a55e9eb3fad945402a4f75e65311b76b0f1e1d554cabccacba78997"), looks := false }, kinds := [], alts := [], laidByText := true, laidKinds := [.data], laidTests := true, laidLooks := .later }
def DfaTurnedCardSaid : Prop := Claim7.holds Tryd.pinned (.plain (OpenSpec.ofChange dfaTurnedSpec)) dfaTurnedCard

/-- THE SECOND FORM's CARD OF 'rootstocklaw06.NfaOne'. -/
def nfaOneUptoCard : Claim7 := { stood := { row := nfaOneUptoRow, standIns := [], harness := (true, "07c5db6d6a55e9eb3fad945402a4f75e65311b76b0f1e1d554cabccacba78997"), looks := false }, kinds := [], alts := [], laidByText := true, laidKinds := [.data], laidTests := true, laidLooks := .later }
def NfaOneUptoCardSaid : Prop := Claim7.holds Tryd.pinned (.plain (OpenSpec.upto nfaOneSpec)) nfaOneUptoCard

/-- THE SECOND FORM's CARD OF 'rootstocklaw07.DfaChecks'. -/
def dfaChecksUptoCard : Claim7 := { stood := { row := dfaChecksUptoRow, standIns := [], harness := (true, "07c5db6d6a55e9eb3fad945402a4f75e65311b76b0f1e1d554cabccacba78997"), looks := false }, kinds := [], alts := [], laidByText := true, laidKinds := [.data], laidTests := true, laidLooks := .later }
def DfaChecksUptoCardSaid : Prop := Claim7.holds Tryd.pinned (.plain (OpenSpec.upto dfaChecksSpec)) dfaChecksUptoCard

/-- THE SECOND FORM's CARD OF 'rootstocklaw07.DfaMakes'. -/
def dfaMakesUptoCard : Claim7 := { stood := { row := dfaMakesUptoRow, standIns := [], harness := (true, "07c5db6d6a55e9eb3fad945402a4f75e65311b76b0f1e1d554cabccacba78997"), looks := false }, kinds := [], alts := [], laidByText := true, laidKinds := [.data], laidTests := true, laidLooks := .later }
def DfaMakesUptoCardSaid : Prop := Claim7.holds Tryd.pinned (.plain (OpenSpec.upto dfaMakesSpec)) dfaMakesUptoCard

/-- THE SECOND FORM's CARD OF 'rootstocklaw07.DfaRuns'. -/
def dfaRunsUptoCard : Claim7 := { stood := { row := dfaRunsUptoRow, standIns := [], harness := (true, "07c5db6d6a55e9eb3fad945402a4f75e65311b76b0f1e1d554cabccacba78997"), looks := false }, kinds := [], alts := [], laidByText := true, laidKinds := [.data], laidTests := true, laidLooks := .later }
def DfaRunsUptoCardSaid : Prop := Claim7.holds Tryd.pinned (.plain (OpenSpec.upto dfaRunsSpec)) dfaRunsUptoCard

/-- THE SECOND FORM's CARD OF 'rootstocklaw07.DfaTells'. -/
def dfaTellsUptoCard : Claim7 := { stood := { row := dfaTellsUptoRow, standIns := [], harness := (true, "07c5db6d6a55e9eb3fad945402a4f75e65311b76b0f1e1d554cabccacba78997"), looks := false }, kinds := [], alts := [], laidByText := true, laidKinds := [.data], laidTests := true, laidLooks := .later }
def DfaTellsUptoCardSaid : Prop := Claim7.holds Tryd.pinned (.plain (OpenSpec.upto dfaTellsSpec)) dfaTellsUptoCard

/-- THE SECOND FORM's CARD OF 'rootstocklaw07.DfaRules'. -/
def dfaRulesUptoCard : Claim7 := { stood := { row := dfaRulesUptoRow, standIns := [], harness := (true, "07c5db6d6a55e9eb3fad945402a4f75e65311b76b0f1e1d554cabccacba78997"), looks := false }, kinds := [], alts := [], laidByText := true, laidKinds := [.data], laidTests := true, laidLooks := .later }
def DfaRulesUptoCardSaid : Prop := Claim7.holds Tryd.pinned (.plain (OpenSpec.upto dfaRulesSpec)) dfaRulesUptoCard

/-- THE SECOND FORM's CARD OF 'rootstocklaw07.DfaReaches'. -/
def dfaReachesUptoCard : Claim7 := { stood := { row := dfaReachesUptoRow, standIns := [], harness := (true, "07c5db6d6a55e9eb3fad945402a4f75e65311b76b0f1e1d554cabccacba78997"), looks := false }, kinds := [], alts := [], laidByText := true, laidKinds := [.data], laidTests := true, laidLooks := .later }
def DfaReachesUptoCardSaid : Prop := Claim7.holds Tryd.pinned (.plain (OpenSpec.upto dfaReachesSpec)) dfaReachesUptoCard

/-- THE SECOND FORM's CARD OF 'rootstocklaw07.DfaJoins'. -/
def dfaJoinsUptoCard : Claim7 := { stood := { row := dfaJoinsUptoRow, standIns := [], harness := (true, "07c5db6d6a55e9eb3fad945402a4f75e65311b76b0f1e1d554cabccacba78997"), looks := false }, kinds := [], alts := [], laidByText := true, laidKinds := [.data], laidTests := true, laidLooks := .later }
def DfaJoinsUptoCardSaid : Prop := Claim7.holds Tryd.pinned (.plain (OpenSpec.upto dfaJoinsSpec)) dfaJoinsUptoCard

/-- THE SECOND FORM's CARD OF 'rootstocklaw07.DfaTurned'. -/
def dfaTurnedUptoCard : Claim7 := { stood := { row := dfaTurnedUptoRow, standIns := [], harness := (true, "07c5db6d6a55e9eb3fad945402a4f75e65311b76b0f1e1d554cabccacba78997"), looks := false }, kinds := [], alts := [], laidByText := true, laidKinds := [.data], laidTests := true, laidLooks := .later }
def DfaTurnedUptoCardSaid : Prop := Claim7.holds Tryd.pinned (.plain (OpenSpec.upto dfaTurnedSpec)) dfaTurnedUptoCard
end Rows
end Go.Proofs.YthglciccejholaaDoor
