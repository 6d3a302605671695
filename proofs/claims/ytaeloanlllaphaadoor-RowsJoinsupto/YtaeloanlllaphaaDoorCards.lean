/-
  DERIVED. GIVEN WITH THE SEED: THE CARDS: each row of YtaeloanlllaphaaDoorRows.lean that lists a variable, with what it lists TIED to the program's text (the seventh form; the later family's looks); each row that meets fmt, with fmt's text TOLD by the authors' own Lean function (tested against real Go, not proved from fmt's source: count such statements apart). THE CARD IS WHAT COUNTS. Prove the row's statement (the work); the ties are given (YtaeloanlllaphaaDoorTie.lean); close each card by the builder's one call (the guide's Derived/Test/ToyasCard.lean, 'card_holds'). Laid BY PROGRAM, IN A SANDBOX (cutbox-door.mjs). By AI agents, Wed Nov 11 2026. No macro, syntax, notation, axiom, sorry.
-/
import Derived.Test.YtaeloanlllaphaaDoorRows
import GoSem.ClaimSeven
namespace Go.Proofs.YtaeloanlllaphaaDoor
namespace Rows

/-- THE TIED CARD OF 'deducelaw.RowsSets'. -/
def rowsSetsCard : Claim7 := { stood := { row := rowsSetsRow, standIns := [], harness := (true, "5ad2f793a14828ddb0f38d27a5e55f58adfc9f03dcfc5e1b69ceefe90cb0bf7b"), looks := false }, kinds := [], alts := [], laidByText := true, laidKinds := [.data, .data, .data], laidTests := true, laidLooks := .later }
def RowsSetsCardSaid : Prop := Claim7.holds Tryd.pinned (.plain (OpenSpec.ofChange rowsSetsSpec)) rowsSetsCard

/-- THE TIED CARD OF 'deducelaw.RowsJoins'. -/
def rowsJoinsCard : Claim7 := { stood := { row := rowsJoinsRow, standIns := [], harness := (true, "5ad2f793a14828ddb0f38d27a5e55f58adfc9f03dcfc5e1b69ceefe90cb0bf7b"), looks := false }, kinds := [], alts := [], laidByText := true, laidKinds := [.data, .data, .data], laidTests := true, laidLooks := .later }
def RowsJoinsCardSaid : Prop := Claim7.holds Tryd.pinned (.plain (OpenSpec.ofChange rowsJoinsSpec)) rowsJoinsCard

/-- THE TIED CARD OF 'deducelaw.RowsLaws'. -/
def rowsLawsCard : Claim7 := { stood := { row := rowsLawsRow, standIns := [], harness := (true, "5ad2f793a14828ddb0f38d27a5e55f58adfc9f03dcfc5e1b69ceefe90cb0bf7b"), looks := false }, kinds := [], alts := [], laidByText := true, laidKinds := [.data, .data, .data], laidTests := true, laidLooks := .later }
def RowsLawsCardSaid : Prop := Claim7.holds Tryd.pinned (.plain (OpenSpec.ofChange rowsLawsSpec)) rowsLawsCard

/-- THE SECOND FORM's CARD OF 'deducelaw.RowsSets'. -/
def rowsSetsUptoCard : Claim7 := { stood := { row := rowsSetsUptoRow, standIns := [], harness := (true, "5ad2f793a14828ddb0f38d27a5e55f58adfc9f03dcfc5e1b69ceefe90cb0bf7b"), looks := false }, kinds := [], alts := [], laidByText := true, laidKinds := [.data, .data, .data], laidTests := true, laidLooks := .later }
def RowsSetsUptoCardSaid : Prop := Claim7.holds Tryd.pinned (.plain (OpenSpec.upto rowsSetsSpec)) rowsSetsUptoCard

/-- THE SECOND FORM's CARD OF 'deducelaw.RowsJoins'. -/
def rowsJoinsUptoCard : Claim7 := { stood := { row := rowsJoinsUptoRow, standIns := [], harness := (true, "5ad2f793a14828ddb0f38d27a5e55f58adfc9f03dcfc5e1b69ceefe90cb0bf7b"), looks := false }, kinds := [], alts := [], laidByText := true, laidKinds := [.data, .data, .data], laidTests := true, laidLooks := .later }
def RowsJoinsUptoCardSaid : Prop := Claim7.holds Tryd.pinned (.plain (OpenSpec.upto rowsJoinsSpec)) rowsJoinsUptoCard

/-- THE SECOND FORM's CARD OF 'deducelaw.RowsLaws'. -/
def rowsLawsUptoCard : Claim7 := { stood := { row := rowsLawsUptoRow, standIns := [], harness := (true, "5ad2f793a14828ddb0f38d27a5e55f58adfc9f03dcfc5e1b69ceefe90cb0bf7b"), looks := false }, kinds := [], alts := [], laidByText := true, laidKinds := [.data, .data, .data], laidTests := true, laidLooks := .later }
def RowsLawsUptoCardSaid : Prop := Claim7.holds Tryd.pinned (.plain (OpenSpec.upto rowsLawsSpec)) rowsLawsUptoCard
end Rows
end Go.Proofs.YtaeloanlllaphaaDoor
