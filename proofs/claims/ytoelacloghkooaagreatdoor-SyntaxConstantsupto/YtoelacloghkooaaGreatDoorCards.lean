/-
  DERIVED. GIVEN WITH THE SEED: THE CARDS: each row of YtoelacloghkooaaGreatDoorRows.lean that lists a variable, with what it lists TIED to the program's text (the seventh form; the later family's looks); each row that meets fmt, with fmt's text TOLD by the authors' own Lean function (tested against real Go, not proved from fmt's source: count such statements apart). THE CARD IS WHAT COUNTS. Prove the row's statement (the work); the ties are given (YtoelacloghkooaaGreatDoorTie.lean); close each card by the builder's one call (the guide's Derived/Test/ToyasCard.lean, 'card_holds'). Laid BY PROGRAM, IN A SANDBOX (cutbox-door.mjs). By AI agents, Wed Nov 11 2026. No macro, syntax, notation, axiom, sorry.
-/
import Derived.Test.YtoelacloghkooaaGreatDoorRows
import GoSem.ClaimSeven
namespace Go.Proofs.YtoelacloghkooaaGreatDoor
namespace Rows

/-- THE TIED CARD OF 'deducelaw.SyntaxPrints'. -/
def syntaxPrintsCard : Claim7 := { stood := { row := syntaxPrintsRow, standIns := [], harness := (true, "cfcb53588514f27978adbe2f82b98f34de6bd898aed77f215757f06619925f0e"), looks := true }, kinds := [], alts := [], laidByText := true, laidKinds := [.handle, .sentinel, .sentinel, .sentinel, .data], laidTests := true, laidLooks := .later }
def SyntaxPrintsCardSaid : Prop := Claim7.holds Tryz.pinned (.plain (OpenSpec.ofChange syntaxPrintsSpec)) syntaxPrintsCard

/-- THE TIED CARD OF 'deducelaw.SyntaxAgain'. -/
def syntaxAgainCard : Claim7 := { stood := { row := syntaxAgainRow, standIns := [], harness := (true, "cfcb53588514f27978adbe2f82b98f34de6bd898aed77f215757f06619925f0e"), looks := true }, kinds := [], alts := [], laidByText := true, laidKinds := [.handle, .sentinel, .sentinel, .sentinel, .data], laidTests := true, laidLooks := .later }
def SyntaxAgainCardSaid : Prop := Claim7.holds Tryz.pinned (.plain (OpenSpec.ofChange syntaxAgainSpec)) syntaxAgainCard

/-- THE TIED CARD OF 'deducelaw.SyntaxConstants'. -/
def syntaxConstantsCard : Claim7 := { stood := { row := syntaxConstantsRow, standIns := [], harness := (true, "cfcb53588514f27978adbe2f82b98f34de6bd898aed77f215757f06619925f0e"), looks := true }, kinds := [], alts := [], laidByText := true, laidKinds := [.handle, .sentinel, .sentinel, .sentinel, .data], laidTests := true, laidLooks := .later }
def SyntaxConstantsCardSaid : Prop := Claim7.holds Tryz.pinned (.plain (OpenSpec.ofChange syntaxConstantsSpec)) syntaxConstantsCard

/-- THE TIED CARD OF 'deducelaw.SyntaxRemarks'. -/
def syntaxRemarksCard : Claim7 := { stood := { row := syntaxRemarksRow, standIns := [], harness := (true, "cfcb53588514f27978adbe2f82b98f34de6bd898aed77f215757f06619925f0e"), looks := true }, kinds := [], alts := [], laidByText := true, laidKinds := [.handle, .sentinel, .sentinel, .sentinel, .data], laidTests := true, laidLooks := .later }
def SyntaxRemarksCardSaid : Prop := Claim7.holds Tryz.pinned (.plain (OpenSpec.ofChange syntaxRemarksSpec)) syntaxRemarksCard

/-- THE TIED CARD OF 'deducelaw.SyntaxJoined'. -/
def syntaxJoinedCard : Claim7 := { stood := { row := syntaxJoinedRow, standIns := [], harness := (true, "cfcb53588514f27978adbe2f82b98f34de6bd898aed77f215757f06619925f0e"), looks := true }, kinds := [], alts := [], laidByText := true, laidKinds := [.handle, .sentinel, .sentinel, .sentinel, .data], laidTests := true, laidLooks := .later }
def SyntaxJoinedCardSaid : Prop := Claim7.holds Tryz.pinned (.plain (OpenSpec.ofChange syntaxJoinedSpec)) syntaxJoinedCard

/-- THE SECOND FORM's CARD OF 'deducelaw.SyntaxPrints'. -/
def syntaxPrintsUptoCard : Claim7 := { stood := { row := syntaxPrintsUptoRow, standIns := [], harness := (true, "cfcb53588514f27978adbe2f82b98f34de6bd898aed77f215757f06619925f0e"), looks := true }, kinds := [], alts := [], laidByText := true, laidKinds := [.handle, .sentinel, .sentinel, .sentinel, .data], laidTests := true, laidLooks := .later }
def SyntaxPrintsUptoCardSaid : Prop := Claim7.holds Tryz.pinned (.plain (OpenSpec.upto syntaxPrintsSpec)) syntaxPrintsUptoCard

/-- THE SECOND FORM's CARD OF 'deducelaw.SyntaxAgain'. -/
def syntaxAgainUptoCard : Claim7 := { stood := { row := syntaxAgainUptoRow, standIns := [], harness := (true, "cfcb53588514f27978adbe2f82b98f34de6bd898aed77f215757f06619925f0e"), looks := true }, kinds := [], alts := [], laidByText := true, laidKinds := [.handle, .sentinel, .sentinel, .sentinel, .data], laidTests := true, laidLooks := .later }
def SyntaxAgainUptoCardSaid : Prop := Claim7.holds Tryz.pinned (.plain (OpenSpec.upto syntaxAgainSpec)) syntaxAgainUptoCard

/-- THE SECOND FORM's CARD OF 'deducelaw.SyntaxConstants'. -/
def syntaxConstantsUptoCard : Claim7 := { stood := { row := syntaxConstantsUptoRow, standIns := [], harness := (true, "cfcb53588514f27978adbe2f82b98f34de6bd898aed77f215757f06619925f0e"), looks := true }, kinds := [], alts := [], laidByText := true, laidKinds := [.handle, .sentinel, .sentinel, .sentinel, .data], laidTests := true, laidLooks := .later }
def SyntaxConstantsUptoCardSaid : Prop := Claim7.holds Tryz.pinned (.plain (OpenSpec.upto syntaxConstantsSpec)) syntaxConstantsUptoCard

/-- THE SECOND FORM's CARD OF 'deducelaw.SyntaxRemarks'. -/
def syntaxRemarksUptoCard : Claim7 := { stood := { row := syntaxRemarksUptoRow, standIns := [], harness := (true, "cfcb53588514f27978adbe2f82b98f34de6bd898aed77f215757f06619925f0e"), looks := true }, kinds := [], alts := [], laidByText := true, laidKinds := [.handle, .sentinel, .sentinel, .sentinel, .data], laidTests := true, laidLooks := .later }
def SyntaxRemarksUptoCardSaid : Prop := Claim7.holds Tryz.pinned (.plain (OpenSpec.upto syntaxRemarksSpec)) syntaxRemarksUptoCard

/-- THE SECOND FORM's CARD OF 'deducelaw.SyntaxJoined'. -/
def syntaxJoinedUptoCard : Claim7 := { stood := { row := syntaxJoinedUptoRow, standIns := [], harness := (true, "cfcb53588514f27978adbe2f82b98f34de6bd898aed77f215757f06619925f0e"), looks := true }, kinds := [], alts := [], laidByText := true, laidKinds := [.handle, .sentinel, .sentinel, .sentinel, .data], laidTests := true, laidLooks := .later }
def SyntaxJoinedUptoCardSaid : Prop := Claim7.holds Tryz.pinned (.plain (OpenSpec.upto syntaxJoinedSpec)) syntaxJoinedUptoCard
end Rows
end Go.Proofs.YtoelacloghkooaaGreatDoor
