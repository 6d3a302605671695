/-
  DERIVED. GIVEN WITH THE SEED: THE CARDS: each row of YtkaminplfnejhabDoorRows.lean that lists a variable, with what it lists TIED to the program's text (the seventh form; the later family's looks); each row that meets fmt, with fmt's text TOLD by the authors' own Lean function (tested against real Go, not proved from fmt's source: count such statements apart). THE CARD IS WHAT COUNTS. Prove the row's statement (the work); the ties are given (YtkaminplfnejhabDoorTie.lean); close each card by the builder's one call (the guide's Derived/Test/ToyasCard.lean, 'card_holds'). Laid BY PROGRAM, IN A SANDBOX (cutbox-door.mjs). By AI agents, Wed Nov 11 2026. No macro, syntax, notation, axiom, sorry.
-/
import Derived.Test.YtkaminplfnejhabDoorRows
import GoSem.ClaimSeven
namespace Go.Proofs.YtkaminplfnejhabDoor
namespace Rows

/-- THE TIED CARD OF 'deducelaw.FileOrder'. -/
def fileOrderCard : Claim7 := { stood := { row := fileOrderRow, standIns := [], harness := (true, "51fec2038af8f62db5b8ec132edf292dd0205293344117366545f24df9d73df5"), looks := true }, kinds := [], alts := [], laidByText := true, laidKinds := [.called], laidTests := true, laidLooks := .later }
def FileOrderCardSaid : Prop := Claim7.holds Tryd.pinned (.plain (OpenSpec.ofChange fileOrderSpec)) fileOrderCard

/-- THE TIED CARD OF 'deducelaw.SyntaxParses'. -/
def syntaxParsesCard : Claim7 := { stood := { row := syntaxParsesRow, standIns := [], harness := (true, "51fec2038af8f62db5b8ec132edf292dd0205293344117366545f24df9d73df5"), looks := true }, kinds := [], alts := [], laidByText := true, laidKinds := [.handle, .sentinel, .sentinel, .sentinel, .data], laidTests := true, laidLooks := .later }
def SyntaxParsesCardSaid : Prop := Claim7.holds Tryd.pinned (.plain (OpenSpec.ofChange syntaxParsesSpec)) syntaxParsesCard

/-- THE TIED CARD OF 'deducelaw.SyntaxQueries'. -/
def syntaxQueriesCard : Claim7 := { stood := { row := syntaxQueriesRow, standIns := [], harness := (true, "51fec2038af8f62db5b8ec132edf292dd0205293344117366545f24df9d73df5"), looks := true }, kinds := [], alts := [], laidByText := true, laidKinds := [.handle, .sentinel, .sentinel, .sentinel, .data], laidTests := true, laidLooks := .later }
def SyntaxQueriesCardSaid : Prop := Claim7.holds Tryd.pinned (.plain (OpenSpec.ofChange syntaxQueriesSpec)) syntaxQueriesCard

/-- THE SECOND FORM's CARD OF 'deducelaw.FileOrder'. -/
def fileOrderUptoCard : Claim7 := { stood := { row := fileOrderUptoRow, standIns := [], harness := (true, "51fec2038af8f62db5b8ec132edf292dd0205293344117366545f24df9d73df5"), looks := true }, kinds := [], alts := [], laidByText := true, laidKinds := [.called], laidTests := true, laidLooks := .later }
def FileOrderUptoCardSaid : Prop := Claim7.holds Tryd.pinned (.plain (OpenSpec.upto fileOrderSpec)) fileOrderUptoCard

/-- THE SECOND FORM's CARD OF 'deducelaw.SyntaxParses'. -/
def syntaxParsesUptoCard : Claim7 := { stood := { row := syntaxParsesUptoRow, standIns := [], harness := (true, "51fec2038af8f62db5b8ec132edf292dd0205293344117366545f24df9d73df5"), looks := true }, kinds := [], alts := [], laidByText := true, laidKinds := [.handle, .sentinel, .sentinel, .sentinel, .data], laidTests := true, laidLooks := .later }
def SyntaxParsesUptoCardSaid : Prop := Claim7.holds Tryd.pinned (.plain (OpenSpec.upto syntaxParsesSpec)) syntaxParsesUptoCard

/-- THE SECOND FORM's CARD OF 'deducelaw.SyntaxQueries'. -/
def syntaxQueriesUptoCard : Claim7 := { stood := { row := syntaxQueriesUptoRow, standIns := [], harness := (true, "51fec2038af8f62db5b8ec132edf292dd0205293344117366545f24df9d73df5"), looks := true }, kinds := [], alts := [], laidByText := true, laidKinds := [.handle, .sentinel, .sentinel, .sentinel, .data], laidTests := true, laidLooks := .later }
def SyntaxQueriesUptoCardSaid : Prop := Claim7.holds Tryd.pinned (.plain (OpenSpec.upto syntaxQueriesSpec)) syntaxQueriesUptoCard
end Rows
end Go.Proofs.YtkaminplfnejhabDoor
