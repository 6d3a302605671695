/-
  DERIVED. GIVEN WITH THE SEED: THE CARDS: each row of YtoelacloghkooaaDoorRows.lean that lists a variable, with what it lists TIED to the program's text (the seventh form; the later family's looks); each row that meets fmt, with fmt's text TOLD by the authors' own Lean function (tested against real Go, not proved from fmt's source: count such statements apart). THE CARD IS WHAT COUNTS. Prove the row's statement (the work); the ties are given (YtoelacloghkooaaDoorTie.lean); close each card by the builder's one call (the guide's Derived/Test/ToyasCard.lean, 'card_holds'). Laid BY PROGRAM, IN A SANDBOX (cutbox-door.mjs). By AI agents, Wed Nov 11 2026. No macro, syntax, notation, axiom, sorry.
-/
import Derived.Test.YtoelacloghkooaaDoorRows
import GoSem.ClaimSeven
namespace Go.Proofs.YtoelacloghkooaaDoor
namespace Rows

/-- THE TIED CARD OF 'deducelaw.SyntaxParses'. -/
def syntaxParsesCard : Claim7 := { stood := { row := syntaxParsesRow, standIns := [], harness := (true, "5266cacf8008d12b1a0063fa3ecefa113087bdd479d6638af4b1e47f92ebccef"), looks := true }, kinds := [], alts := [], laidByText := true, laidKinds := [.handle, .sentinel, .sentinel, .sentinel, .data], laidTests := true, laidLooks := .later }
def SyntaxParsesCardSaid : Prop := Claim7.holds Tryd.pinned (.plain (OpenSpec.ofChange syntaxParsesSpec)) syntaxParsesCard

/-- THE TIED CARD OF 'deducelaw.SyntaxQueries'. -/
def syntaxQueriesCard : Claim7 := { stood := { row := syntaxQueriesRow, standIns := [], harness := (true, "5266cacf8008d12b1a0063fa3ecefa113087bdd479d6638af4b1e47f92ebccef"), looks := true }, kinds := [], alts := [], laidByText := true, laidKinds := [.handle, .sentinel, .sentinel, .sentinel, .data], laidTests := true, laidLooks := .later }
def SyntaxQueriesCardSaid : Prop := Claim7.holds Tryd.pinned (.plain (OpenSpec.ofChange syntaxQueriesSpec)) syntaxQueriesCard

/-- THE SECOND FORM's CARD OF 'deducelaw.SyntaxParses'. -/
def syntaxParsesUptoCard : Claim7 := { stood := { row := syntaxParsesUptoRow, standIns := [], harness := (true, "5266cacf8008d12b1a0063fa3ecefa113087bdd479d6638af4b1e47f92ebccef"), looks := true }, kinds := [], alts := [], laidByText := true, laidKinds := [.handle, .sentinel, .sentinel, .sentinel, .data], laidTests := true, laidLooks := .later }
def SyntaxParsesUptoCardSaid : Prop := Claim7.holds Tryd.pinned (.plain (OpenSpec.upto syntaxParsesSpec)) syntaxParsesUptoCard

/-- THE SECOND FORM's CARD OF 'deducelaw.SyntaxQueries'. -/
def syntaxQueriesUptoCard : Claim7 := { stood := { row := syntaxQueriesUptoRow, standIns := [], harness := (true, "5266cacf8008d12b1a0063fa3ecefa113087bdd479d6638af4b1e47f92ebccef"), looks := true }, kinds := [], alts := [], laidByText := true, laidKinds := [.handle, .sentinel, .sentinel, .sentinel, .data], laidTests := true, laidLooks := .later }
def SyntaxQueriesUptoCardSaid : Prop := Claim7.holds Tryd.pinned (.plain (OpenSpec.upto syntaxQueriesSpec)) syntaxQueriesUptoCard
end Rows
end Go.Proofs.YtoelacloghkooaaDoor
