/-
  DERIVED. GIVEN WITH THE SEED: THE CARDS: each row of YtdfbjnachakkhaaGreatDoorRows.lean that lists a variable, with what it lists TIED to the program's text (the seventh form; the later family's looks); each row that meets fmt, with fmt's text TOLD by the authors' own Lean function (tested against real Go, not proved from fmt's source: count such statements apart). THE CARD IS WHAT COUNTS. Prove the row's statement (the work); the ties are given (YtdfbjnachakkhaaGreatDoorTie.lean); close each card by the builder's one call (the guide's Derived/Test/ToyasCard.lean, 'card_holds'). Laid BY PROGRAM, IN A SANDBOX (cutbox-door.mjs). By AI agents, Wed Nov 11 2026. No macro, syntax, notation, axiom, sorry.
-/
import Derived.Test.YtdfbjnachakkhaaGreatDoorRows
import GoSem.ClaimSeven
namespace Go.Proofs.YtdfbjnachakkhaaGreatDoor
namespace Rows

/-- THE TIED CARD OF 'deducelaw.AskRows'. -/
def askRowsCard : Claim7 := { stood := { row := askRowsRow, standIns := [], harness := (true, "b97c5023e6ce28833bf9357e53c88057f595dc205bf364647935df43c555e59f"), looks := true }, kinds := [], alts := [], laidByText := true, laidKinds := [.handle, .sentinel, .sentinel, .sentinel, .data], laidTests := true, laidLooks := .later }
def AskRowsCardSaid : Prop := Claim7.holds Tryz.pinned (.plain (OpenSpec.ofChange askRowsSpec)) askRowsCard

/-- THE SECOND FORM's CARD OF 'deducelaw.AskRows'. -/
def askRowsUptoCard : Claim7 := { stood := { row := askRowsUptoRow, standIns := [], harness := (true, "b97c5023e6ce28833bf9357e53c88057f595dc205bf364647935df43c555e59f"), looks := true }, kinds := [], alts := [], laidByText := true, laidKinds := [.handle, .sentinel, .sentinel, .sentinel, .data], laidTests := true, laidLooks := .later }
def AskRowsUptoCardSaid : Prop := Claim7.holds Tryz.pinned (.plain (OpenSpec.upto askRowsSpec)) askRowsUptoCard
end Rows
end Go.Proofs.YtdfbjnachakkhaaGreatDoor
