/-
  DERIVED. GIVEN WITH THE SEED: THE CARDS: each row of YtnnldpccagajbaaDoorRows.lean that lists a variable, with what it lists TIED to the program's text (the seventh form; the later family's looks); each row that meets fmt, with fmt's text TOLD by the authors' own Lean function (tested against real Go, not proved from fmt's source: count such statements apart). THE CARD IS WHAT COUNTS. Prove the row's statement (the work); the ties are given (YtnnldpccagajbaaDoorTie.lean); close each card by the builder's one call (the guide's Derived/Test/ToyasCard.lean, 'card_holds'). Laid BY PROGRAM, IN A SANDBOX (cutbox-door.mjs). By AI agents, Wed Nov 11 2026. No macro, syntax, notation, axiom, sorry.
-/
import Derived.Test.YtnnldpccagajbaaDoorRows
import GoSem.ClaimSeven
namespace Go.Proofs.YtnnldpccagajbaaDoor
namespace Rows

/-- THE TIED CARD OF 'deducelaw.FileEncodes'. -/
def fileEncodesCard : Claim7 := { stood := { row := fileEncodesRow, standIns := [], harness := (true, "73d25e1370cf64c86cf4734c82b9dddad61ec145fcdd32d7d52f4077f5310672"), looks := false }, kinds := [], alts := [], laidByText := true, laidKinds := [.called], laidTests := true, laidLooks := .later }
def FileEncodesCardSaid : Prop := Claim7.holds Tryd.pinned (.plain (OpenSpec.ofChange fileEncodesSpec)) fileEncodesCard

/-- THE TIED CARD OF 'deducelaw.FileOrder'. -/
def fileOrderCard : Claim7 := { stood := { row := fileOrderRow, standIns := [], harness := (true, "73d25e1370cf64c86cf4734c82b9dddad61ec145fcdd32d7d52f4077f5310672"), looks := false }, kinds := [], alts := [], laidByText := true, laidKinds := [.called], laidTests := true, laidLooks := .later }
def FileOrderCardSaid : Prop := Claim7.holds Tryd.pinned (.plain (OpenSpec.ofChange fileOrderSpec)) fileOrderCard

/-- THE SECOND FORM's CARD OF 'deducelaw.FileEncodes'. -/
def fileEncodesUptoCard : Claim7 := { stood := { row := fileEncodesUptoRow, standIns := [], harness := (true, "73d25e1370cf64c86cf4734c82b9dddad61ec145fcdd32d7d52f4077f5310672"), looks := false }, kinds := [], alts := [], laidByText := true, laidKinds := [.called], laidTests := true, laidLooks := .later }
def FileEncodesUptoCardSaid : Prop := Claim7.holds Tryd.pinned (.plain (OpenSpec.upto fileEncodesSpec)) fileEncodesUptoCard

/-- THE SECOND FORM's CARD OF 'deducelaw.FileOrder'. -/
def fileOrderUptoCard : Claim7 := { stood := { row := fileOrderUptoRow, standIns := [], harness := (true, "73d25e1370cf64c86cf4734c82b9dddad61ec145fcdd32d7d52f4077f5310672"), looks := false }, kinds := [], alts := [], laidByText := true, laidKinds := [.called], laidTests := true, laidLooks := .later }
def FileOrderUptoCardSaid : Prop := Claim7.holds Tryd.pinned (.plain (OpenSpec.upto fileOrderSpec)) fileOrderUptoCard
end Rows
end Go.Proofs.YtnnldpccagajbaaDoor
