/-
  DERIVED. GIVEN WITH THE SEED: THE CARDS: each row of YtnnldpccagajbaaGreatDoorRows.lean that lists a variable, with what it lists TIED to the program's text (the seventh form; the later family's looks); each row that meets fmt, with fmt's text TOLD by the authors' own Lean function (tested against real Go, not proved from fmt's source: count such statements apart). THE CARD IS WHAT COUNTS. Prove the row's statement (the work); the ties are given (YtnnldpccagajbaaGreatDoorTie.lean); close each card by the builder's one call (the guide's Derived/Test/ToyasCard.lean, 'card_holds'). Laid BY PROGRAM, IN A SANDBOX (cutbox-door.mjs). By AI agents, Wed Nov 11 2026. No macro, syntax, notation, axiom, sorry.
-/
import Derived.Test.YtnnldpccagajbaaGreatDoorRows
import GoSem.ClaimSeven
namespace Go.Proofs.YtnnldpccagajbaaGreatDoor
namespace Rows

/-- THE TIED CARD OF 'deducelaw.FileDecodes'. -/
def fileDecodesCard : Claim7 := { stood := { row := fileDecodesRow, standIns := [], harness := (true, "6675542f17dfa4953a2c0dc988eda46826e3f3b5f6b087c7b2ca0dc59d5ba90d"), looks := false }, kinds := [], alts := [], laidByText := true, laidKinds := [.called], laidTests := true, laidLooks := .later }
def FileDecodesCardSaid : Prop := Claim7.holds Tryz.pinned (.plain (OpenSpec.ofChange fileDecodesSpec)) fileDecodesCard

/-- THE TIED CARD OF 'deducelaw.FileBack'. -/
def fileBackCard : Claim7 := { stood := { row := fileBackRow, standIns := [], harness := (true, "6675542f17dfa4953a2c0dc988eda46826e3f3b5f6b087c7b2ca0dc59d5ba90d"), looks := false }, kinds := [], alts := [], laidByText := true, laidKinds := [.called], laidTests := true, laidLooks := .later }
def FileBackCardSaid : Prop := Claim7.holds Tryz.pinned (.plain (OpenSpec.ofChange fileBackSpec)) fileBackCard

/-- THE TIED CARD OF 'deducelaw.FileTurned'. -/
def fileTurnedCard : Claim7 := { stood := { row := fileTurnedRow, standIns := [], harness := (true, "6675542f17dfa4953a2c0dc988eda46826e3f3b5f6b087c7b2ca0dc59d5ba90d"), looks := false }, kinds := [], alts := [], laidByText := true, laidKinds := [.called], laidTests := true, laidLooks := .later }
def FileTurnedCardSaid : Prop := Claim7.holds Tryz.pinned (.plain (OpenSpec.ofChange fileTurnedSpec)) fileTurnedCard

/-- THE TIED CARD OF 'deducelaw.FileCut'. -/
def fileCutCard : Claim7 := { stood := { row := fileCutRow, standIns := [], harness := (true, "6675542f17dfa4953a2c0dc988eda46826e3f3b5f6b087c7b2ca0dc59d5ba90d"), looks := false }, kinds := [], alts := [], laidByText := true, laidKinds := [.called], laidTests := true, laidLooks := .later }
def FileCutCardSaid : Prop := Claim7.holds Tryz.pinned (.plain (OpenSpec.ofChange fileCutSpec)) fileCutCard

/-- THE SECOND FORM's CARD OF 'deducelaw.FileDecodes'. -/
def fileDecodesUptoCard : Claim7 := { stood := { row := fileDecodesUptoRow, standIns := [], harness := (true, "6675542f17dfa4953a2c0dc988eda46826e3f3b5f6b087c7b2ca0dc59d5ba90d"), looks := false }, kinds := [], alts := [], laidByText := true, laidKinds := [.called], laidTests := true, laidLooks := .later }
def FileDecodesUptoCardSaid : Prop := Claim7.holds Tryz.pinned (.plain (OpenSpec.upto fileDecodesSpec)) fileDecodesUptoCard

/-- THE SECOND FORM's CARD OF 'deducelaw.FileBack'. -/
def fileBackUptoCard : Claim7 := { stood := { row := fileBackUptoRow, standIns := [], harness := (true, "6675542f17dfa4953a2c0dc988eda46826e3f3b5f6b087c7b2ca0dc59d5ba90d"), looks := false }, kinds := [], alts := [], laidByText := true, laidKinds := [.called], laidTests := true, laidLooks := .later }
def FileBackUptoCardSaid : Prop := Claim7.holds Tryz.pinned (.plain (OpenSpec.upto fileBackSpec)) fileBackUptoCard

/-- THE SECOND FORM's CARD OF 'deducelaw.FileTurned'. -/
def fileTurnedUptoCard : Claim7 := { stood := { row := fileTurnedUptoRow, standIns := [], harness := (true, "6675542f17dfa4953a2c0dc988eda46826e3f3b5f6b087c7b2ca0dc59d5ba90d"), looks := false }, kinds := [], alts := [], laidByText := true, laidKinds := [.called], laidTests := true, laidLooks := .later }
def FileTurnedUptoCardSaid : Prop := Claim7.holds Tryz.pinned (.plain (OpenSpec.upto fileTurnedSpec)) fileTurnedUptoCard

/-- THE SECOND FORM's CARD OF 'deducelaw.FileCut'. -/
def fileCutUptoCard : Claim7 := { stood := { row := fileCutUptoRow, standIns := [], harness := (true, "6675542f17dfa4953a2c0dc988eda46826e3f3b5f6b087c7b2ca0dc59d5ba90d"), looks := false }, kinds := [], alts := [], laidByText := true, laidKinds := [.called], laidTests := true, laidLooks := .later }
def FileCutUptoCardSaid : Prop := Claim7.holds Tryz.pinned (.plain (OpenSpec.upto fileCutSpec)) fileCutUptoCard
end Rows
end Go.Proofs.YtnnldpccagajbaaGreatDoor
