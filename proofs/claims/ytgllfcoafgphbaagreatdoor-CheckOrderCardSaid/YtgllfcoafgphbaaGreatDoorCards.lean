/-
  DERIVED. GIVEN WITH THE SEED: THE CARDS: each row of YtgllfcoafgphbaaGreatDoorRows.lean that lists a variable, with what it lists TIED to the program's text (the seventh form; the later family's looks); each row that meets fmt, with fmt's text TOLD by the authors' own Lean function (tested against real Go, not proved from fmt's source: count such statements apart). THE CARD IS WHAT COUNTS. Prove the row's statement (the work); the ties are given (YtgllfcoafgphbaaGreatDoorTie.lean); close each card by the builder's one call (the guide's Derived/Test/ToyasCard.lean, 'card_holds'). Laid BY PROGRAM, IN A SANDBOX (cutbox-door.mjs). By AI agents, Wed Nov 11 2026. No macro, syntax, notation, axiom, sorry.
-/
import Derived.Test.YtgllfcoafgphbaaGreatDoorRows
import GoSem.ClaimSeven
namespace Go.Proofs.YtgllfcoafgphbaaGreatDoor
namespace Rows

/-- THE TIED CARD OF 'deducelaw.CheckChecks'. -/
def checkChecksCard : Claim7 := { stood := { row := checkChecksRow, standIns := [], harness := (true, "a2af606fe09a96b65b33e86d85b6608e41eefbcfc00fd9702a567194edf33db1"), looks := true }, kinds := [], alts := [], laidByText := true, laidKinds := [.handle, .sentinel, .sentinel, .sentinel, .data], laidTests := true, laidLooks := .later }
def CheckChecksCardSaid : Prop := Claim7.holds Tryz.pinned (.plain (OpenSpec.ofChange checkChecksSpec)) checkChecksCard

/-- THE TIED CARD OF 'deducelaw.CheckLevels'. -/
def checkLevelsCard : Claim7 := { stood := { row := checkLevelsRow, standIns := [], harness := (true, "a2af606fe09a96b65b33e86d85b6608e41eefbcfc00fd9702a567194edf33db1"), looks := true }, kinds := [], alts := [], laidByText := true, laidKinds := [.handle, .sentinel, .sentinel, .sentinel, .data], laidTests := true, laidLooks := .later }
def CheckLevelsCardSaid : Prop := Claim7.holds Tryz.pinned (.plain (OpenSpec.ofChange checkLevelsSpec)) checkLevelsCard

/-- THE TIED CARD OF 'deducelaw.CheckSound'. -/
def checkSoundCard : Claim7 := { stood := { row := checkSoundRow, standIns := [], harness := (true, "a2af606fe09a96b65b33e86d85b6608e41eefbcfc00fd9702a567194edf33db1"), looks := true }, kinds := [], alts := [], laidByText := true, laidKinds := [.handle, .sentinel, .sentinel, .sentinel, .data], laidTests := true, laidLooks := .later }
def CheckSoundCardSaid : Prop := Claim7.holds Tryz.pinned (.plain (OpenSpec.ofChange checkSoundSpec)) checkSoundCard

/-- THE TIED CARD OF 'deducelaw.CheckOrder'. -/
def checkOrderCard : Claim7 := { stood := { row := checkOrderRow, standIns := [], harness := (true, "a2af606fe09a96b65b33e86d85b6608e41eefbcfc00fd9702a567194edf33db1"), looks := true }, kinds := [], alts := [], laidByText := true, laidKinds := [.handle, .sentinel, .sentinel, .sentinel, .data], laidTests := true, laidLooks := .later }
def CheckOrderCardSaid : Prop := Claim7.holds Tryz.pinned (.plain (OpenSpec.ofChange checkOrderSpec)) checkOrderCard

/-- THE TIED CARD OF 'deducelaw.CheckForm'. -/
def checkFormCard : Claim7 := { stood := { row := checkFormRow, standIns := [], harness := (true, "a2af606fe09a96b65b33e86d85b6608e41eefbcfc00fd9702a567194edf33db1"), looks := true }, kinds := [], alts := [], laidByText := true, laidKinds := [.handle, .sentinel, .sentinel, .sentinel, .data], laidTests := true, laidLooks := .later }
def CheckFormCardSaid : Prop := Claim7.holds Tryz.pinned (.plain (OpenSpec.ofChange checkFormSpec)) checkFormCard

/-- THE SECOND FORM's CARD OF 'deducelaw.CheckChecks'. -/
def checkChecksUptoCard : Claim7 := { stood := { row := checkChecksUptoRow, standIns := [], harness := (true, "a2af606fe09a96b65b33e86d85b6608e41eefbcfc00fd9702a567194edf33db1"), looks := true }, kinds := [], alts := [], laidByText := true, laidKinds := [.handle, .sentinel, .sentinel, .sentinel, .data], laidTests := true, laidLooks := .later }
def CheckChecksUptoCardSaid : Prop := Claim7.holds Tryz.pinned (.plain (OpenSpec.upto checkChecksSpec)) checkChecksUptoCard

/-- THE SECOND FORM's CARD OF 'deducelaw.CheckLevels'. -/
def checkLevelsUptoCard : Claim7 := { stood := { row := checkLevelsUptoRow, standIns := [], harness := (true, "a2af606fe09a96b65b33e86d85b6608e41eefbcfc00fd9702a567194edf33db1"), looks := true }, kinds := [], alts := [], laidByText := true, laidKinds := [.handle, .sentinel, .sentinel, .sentinel, .data], laidTests := true, laidLooks := .later }
def CheckLevelsUptoCardSaid : Prop := Claim7.holds Tryz.pinned (.plain (OpenSpec.upto checkLevelsSpec)) checkLevelsUptoCard

/-- THE SECOND FORM's CARD OF 'deducelaw.CheckSound'. -/
def checkSoundUptoCard : Claim7 := { stood := { row := checkSoundUptoRow, standIns := [], harness := (true, "a2af606fe09a96b65b33e86d85b6608e41eefbcfc00fd9702a567194edf33db1"), looks := true }, kinds := [], alts := [], laidByText := true, laidKinds := [.handle, .sentinel, .sentinel, .sentinel, .data], laidTests := true, laidLooks := .later }
def CheckSoundUptoCardSaid : Prop := Claim7.holds Tryz.pinned (.plain (OpenSpec.upto checkSoundSpec)) checkSoundUptoCard

/-- THE SECOND FORM's CARD OF 'deducelaw.CheckOrder'. -/
def checkOrderUptoCard : Claim7 := { stood := { row := checkOrderUptoRow, standIns := [], harness := (true, "a2af606fe09a96b65b33e86d85b6608e41eefbcfc00fd9702a567194edf33db1"), looks := true }, kinds := [], alts := [], laidByText := true, laidKinds := [.handle, .sentinel, .sentinel, .sentinel, .data], laidTests := true, laidLooks := .later }
def CheckOrderUptoCardSaid : Prop := Claim7.holds Tryz.pinned (.plain (OpenSpec.upto checkOrderSpec)) checkOrderUptoCard

/-- THE SECOND FORM's CARD OF 'deducelaw.CheckForm'. -/
def checkFormUptoCard : Claim7 := { stood := { row := checkFormUptoRow, standIns := [], harness := (true, "a2af606fe09a96b65b33e86d85b6608e41eefbcfc00fd9702a567194edf33db1"), looks := true }, kinds := [], alts := [], laidByText := true, laidKinds := [.handle, .sentinel, .sentinel, .sentinel, .data], laidTests := true, laidLooks := .later }
def CheckFormUptoCardSaid : Prop := Claim7.holds Tryz.pinned (.plain (OpenSpec.upto checkFormSpec)) checkFormUptoCard
end Rows
end Go.Proofs.YtgllfcoafgphbaaGreatDoor
