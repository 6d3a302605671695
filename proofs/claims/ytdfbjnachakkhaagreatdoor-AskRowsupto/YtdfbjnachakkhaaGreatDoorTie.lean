/-
  DERIVED. GIVEN WITH THE SEED: THE PROGRAM's TIES (one call each: nine closed facts by the kernel) AND EACH ROW's TIE, after the 31st guide's Derived/Test/Toyas{Tie, Card}.lean. No idea stands in it: it is a product of the set-up. Laid BY PROGRAM, IN A SANDBOX (cutbox-door.mjs). By AI agents, Wed Nov 11 2026. No macro, syntax, notation, axiom, sorry.
-/
import Derived.Test.YtdfbjnachakkhaaGreatDoorRows
import Derived.LaidByTextLater
import Derived.SevenTiedAt
import Derived.LaidSub
import Derived.LaidOnce
namespace Go.Proofs.YtdfbjnachakkhaaGreatDoor
open Go
set_option maxRecDepth 100000
theorem seatTie1 : Tryz.prog.laidByTextLater [("errors.errorType", Rows.laid_errors_errorType), ("deduce/syntax.errLong", Rows.laid_deduce_syntax_errLong), ("deduce/syntax.errText", Rows.laid_deduce_syntax_errText), ("deduce/syntax.errMany", Rows.laid_deduce_syntax_errMany), ("deduce/syntax.signs", Rows.laid_deduce_syntax_signs)] [.handle, .sentinel, .sentinel, .sentinel, .data] true :=
  Program.laidByTextLater_by_one 78 8 6 (by kernel_rfl) (by kernel_rfl) (by kernel_rfl) (by kernel_rfl) (by kernel_rfl) (by kernel_rfl) (fun _ _ => by kernel_rfl)
theorem noOwnUnsafe : Tryz.pinned.checked.prog.headLifts.contains "ownunsafe" = false := by kernel_rfl
theorem tie : Tryz.prog.laidByTextLater [("errors.errorType", Rows.laid_errors_errorType), ("deduce/syntax.errLong", Rows.laid_deduce_syntax_errLong), ("deduce/syntax.errText", Rows.laid_deduce_syntax_errText), ("deduce/syntax.errMany", Rows.laid_deduce_syntax_errMany), ("deduce/syntax.signs", Rows.laid_deduce_syntax_signs)] [.handle, .sentinel, .sentinel, .sentinel, .data] true :=
  Program.laidByTextLater.sub seatTie1 ["errors.errorType", "deduce/syntax.errLong", "deduce/syntax.errText", "deduce/syntax.errMany", "deduce/syntax.signs"] (by kernel_rfl) (by kernel_rfl)
theorem askRows_row_tie : Rows.askRowsRow.laidByTextAt .later Tryz.pinned [.handle, .sentinel, .sentinel, .sentinel, .data] true :=
  OpenClaim.laidByTextAt_later rfl rfl tie noOwnUnsafe
theorem askRowsUpto_row_tie : Rows.askRowsUptoRow.laidByTextAt .later Tryz.pinned [.handle, .sentinel, .sentinel, .sentinel, .data] true :=
  OpenClaim.laidByTextAt_later rfl rfl tie noOwnUnsafe
end Go.Proofs.YtdfbjnachakkhaaGreatDoor
