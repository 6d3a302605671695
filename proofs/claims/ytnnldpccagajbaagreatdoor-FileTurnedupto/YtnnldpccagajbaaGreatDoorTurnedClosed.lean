import Derived.Test.YtnnldpccagajbaaGreatDoorRows
import Derived.ProofKit
import Derived.JoinedCond
import Derived.SizedLaws
import Derived.ChangeOld
/-
  The closed facts of 'Rows.fileTurnedUptoRow'.
-/
namespace Go.Proofs.YtnnldpccagajbaaGreatDoor.fileTurned
open Go.ChangeShapes Go.WideShapes Go.ChangeAt Go.RowKit
set_option maxRecDepth 100000
set_option maxHeartbeats 8000000 in
theorem closed : joinedFacts Tryz.pinned.checked.prog 5 Tryz.f5 (Rows.OpenSpec.upto Rows.fileTurnedSpec).bare Rows.fileTurnedUptoRow = true := by
  unfold joinedFacts
  repeat' (with_reducible refine Bool.and_eq_true_iff.2 ⟨?_, ?_⟩)
  all_goals (as_aux_lemma => kernel_rfl)
end Go.Proofs.YtnnldpccagajbaaGreatDoor.fileTurned
