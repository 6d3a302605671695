import Derived.Test.YtkaminplfnejhabDoorM09
import Derived.Test.YtkaminplfnejhabDoorM20
/-
  The law's own words on rows: 'sameRows', 'sameRelation', 'relation', walked.
-/
namespace Go.Proofs.YtkaminplfnejhabDoor
open Go.ChangeShapes Go.WideShapes Go.ChangeAt Go.RowKit
set_option linter.unusedVariables false
theorem rows_next (L : List (List (List UInt8))) (k : Nat) (h : k < L.length) : L.take (k + 1) = L.take k ++ [L[k]] := List.take_succ_eq_append_getElem h
end Go.Proofs.YtkaminplfnejhabDoor
