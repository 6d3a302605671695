/-
  The law's own words on rows: 'sameRows', 'sameRelation', 'relation', walked.
-/
import Derived.Test.YtiinohajdibflabDoorRowsWalk
import Derived.Test.YtiinohajdibflabDoorRefTidy
namespace Go.Proofs.YtiinohajdibflabDoor
open Go.ChangeShapes Go.WideShapes Go.ChangeAt Go.RowKit
set_option linter.unusedVariables false
theorem rows_next (L : List (List (List UInt8))) (k : Nat) (h : k < L.length) : L.take (k + 1) = L.take k ++ [L[k]] := List.take_succ_eq_append_getElem h
end Go.Proofs.YtiinohajdibflabDoor
