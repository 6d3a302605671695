import Derived.Test.YtgllfcoafgphbaaGreatDoorM27
/-
  The document's ReadQuery, walked.
-/
namespace Go.Proofs.YtgllfcoafgphbaaGreatDoor
open Go.ChangeShapes Go.WideShapes Go.ChangeAt Go.RowKit
set_option linter.unusedVariables false
/-- an answer of parts, or an error and its place -/
def PartsR (tT tP : TypeId) (base : Nat) (r : Except PErr (List PPart)) (en : Ending) (w : World) : Prop := match r with
  | .error (e, x) => en = .returned (.tuple #[.slice none 0 0, .int .i64 (e : Nat), .int .i64 (x : Nat)])
  | .ok ps => ∃ v vs, en = .returned (.tuple #[v, .int .i64 0, .int .i64 0]) ∧ PartsAt tT tP base w v ps vs
end Go.Proofs.YtgllfcoafgphbaaGreatDoor
