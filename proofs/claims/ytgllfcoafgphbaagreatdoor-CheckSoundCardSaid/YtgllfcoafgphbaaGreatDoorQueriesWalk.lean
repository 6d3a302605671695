import Derived.Test.YtgllfcoafgphbaaGreatDoorM33
import Derived.Test.YtgllfcoafgphbaaGreatDoorRdQuery
import Derived.Test.YtgllfcoafgphbaaGreatDoorM09
import Derived.Test.YtgllfcoafgphbaaGreatDoorM10
/-
  SyntaxQueries' walk.
-/
namespace Go.Proofs.YtgllfcoafgphbaaGreatDoor
open Go.ChangeShapes Go.WideShapes Go.ChangeAt Go.RowKit
set_option linter.unusedVariables false
set_option maxRecDepth 100000 in
set_option maxHeartbeats 400000 in
theorem num_at (n : Int) (w : World) : Calls Tryz.prog 10 #[.int .i64 n] w fun e w' => e = .returned (.int .i64 n) ∧ w = w' := by
  go_enter Tryz.func10, Tryz.ntmps10
  go_wp2
  go_ret
  exact ⟨rfl, rfl⟩
/-- the three answers of a query, with an error or without -/
def psOf : Except PErr (List PPart) → List PPart
  | .error _ => []
  | .ok ps => ps
def eOf {α : Type} : Except PErr α → Nat
  | .error (e, _) => e
  | .ok _ => 0
def xOf {α : Type} : Except PErr α → Nat
  | .error (_, x) => x
  | .ok _ => 0
theorem partsQ_of {base : Nat} {r : Except PErr (List PPart)} {en : Ending} {w : World} (h : PartsQ base r en w) : ∃ v vs, en = .returned (.tuple #[v, .int .i64 (eOf r : Nat), .int .i64 (xOf r : Nat)]) ∧ PartsAt 76 164 base w v (psOf r) vs := by
  cases r with
  | error er => obtain ⟨e, x⟩ := er; exact ⟨_, _, h, PartsAt.nil _ _ _ _⟩
  | ok ps => exact h
theorem partsR_of {tT tP : TypeId} {base : Nat} {r : Except PErr (List PPart)} {en : Ending} {w : World} (h : PartsR tT tP base r en w) : ∃ v vs, en = .returned (.tuple #[v, .int .i64 (eOf r : Nat), .int .i64 (xOf r : Nat)]) ∧ PartsAt tT tP base w v (psOf r) vs := by
  cases r with
  | error er => obtain ⟨e, x⟩ := er; exact ⟨_, _, h, PartsAt.nil _ _ _ _⟩
  | ok ps => exact h
theorem ErrB.below {w w' : World} {L T M : Addr} {B : Nat} (h : ErrB w L T M) (hg : Below B w w') (hb : w.heap.size ≤ B) : ErrB w' L T M := by
  have k : ∀ a : Addr, (∃ c t, w.heap[a.block]? = some (.cells c t (0, 0))) → ∃ c t, w'.heap[a.block]? = some (.cells c t (0, 0)) := fun a ⟨c, t, h⟩ => ⟨c, t, by rw [hg.block _ (Nat.lt_of_lt_of_le (Array.getElem?_eq_some_iff.1 h).1 hb)]; exact h⟩
  exact ⟨k _ h.l, k _ h.t, k _ h.m⟩
theorem below_fresh {w w' : World} (h : w.grownBy w' none) : Below w.heap.size w w' := ⟨h.os, h.tape, h.output, h.size, fun k hk => h.block k hk (by simp)⟩
theorem fresh_below {w w' : World} (h : Below w.heap.size w w') : w.grownBy w' none := ⟨h.os, h.tape, h.output, h.size, fun k hk _ => h.block k hk⟩
theorem psOf_len (l : List UInt8) : (psOf (queryF l)).length ≤ 12 ∧ ∀ x ∈ psOf (queryF l), x.atom.args.length ≤ 8 := by
  cases h : queryF l with
  | error er => simp [psOf]
  | ok ps => exact queryF_len l ps h
end Go.Proofs.YtgllfcoafgphbaaGreatDoor
